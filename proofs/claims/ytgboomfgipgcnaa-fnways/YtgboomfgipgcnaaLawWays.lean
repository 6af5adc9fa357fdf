/- The walk of the law FnWays: its Go text returns true at every code. No condition. -/
import Derived.Test.YtgboomfgipgcnaaNumWalks
import Derived.Test.YtgboomfgipgcnaaNumDraws
import Derived.Test.YtgboomfgipgcnaaLater
namespace Go.Proofs.Ytgboomfgipgcnaa
open Go.ChangeShapes Go.WideShapes Go.ChangeAt Go.RowKit
set_option linter.unusedVariables false

theorem drawStepTo (w : World) (a : Option Addr) (len cap : Nat) (hb : Bytes w a len w.heap.size) (hl : len ≤ 1048576) :
    Calls Try.prog 22 #[.slice a len cap] w fun e w' => ∃ x y u v : Int, e = .returned (.tuple #[.int .i64 x, .int .i64 y, .int .i64 u, .int .i64 v]) ∧ Below w.heap.size w w' := by
  go_enter Try.func22, Try.ntmps22
  go_wp2_with fail
  refine (drawFarOf w a len cap hb hl).mono ?_
  rintro e w1 ⟨x, y, u, v, rfl, hb1⟩
  go_wp2
  exact bodyPost_ret (v := .tuple #[.int .i64 x, .int .i64 y, .int .i64 u, .int .i64 v]) (by simp [results, Try.results22, go_sem]) rfl ⟨x, y, u, v, rfl, hb1⟩

set_option maxHeartbeats 2000000 in
theorem ways_walk (w : World) (a : Option Addr) (len cap : Nat) (hb : Bytes w a len w.heap.size) (hl : len ≤ 1048576) :
    Calls Try.prog 5 #[.slice a len cap] w fun e w' => e = .returned (.bool true) ∧ Below w.heap.size w w' := by
  have hf0 : ∀ (s u : Value) (w : World), (Instr.field 27 (.agg #[s, u]) 0).run Try.prog w = .ok s w := fun _ _ _ => by kernel_rfl
  have hf1 : ∀ (s u : Value) (w : World), (Instr.field 27 (.agg #[s, u]) 1).run Try.prog w = .ok u w := fun _ _ _ => by kernel_rfl
  go_enter Try.func5, Try.ntmps5
  go_wp2_with fail
  refine (lwBig_no w a len cap hl).mono ?_
  rintro e w1 ⟨rfl, rfl⟩
  go_wp2_with fail
  refine (drawStepTo _ a len cap hb hl).mono ?_
  rintro e w2 ⟨p, q, u, v, rfl, hb2⟩
  have hsz := hb2.size
  have hsy := Nums.far_sym p q u v
  rcases Nums.way_cases p q u v with ⟨hC, hV, hX, hY⟩ | ⟨hC, hV, hX, hY, hC', hV'⟩ | ⟨f, x, y, hf, hf', hC, hV, hX, hY, hC', hV'⟩
  · have HC : Hid (Nums.faC p q u v = 3) := hC
    have HV : Hid (Nums.faV p q u v = 0) := hV
    have HX : Hid (Nums.stX p q u v = 0) := hX
    have HY : Hid (Nums.stY p q u v = 0) := hY
    clear hC hV hX hY hsy
    go_wp2_with fail
    refine (implStepTo_as p q u v 3 0 0 HC.out HX.out HY.out _).mono ?_
    rintro e w3 ⟨rfl, rfl⟩
    go_wp2_with fail
    refine (implFarOf_as p q u v 3 0 HC.out HV.out _).mono ?_
    rintro e w4 ⟨rfl, rfl⟩
    go_wp2_with fail
    have hL : Below w1.heap.size w1 ((((w2.alloc (.cells #[.int .i64 3, .int .i64 0, .int .i64 0] 34)).alloc (.cells #[.int .i64 3, .int .i64 0, .int .i64 0] 34)).alloc (.cells #[.int .i64 3, .int .i64 0] 27)).alloc (.cells #[.int .i64 3, .int .i64 0] 27)) := (((hb2.alloc hsz _).alloc (by simp; omega) _).alloc (by simp; omega) _).alloc (by simp; omega) _
    have k0 := fun n => Later.cell (w := (((w2.alloc (.cells #[.int .i64 3, .int .i64 0, .int .i64 0] 34)).alloc (.cells #[.int .i64 3, .int .i64 0, .int .i64 0] 34)).alloc (.cells #[.int .i64 3, .int .i64 0] 27)).alloc (.cells #[.int .i64 3, .int .i64 0] 27)) (b := w2.heap.size + 1) (o := 0) (v := .int .i64 3) (by simp) (by go_simp) n
    have k1 := fun n => Later.cell (w := (((w2.alloc (.cells #[.int .i64 3, .int .i64 0, .int .i64 0] 34)).alloc (.cells #[.int .i64 3, .int .i64 0, .int .i64 0] 34)).alloc (.cells #[.int .i64 3, .int .i64 0] 27)).alloc (.cells #[.int .i64 3, .int .i64 0] 27)) (b := w2.heap.size + 1) (o := 1) (v := .int .i64 0) (by simp) (by go_simp) n
    have k2 := fun n => Later.cell (w := (((w2.alloc (.cells #[.int .i64 3, .int .i64 0, .int .i64 0] 34)).alloc (.cells #[.int .i64 3, .int .i64 0, .int .i64 0] 34)).alloc (.cells #[.int .i64 3, .int .i64 0] 27)).alloc (.cells #[.int .i64 3, .int .i64 0] 27)) (b := w2.heap.size + 1) (o := 2) (v := .int .i64 0) (by simp) (by go_simp) n
    have k3 := fun n => Later.cell (w := (((w2.alloc (.cells #[.int .i64 3, .int .i64 0, .int .i64 0] 34)).alloc (.cells #[.int .i64 3, .int .i64 0, .int .i64 0] 34)).alloc (.cells #[.int .i64 3, .int .i64 0] 27)).alloc (.cells #[.int .i64 3, .int .i64 0] 27)) (b := w2.heap.size + 3) (o := 0) (v := .int .i64 3) (by simp) (by go_simp) n
    have k4 := fun n => Later.cell (w := (((w2.alloc (.cells #[.int .i64 3, .int .i64 0, .int .i64 0] 34)).alloc (.cells #[.int .i64 3, .int .i64 0, .int .i64 0] 34)).alloc (.cells #[.int .i64 3, .int .i64 0] 27)).alloc (.cells #[.int .i64 3, .int .i64 0] 27)) (b := w2.heap.size + 3) (o := 1) (v := .int .i64 0) (by simp) (by go_simp) n
    refine wp_region_later (by kernel_rfl) (by kernel_rfl) (fun hne => ?_)
    repeat (go_big_quiet_step (((go_at_call 25; exact Later.call1 (specFarOf_as p q u v 3 0 HC.out HV.out _)))))
    refine wpQuiet_nil ?_
    rintro _ ⟨nq, rfl⟩
    have hbC : Below w1.heap.size w1 nq.at := hL.trans (nq.bel.mono hL.size)
    go_wp2
    go_ret
    exact ⟨rfl, hbC⟩
  · have HC : Hid (Nums.faC p q u v = 0) := hC
    have HV : Hid (Nums.faV p q u v = 0) := hV
    have HX : Hid (Nums.stX p q u v = p) := hX
    have HY : Hid (Nums.stY p q u v = q) := hY
    have GC : Hid (Nums.faC u v p q = 0) := hsy.1.trans hC
    have GV : Hid (Nums.faV u v p q = 0) := hsy.2.trans hV
    have NC : Hid (Nums.faC p q u v = 0) := hC'
    have NV : Hid (Nums.faV p q u v = 0) := hV'
    clear hC hV hX hY hsy hC' hV'
    go_wp2_with fail
    refine (implStepTo_as p q u v 0 p q HC.out HX.out HY.out _).mono ?_
    rintro e w3 ⟨rfl, rfl⟩
    go_wp2_with fail
    refine (implFarOf_as p q u v 0 0 HC.out HV.out _).mono ?_
    rintro e w4 ⟨rfl, rfl⟩
    go_wp2_with fail
    have hL : Below w1.heap.size w1 ((((w2.alloc (.cells #[.int .i64 0, .int .i64 p, .int .i64 q] 34)).alloc (.cells #[.int .i64 0, .int .i64 p, .int .i64 q] 34)).alloc (.cells #[.int .i64 0, .int .i64 0] 27)).alloc (.cells #[.int .i64 0, .int .i64 0] 27)) := (((hb2.alloc hsz _).alloc (by simp; omega) _).alloc (by simp; omega) _).alloc (by simp; omega) _
    have k0 := fun n => Later.cell (w := (((w2.alloc (.cells #[.int .i64 0, .int .i64 p, .int .i64 q] 34)).alloc (.cells #[.int .i64 0, .int .i64 p, .int .i64 q] 34)).alloc (.cells #[.int .i64 0, .int .i64 0] 27)).alloc (.cells #[.int .i64 0, .int .i64 0] 27)) (b := w2.heap.size + 1) (o := 0) (v := .int .i64 0) (by simp) (by go_simp) n
    have k1 := fun n => Later.cell (w := (((w2.alloc (.cells #[.int .i64 0, .int .i64 p, .int .i64 q] 34)).alloc (.cells #[.int .i64 0, .int .i64 p, .int .i64 q] 34)).alloc (.cells #[.int .i64 0, .int .i64 0] 27)).alloc (.cells #[.int .i64 0, .int .i64 0] 27)) (b := w2.heap.size + 1) (o := 1) (v := .int .i64 p) (by simp) (by go_simp) n
    have k2 := fun n => Later.cell (w := (((w2.alloc (.cells #[.int .i64 0, .int .i64 p, .int .i64 q] 34)).alloc (.cells #[.int .i64 0, .int .i64 p, .int .i64 q] 34)).alloc (.cells #[.int .i64 0, .int .i64 0] 27)).alloc (.cells #[.int .i64 0, .int .i64 0] 27)) (b := w2.heap.size + 1) (o := 2) (v := .int .i64 q) (by simp) (by go_simp) n
    have k3 := fun n => Later.cell (w := (((w2.alloc (.cells #[.int .i64 0, .int .i64 p, .int .i64 q] 34)).alloc (.cells #[.int .i64 0, .int .i64 p, .int .i64 q] 34)).alloc (.cells #[.int .i64 0, .int .i64 0] 27)).alloc (.cells #[.int .i64 0, .int .i64 0] 27)) (b := w2.heap.size + 3) (o := 0) (v := .int .i64 0) (by simp) (by go_simp) n
    have k4 := fun n => Later.cell (w := (((w2.alloc (.cells #[.int .i64 0, .int .i64 p, .int .i64 q] 34)).alloc (.cells #[.int .i64 0, .int .i64 p, .int .i64 q] 34)).alloc (.cells #[.int .i64 0, .int .i64 0] 27)).alloc (.cells #[.int .i64 0, .int .i64 0] 27)) (b := w2.heap.size + 3) (o := 1) (v := .int .i64 0) (by simp) (by go_simp) n
    refine wp_region_later (by kernel_rfl) (by kernel_rfl) (fun hne => ?_)
    repeat (go_big_quiet_step (((go_at_call 25; exact Later.call1 (specFarOf_as p q u v 0 0 HC.out HV.out _)))))
    refine wpQuiet_nil ?_
    rintro _ ⟨nq, rfl⟩
    have hbC : Below w1.heap.size w1 nq.at := hL.trans (nq.bel.mono hL.size)
    have hlt : w2.heap.size + 3 < nq.at.heap.size := by have := nq.bel.size; simp at this; omega
    have j0 := k0 nq
    have j1 := k1 nq
    have j2 := k2 nq
    have j3 := k3 nq
    have j4 := k4 nq
    clear k0 k1 k2 k3 k4 hL
    generalize nq.at = w5 at *
    clear nq
    go_wp2_with fail
    refine (implFarOf_as p q u v 0 (0) NC.out NV.out _).mono ?_
    rintro e w6 ⟨rfl, rfl⟩
    go_wp2_with fail
    have m0 := fun n => Later.cell (w := (w5.alloc (.cells #[.int .i64 0, .int .i64 (0)] 27)).alloc (.cells #[.int .i64 0, .int .i64 (0)] 27)) (b := w5.heap.size + 1) (o := 0) (v := .int .i64 0) (by simp) (by go_simp) n
    have m1 := fun n => Later.cell (w := (w5.alloc (.cells #[.int .i64 0, .int .i64 (0)] 27)).alloc (.cells #[.int .i64 0, .int .i64 (0)] 27)) (b := w5.heap.size + 1) (o := 1) (v := .int .i64 (0)) (by simp) (by go_simp) n
    have hW : Below w5.heap.size w5 ((w5.alloc (.cells #[.int .i64 0, .int .i64 (0)] 27)).alloc (.cells #[.int .i64 0, .int .i64 (0)] 27)) := ((Below.refl w5.heap.size w5).alloc (Nat.le_refl _) _).alloc (by simp) _
    have m2 := fun n => Later.cell (w := (w5.alloc (.cells #[.int .i64 0, .int .i64 (0)] 27)).alloc (.cells #[.int .i64 0, .int .i64 (0)] 27)) (b := w2.heap.size + 1) (o := 1) (v := .int .i64 p) (by have := hW.size; omega) (by rw [hW.cell (by simp; omega)]; exact j1) n
    have m3 := fun n => Later.cell (w := (w5.alloc (.cells #[.int .i64 0, .int .i64 (0)] 27)).alloc (.cells #[.int .i64 0, .int .i64 (0)] 27)) (b := w2.heap.size + 1) (o := 2) (v := .int .i64 q) (by have := hW.size; omega) (by rw [hW.cell (by simp; omega)]; exact j2) n
    have m4 := fun n => Later.cell (w := (w5.alloc (.cells #[.int .i64 0, .int .i64 (0)] 27)).alloc (.cells #[.int .i64 0, .int .i64 (0)] 27)) (b := w2.heap.size + 3) (o := 1) (v := .int .i64 0) (by have := hW.size; omega) (by rw [hW.cell (by simp; omega)]; exact j4) n
    refine wp_region_later (by kernel_rfl) (by kernel_rfl) (fun hne => ?_)
    repeat (go_big_quiet_step (((go_at_call 24; exact Later.call1 (implFarOf_as u v p q 0 0 GC.out GV.out _)))))
    refine wpQuiet_nil ?_
    rintro _ ⟨n2, rfl⟩
    go_wp2
    go_ret
    exact ⟨rfl, (hbC.trans (hW.mono hbC.size)).trans (n2.bel.mono (Nat.le_trans hbC.size hW.size))⟩
  · have HC : Hid (Nums.faC p q u v = 0) := hC
    have HV : Hid (Nums.faV p q u v = f) := hV
    have HX : Hid (Nums.stX p q u v = x) := hX
    have HY : Hid (Nums.stY p q u v = y) := hY
    have GC : Hid (Nums.faC u v p q = 0) := hsy.1.trans hC
    have GV : Hid (Nums.faV u v p q = f) := hsy.2.trans hV
    have NC : Hid (Nums.faC x y u v = 0) := hC'
    have NV : Hid (Nums.faV x y u v = f - 1) := hV'
    have hf2 : (f == 0) = false := by simp; omega
    clear hC hV hX hY hsy hC' hV'
    go_wp2_with fail
    refine (implStepTo_as p q u v 0 x y HC.out HX.out HY.out _).mono ?_
    rintro e w3 ⟨rfl, rfl⟩
    go_wp2_with fail
    refine (implFarOf_as p q u v 0 f HC.out HV.out _).mono ?_
    rintro e w4 ⟨rfl, rfl⟩
    go_wp2_with fail
    have hL : Below w1.heap.size w1 ((((w2.alloc (.cells #[.int .i64 0, .int .i64 x, .int .i64 y] 34)).alloc (.cells #[.int .i64 0, .int .i64 x, .int .i64 y] 34)).alloc (.cells #[.int .i64 0, .int .i64 f] 27)).alloc (.cells #[.int .i64 0, .int .i64 f] 27)) := (((hb2.alloc hsz _).alloc (by simp; omega) _).alloc (by simp; omega) _).alloc (by simp; omega) _
    have k0 := fun n => Later.cell (w := (((w2.alloc (.cells #[.int .i64 0, .int .i64 x, .int .i64 y] 34)).alloc (.cells #[.int .i64 0, .int .i64 x, .int .i64 y] 34)).alloc (.cells #[.int .i64 0, .int .i64 f] 27)).alloc (.cells #[.int .i64 0, .int .i64 f] 27)) (b := w2.heap.size + 1) (o := 0) (v := .int .i64 0) (by simp) (by go_simp) n
    have k1 := fun n => Later.cell (w := (((w2.alloc (.cells #[.int .i64 0, .int .i64 x, .int .i64 y] 34)).alloc (.cells #[.int .i64 0, .int .i64 x, .int .i64 y] 34)).alloc (.cells #[.int .i64 0, .int .i64 f] 27)).alloc (.cells #[.int .i64 0, .int .i64 f] 27)) (b := w2.heap.size + 1) (o := 1) (v := .int .i64 x) (by simp) (by go_simp) n
    have k2 := fun n => Later.cell (w := (((w2.alloc (.cells #[.int .i64 0, .int .i64 x, .int .i64 y] 34)).alloc (.cells #[.int .i64 0, .int .i64 x, .int .i64 y] 34)).alloc (.cells #[.int .i64 0, .int .i64 f] 27)).alloc (.cells #[.int .i64 0, .int .i64 f] 27)) (b := w2.heap.size + 1) (o := 2) (v := .int .i64 y) (by simp) (by go_simp) n
    have k3 := fun n => Later.cell (w := (((w2.alloc (.cells #[.int .i64 0, .int .i64 x, .int .i64 y] 34)).alloc (.cells #[.int .i64 0, .int .i64 x, .int .i64 y] 34)).alloc (.cells #[.int .i64 0, .int .i64 f] 27)).alloc (.cells #[.int .i64 0, .int .i64 f] 27)) (b := w2.heap.size + 3) (o := 0) (v := .int .i64 0) (by simp) (by go_simp) n
    have k4 := fun n => Later.cell (w := (((w2.alloc (.cells #[.int .i64 0, .int .i64 x, .int .i64 y] 34)).alloc (.cells #[.int .i64 0, .int .i64 x, .int .i64 y] 34)).alloc (.cells #[.int .i64 0, .int .i64 f] 27)).alloc (.cells #[.int .i64 0, .int .i64 f] 27)) (b := w2.heap.size + 3) (o := 1) (v := .int .i64 f) (by simp) (by go_simp) n
    refine wp_region_later (by kernel_rfl) (by kernel_rfl) (fun hne => ?_)
    repeat (go_big_quiet_step (((go_at_call 25; exact Later.call1 (specFarOf_as p q u v 0 f HC.out HV.out _)))))
    refine wpQuiet_nil ?_
    rintro _ ⟨nq, rfl⟩
    have hbC : Below w1.heap.size w1 nq.at := hL.trans (nq.bel.mono hL.size)
    have hlt : w2.heap.size + 3 < nq.at.heap.size := by have := nq.bel.size; simp at this; omega
    have j0 := k0 nq
    have j1 := k1 nq
    have j2 := k2 nq
    have j3 := k3 nq
    have j4 := k4 nq
    clear k0 k1 k2 k3 k4 hL
    generalize nq.at = w5 at *
    clear nq
    go_wp2_with fail
    refine (implFarOf_as x y u v 0 (f - 1) NC.out NV.out _).mono ?_
    rintro e w6 ⟨rfl, rfl⟩
    go_wp2_with fail
    have m0 := fun n => Later.cell (w := (w5.alloc (.cells #[.int .i64 0, .int .i64 (f - 1)] 27)).alloc (.cells #[.int .i64 0, .int .i64 (f - 1)] 27)) (b := w5.heap.size + 1) (o := 0) (v := .int .i64 0) (by simp) (by go_simp) n
    have m1 := fun n => Later.cell (w := (w5.alloc (.cells #[.int .i64 0, .int .i64 (f - 1)] 27)).alloc (.cells #[.int .i64 0, .int .i64 (f - 1)] 27)) (b := w5.heap.size + 1) (o := 1) (v := .int .i64 (f - 1)) (by simp) (by go_simp) n
    have hW : Below w5.heap.size w5 ((w5.alloc (.cells #[.int .i64 0, .int .i64 (f - 1)] 27)).alloc (.cells #[.int .i64 0, .int .i64 (f - 1)] 27)) := ((Below.refl w5.heap.size w5).alloc (Nat.le_refl _) _).alloc (by simp) _
    have m2 := fun n => Later.cell (w := (w5.alloc (.cells #[.int .i64 0, .int .i64 (f - 1)] 27)).alloc (.cells #[.int .i64 0, .int .i64 (f - 1)] 27)) (b := w2.heap.size + 1) (o := 1) (v := .int .i64 x) (by have := hW.size; omega) (by rw [hW.cell (by simp; omega)]; exact j1) n
    have m3 := fun n => Later.cell (w := (w5.alloc (.cells #[.int .i64 0, .int .i64 (f - 1)] 27)).alloc (.cells #[.int .i64 0, .int .i64 (f - 1)] 27)) (b := w2.heap.size + 1) (o := 2) (v := .int .i64 y) (by have := hW.size; omega) (by rw [hW.cell (by simp; omega)]; exact j2) n
    have m4 := fun n => Later.cell (w := (w5.alloc (.cells #[.int .i64 0, .int .i64 (f - 1)] 27)).alloc (.cells #[.int .i64 0, .int .i64 (f - 1)] 27)) (b := w2.heap.size + 3) (o := 1) (v := .int .i64 f) (by have := hW.size; omega) (by rw [hW.cell (by simp; omega)]; exact j4) n
    refine wp_region_later (by kernel_rfl) (by kernel_rfl) (fun hne => ?_)
    repeat (go_big_quiet_step (((go_at_call 24; exact Later.call1 (implFarOf_as u v p q 0 f GC.out GV.out _)))))
    refine wpQuiet_nil ?_
    rintro _ ⟨n2, rfl⟩
    go_wp2
    go_ret
    exact ⟨rfl, (hbC.trans (hW.mono hbC.size)).trans (n2.bel.mono (Nat.le_trans hbC.size hW.size))⟩
theorem walk_fnWays (a0 : Option Addr) (len0 cap0 : Nat) (z0 : List Int) (w : World) (w0 : IsRow .u8 w a0 len0 cap0 z0) :
    Calls Try.prog 5 #[.slice a0 len0 cap0] w fun e w' => e = .returned (.bool true) ∧ Below w.heap.size w w' := by
  by_cases hbig : len0 ≤ 1048576
  · exact ways_walk w a0 len0 cap0 (Bytes.of_row w0) hbig
  · go_enter Try.func5, Try.ntmps5
    go_wp2_with fail
    refine (lwBig_yes w a0 len0 cap0 (by omega)).mono ?_
    rintro e w1 ⟨rfl, rfl⟩
    go_wp2
    go_ret
    exact ⟨rfl, Below.refl _ _⟩
end Go.Proofs.Ytgboomfgipgcnaa
