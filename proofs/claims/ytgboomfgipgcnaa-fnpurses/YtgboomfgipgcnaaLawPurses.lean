/- The walk of the law FnPurses: its Go text returns true at every code. No condition. -/
import Derived.Test.YtgboomfgipgcnaaNumWalks
import Derived.Test.YtgboomfgipgcnaaRootWalks
import Derived.Test.YtgboomfgipgcnaaNumDraws
import Derived.Test.YtgboomfgipgcnaaLater
namespace Go.Proofs.Ytgboomfgipgcnaa
open Go.ChangeShapes Go.WideShapes Go.ChangeAt Go.RowKit
set_option linter.unusedVariables false

theorem implRootOf_as (v c r : Int) (hc : Nums.rtC v = c) (hr : Nums.rtV v = r) (w : World) :
    Calls Try.prog 13 #[.int .i64 v] w fun e w' => e = .returned (.agg #[.int .i64 c, .int .i64 r]) ∧ w' = w.alloc (.cells #[.int .i64 c, .int .i64 r] 27) := by
  subst hc hr; exact implRootOf v w
theorem specRootOf_as (v c r : Int) (hc : Nums.rtC v = c) (hr : Nums.rtV v = r) (w : World) :
    Calls Try.prog 14 #[.int .i64 v] w fun e w' => e = .returned (.agg #[.int .i64 c, .int .i64 r]) ∧ w' = w.alloc (.cells #[.int .i64 c, .int .i64 r] 27) := by
  subst hc hr; exact specRootOf v w
set_option maxHeartbeats 2000000 in
theorem purses_walk (w : World) (a : Option Addr) (len cap : Nat) (hb : Bytes w a len w.heap.size) (hl : len ≤ 1048576) :
    Calls Try.prog 3 #[.slice a len cap] w fun e w' => e = .returned (.bool true) ∧ Below w.heap.size w w' := by
  have hf0 : ∀ (s u : Value) (w : World), (Instr.field 27 (.agg #[s, u]) 0).run Try.prog w = .ok s w := fun _ _ _ => by kernel_rfl
  have hf1 : ∀ (s u : Value) (w : World), (Instr.field 27 (.agg #[s, u]) 1).run Try.prog w = .ok u w := fun _ _ _ => by kernel_rfl
  go_enter Try.func3, Try.ntmps3
  go_wp2_with fail
  refine (lwBig_no w a len cap hl).mono ?_
  rintro e w1 ⟨rfl, rfl⟩
  go_wp2_with fail
  refine (drawAddPurse _ a len cap hb hl).mono ?_
  rintro e w2 ⟨x, y, rfl, hx, hy, hb2⟩
  obtain ⟨c, r, hc, hr⟩ : ∃ c r, Hid (Nums.apC x y = c) ∧ Hid (Nums.apV x y = r) := ⟨_, _, rfl, rfl⟩
  have hpurse : (c ≠ 0 ∧ True) ∨ (c = 0 ∧ r = x + y ∧ 0 ≤ x ∧ x ≤ 1000000 ∧ -1000000 ≤ y ∧ y ≤ 1000000 ∧ 0 ≤ x + y ∧ x + y ≤ 1000000) := by
    have g1 := hc.out
    have g2 := hr.out
    subst g1 g2
    rcases Nums.ap_cases x y with ⟨_, e, _⟩ | ⟨_, _, e, _⟩ | ⟨_, _, _, e, _⟩ | ⟨_, _, _, _, e, _⟩ | ⟨_, _, _, _, _, e, _⟩ | ⟨_, _, _, _, _, _, e, _⟩ | ⟨q1, q2, q3, q4, q5, q6, e, e2⟩
    · exact .inl ⟨by rw [e]; decide, trivial⟩
    · exact .inl ⟨by rw [e]; decide, trivial⟩
    · exact .inl ⟨by rw [e]; decide, trivial⟩
    · exact .inl ⟨by rw [e]; decide, trivial⟩
    · exact .inl ⟨by rw [e]; decide, trivial⟩
    · exact .inl ⟨by rw [e]; decide, trivial⟩
    · exact .inr ⟨e, e2, q1, q2, q3, q4, q5, q6⟩
  go_wp2_with fail
  refine (implAddPurse_as x y c r hc.out hr.out _).mono ?_
  rintro e w3 ⟨rfl, rfl⟩
  go_wp2_with fail
  have hbA := (hb2.alloc (hb2.size) (Obj.cells #[Value.int IntKind.i64 c, Value.int IntKind.i64 r] 27)).alloc (by simp; have := hb2.size; omega) (Obj.cells #[Value.int IntKind.i64 c, Value.int IntKind.i64 r] 27)
  refine (drawRootOf _ a len cap (hb.later hbA) hl).mono ?_
  rintro e w4 ⟨v, rfl, hv, hb4⟩
  have hA0 : w4.cell? ⟨w2.heap.size + 1, 0, none⟩ = some (.int .i64 c) := by rw [hb4.cell (by simp)]; simp
  have hA1 : w4.cell? ⟨w2.heap.size + 1, 1, none⟩ = some (.int .i64 r) := by rw [hb4.cell (by simp)]; simp
  have hsz : w2.heap.size + 1 < w4.heap.size := by have := hb4.size; simp at this; omega
  have hbB : Below w1.heap.size w1 w4 := hbA.trans (hb4.mono (by have := hb2.size; simp; omega))
  clear hb4 hbA
  have hroot : (Hid (Nums.rtC v = 3) ∧ Hid (Nums.rtV v = 0)) ∨ ∃ q : Int, Hid (Nums.rtC v = 0) ∧ Hid (Nums.rtV v = q) ∧ 0 ≤ q ∧ q ≤ 1000000 ∧ q * q ≤ v ∧ v < (q + 1) * (q + 1) := by
    rcases Nums.rt_cases v with ⟨_, e1, e2⟩ | ⟨_, _, e1, e2⟩ | ⟨g1, g2, e1, _, e3⟩
    · exact .inl ⟨e1, e2⟩
    · exact .inl ⟨e1, e2⟩
    · exact .inr ⟨_, e1, rfl, e3.1, Nums.root_le e3 g2, e3.2.1, e3.2.2⟩
  rcases hroot with ⟨hc2, hr2⟩ | ⟨q, hc2, hr2, hq0, hq1, hq2, hq3⟩
  · go_wp2_with fail
    refine (implRootOf_as v 3 0 hc2.out hr2.out _).mono ?_
    rintro e w5 ⟨rfl, rfl⟩
    go_wp2_with fail
    have k0 := fun n => Later.cell (w := (w4.alloc (.cells #[.int .i64 3, .int .i64 0] 27)).alloc (.cells #[.int .i64 3, .int .i64 0] 27)) (b := w4.heap.size + 1) (o := 0) (v := .int .i64 3) (by simp) (by simp) n
    refine wp_region_later (by kernel_rfl) (by kernel_rfl) (fun hne => ?_)
    repeat (go_big_quiet_step (((go_at_call 14; exact Later.call1 (specRootOf_as v 3 0 hc2.out hr2.out _)))))
    refine wpQuiet_nil ?_
    rintro _ ⟨n, rfl⟩
    have hN : Below w4.heap.size w4 n.at := (((Below.refl w4.heap.size w4).alloc (Nat.le_refl _) _).alloc (by simp) _).trans (n.bel.mono (by simp; omega))
    have j0 : n.at.cell? ⟨w2.heap.size + 1, 0, none⟩ = some (.int .i64 c) := by rw [hN.cell (p := ⟨w2.heap.size + 1, 0, none⟩) hsz]; exact hA0
    have j1 : n.at.cell? ⟨w2.heap.size + 1, 1, none⟩ = some (.int .i64 r) := by rw [hN.cell (p := ⟨w2.heap.size + 1, 1, none⟩) hsz]; exact hA1
    have hlt : w2.heap.size + 1 < n.at.heap.size := Nat.lt_of_lt_of_le hsz hN.size
    have hbC : Below w1.heap.size w1 n.at := hbB.trans (hN.mono hbB.size)
    rcases hpurse with ⟨hc0, hrr⟩ | ⟨hc0, hrr, hp0, hp1, hp2, hp3, hp4, hp5⟩
    · have hc0' : (c != 0) = true := by simpa using hc0
      go_wp2_with fail
      have m0 := fun n' => Later.cell (w := n.at) hlt j0 n'
      refine wp_region_later (by kernel_rfl) (by kernel_rfl) (fun hne => ?_)
      repeat (go_big_quiet_step (((go_at_call 15; exact Later.call1 (specAddPurse_as x y c r hc.out hr.out _)))))
      refine wpQuiet_nil ?_
      rintro _ ⟨n2, rfl⟩
      go_wp2
      go_ret
      exact ⟨rfl, hbC.trans (n2.bel.mono hbC.size)⟩
    · have hc' : Hid (Nums.apC x y = c) := hc
      obtain rfl := hc0
      obtain rfl := hrr
      go_wp2_with fail
      refine (implAddPurse_as (x + y) (-y) 0 x (Nums.ap_back hp0 hp1 hp2 hp3 hp4 hp5).1 (Nums.ap_back hp0 hp1 hp2 hp3 hp4 hp5).2 _).mono ?_
      rintro e w7 ⟨rfl, rfl⟩
      go_wp2
      go_ret
      exact ⟨rfl, hbC.alloc hbC.size _⟩
  · have d1 : decide (v < q * q) = false := decide_eq_false (by omega)
    have d2 : decide ((q + 1) * (q + 1) ≤ v) = false := decide_eq_false (by omega)
    obtain ⟨b0, b1⟩ := Nums.sq_bd (x := q) (by omega) (by omega)
    obtain ⟨b2, b3⟩ := Nums.sq_bd (x := q + 1) (by omega) (by omega)
    go_wp2_with fail
    refine (implRootOf_as v 0 q hc2.out hr2.out _).mono ?_
    rintro e w5 ⟨rfl, rfl⟩
    go_wp2_with fail
    have k0 := fun n => Later.cell (w := (w4.alloc (.cells #[.int .i64 0, .int .i64 q] 27)).alloc (.cells #[.int .i64 0, .int .i64 q] 27)) (b := w4.heap.size + 1) (o := 0) (v := .int .i64 0) (by simp) (by simp) n
    have k1 := fun n => Later.cell (w := (w4.alloc (.cells #[.int .i64 0, .int .i64 q] 27)).alloc (.cells #[.int .i64 0, .int .i64 q] 27)) (b := w4.heap.size + 1) (o := 1) (v := .int .i64 q) (by simp) (by simp) n
    refine wp_region_later (by kernel_rfl) (by kernel_rfl) (fun hne => ?_)
    repeat (go_big_quiet_step (((go_at_call 14; exact Later.call1 (specRootOf_as v 0 q hc2.out hr2.out _)))))
    refine wpQuiet_nil ?_
    rintro _ ⟨n, rfl⟩
    have hN : Below w4.heap.size w4 n.at := (((Below.refl w4.heap.size w4).alloc (Nat.le_refl _) _).alloc (by simp) _).trans (n.bel.mono (by simp; omega))
    have j0 : n.at.cell? ⟨w2.heap.size + 1, 0, none⟩ = some (.int .i64 c) := by rw [hN.cell (p := ⟨w2.heap.size + 1, 0, none⟩) hsz]; exact hA0
    have j1 : n.at.cell? ⟨w2.heap.size + 1, 1, none⟩ = some (.int .i64 r) := by rw [hN.cell (p := ⟨w2.heap.size + 1, 1, none⟩) hsz]; exact hA1
    have hlt : w2.heap.size + 1 < n.at.heap.size := Nat.lt_of_lt_of_le hsz hN.size
    have hbC : Below w1.heap.size w1 n.at := hbB.trans (hN.mono hbB.size)
    rcases hpurse with ⟨hc0, hrr⟩ | ⟨hc0, hrr, hp0, hp1, hp2, hp3, hp4, hp5⟩
    · have hc0' : (c != 0) = true := by simpa using hc0
      go_wp2_with fail
      have m0 := fun n' => Later.cell (w := n.at) hlt j0 n'
      refine wp_region_later (by kernel_rfl) (by kernel_rfl) (fun hne => ?_)
      repeat (go_big_quiet_step (((go_at_call 15; exact Later.call1 (specAddPurse_as x y c r hc.out hr.out _)))))
      refine wpQuiet_nil ?_
      rintro _ ⟨n2, rfl⟩
      go_wp2
      go_ret
      exact ⟨rfl, hbC.trans (n2.bel.mono hbC.size)⟩
    · have hc' : Hid (Nums.apC x y = c) := hc
      obtain rfl := hc0
      obtain rfl := hrr
      go_wp2_with fail
      refine (implAddPurse_as (x + y) (-y) 0 x (Nums.ap_back hp0 hp1 hp2 hp3 hp4 hp5).1 (Nums.ap_back hp0 hp1 hp2 hp3 hp4 hp5).2 _).mono ?_
      rintro e w7 ⟨rfl, rfl⟩
      go_wp2
      go_ret
      exact ⟨rfl, hbC.alloc hbC.size _⟩

theorem walk_fnPurses (a0 : Option Addr) (len0 cap0 : Nat) (z0 : List Int) (w : World) (w0 : IsRow .u8 w a0 len0 cap0 z0) :
    Calls Try.prog 3 #[.slice a0 len0 cap0] w fun e w' => e = .returned (.bool true) ∧ Below w.heap.size w w' := by
  by_cases hbig : len0 ≤ 1048576
  · exact purses_walk w a0 len0 cap0 (Bytes.of_row w0) hbig
  · go_enter Try.func3, Try.ntmps3
    go_wp2_with fail
    refine (lwBig_yes w a0 len0 cap0 (by omega)).mono ?_
    rintro e w1 ⟨rfl, rfl⟩
    go_wp2
    go_ret
    exact ⟨rfl, Below.refl _ _⟩
end Go.Proofs.Ytgboomfgipgcnaa
