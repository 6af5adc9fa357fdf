/- The walk of the law FnScales: its Go text returns true at every code. No condition. -/
import Derived.Laws.StructEq
import Derived.Test.YtpcjgpgjjdlfdaaRateScale
import Derived.Test.YtpcjgpgjjdlfdaaRateDraws
import Derived.Test.YtpcjgpgjjdlfdaaLater
import Derived.Test.YtpcjgpgjjdlfdaaCells
namespace Go.Proofs.Ytpcjgpgjjdlfdaa
open Go.ChangeShapes Go.WideShapes Go.ChangeAt Go.RowKit
set_option linter.unusedVariables false

theorem sb_gain {b v : Int} (h0 : 0 ≤ v) (h1 : v ≤ 1000000) : (sbC b v == 0) = gainB b := by
  have s1 := sz_bd b
  rcases sb_cases b v with ⟨k1, e1, e2⟩ | ⟨k1, k2, e1, e2⟩ | ⟨k1, k2, k3, e1, e2⟩ | ⟨k1, k2, k3, k4, k5, e1, e2⟩ | ⟨k1, k2, k3, k4, e1, e2⟩ | ⟨k1, k2, k3, k4, k5, k6, e1, e2⟩ | ⟨k1, k2, k3, k4, k5, e1, e2⟩
  · exfalso; omega
  · exfalso; omega
  all_goals
    rw [e1]
    rcases gain_cases b with ⟨g1, g2, g⟩ | ⟨g1, g2, g⟩ | ⟨g1, g2, g3, g⟩ | ⟨g1, g2, g3, g4, g⟩ | ⟨g1, g2, g3, g4, g⟩ <;> rw [g]
    all_goals first | rfl | (exfalso; omega)

theorem sz_lb {q : Nat} (h : q < 65536) : sz ((Rts.lb q : Nat) : Int) = ((Rts.lb q : Nat) : Int) := by
  have := Rts.lb_lt h
  unfold sz; omega

/-- By so many quarters: at a purse. -/
theorem sb_quarters {q : Nat} {v : Int} (hq : q ≤ 4) (h0 : 0 ≤ v) (h1 : v ≤ 1000000) : sbC ((Rts.lb q : Nat) : Int) v = 0 ∧ sbV ((Rts.lb q : Nat) : Int) v = (q : Int) * v / 4 := by
  have hs := sz_lb (q := q) (by omega)
  have hl := Rts.lb_lt (q := q) (by omega)
  have hqt := Rts.qt_lb (q := q) (by omega)
  have hqv : 0 ≤ (q : Int) * v ∧ (q : Int) * v ≤ 4000000 := by
    refine ⟨Int.mul_nonneg (by omega) h0, ?_⟩
    have := Int.mul_le_mul (a := (q : Int)) (b := v) (c := 4) (d := 1000000) (by omega) h1 h0 (by omega)
    omega
  rcases sb_cases ((Rts.lb q : Nat) : Int) v with ⟨k1, e1, e2⟩ | ⟨k1, k2, e1, e2⟩ | ⟨k1, k2, k3, e1, e2⟩ | ⟨k1, k2, k3, k4, k5, e1, e2⟩ | ⟨k1, k2, k3, k4, e1, e2⟩ | ⟨k1, k2, k3, k4, k5, k6, e1, e2⟩ | ⟨k1, k2, k3, k4, k5, e1, e2⟩
  all_goals try (exfalso; rw [hs] at *; omega)
  · refine ⟨e1, ?_⟩
    rw [e2, hs, hqt]
    omega

theorem parts_shape (b : Int) : ∃ (c : Int) (m : Bool) (x y : Int), partsA b = #[.int .i64 c, .bool m, .int .i64 x, .int .i64 y] := by
  rcases parts_cases b with ⟨_, e⟩ | ⟨_, _, e⟩ | ⟨_, _, e⟩ <;> exact ⟨_, _, _, _, e⟩
theorem partsNe (c : Int) (m : Bool) (x y : Int) (w : World) : (binOp .neq 30 (.agg #[.int .i64 c, .bool m, .int .i64 x, .int .i64 y]) (.agg #[.int .i64 c, .bool m, .int .i64 x, .int .i64 y])).run Try.prog w = .ok (.bool false) w := by
  rw [run_neq_struct, show (10000 : Nat) = 9999 + 1 from rfl, run_equalIn_agg w 9999 30 _ _ (by kernel_rfl) (by kernel_rfl)]
  simp only [Program.fieldsOf, Try.underlying30]
  go_simp

theorem Below.of_alloc {w w' : World} {o : Obj} (h : w' = w.alloc o) : Below w.heap.size w w' := by rw [h]; exact (Below.refl _ _).alloc (Nat.le_refl _) _
theorem Below.of_drew {w w' : World} (h : w' = w ∨ w' = w.drew) : Below w.heap.size w w' := by
  rcases h with rfl | rfl
  · exact Below.refl _ _
  · exact (Below.refl _ _).drew
theorem Below.of_same {w w' : World} (h : w' = w) : Below w.heap.size w w' := by rw [h]; exact Below.refl _ _

set_option maxHeartbeats 4000000 in
theorem scales_walk (w : World) (a : Option Addr) (len cap : Nat) (hb : Bytes w a len w.heap.size) (hl : len ≤ 1048576) :
    Calls Try.prog 3 #[.slice a len cap] w fun e w' => e = .returned (.bool true) ∧ Below w.heap.size w w' := by
  have hf0 : ∀ (s u : Value) (w : World), (Instr.field 27 (.agg #[s, u]) 0).run Try.prog w = .ok s w := fun _ _ _ => by kernel_rfl
  have hf1 : ∀ (s u : Value) (w : World), (Instr.field 27 (.agg #[s, u]) 1).run Try.prog w = .ok u w := fun _ _ _ => by kernel_rfl
  go_enter Try.func3, Try.ntmps3
  go_wp2_with fail
  refine (lwBig_no w a len cap hl).mono ?_
  rintro e w1 ⟨rfl, rfl⟩
  go_wp2_with fail
  refine (drawScaleBy _ a len cap hb hl).mono ?_
  rintro e w2 ⟨b, v, rfl, hb1, hb2, hv, hB2⟩
  have C1 := fun w => implScaleBy b v hb1 hb2 w
  have C2 := fun w => specScaleBy b v w
  have C3 := fun w => implRateParts b hb1 hb2 w
  have C4 := fun w => specRateParts b w
  have C5 := fun w => implIsGain b hb1 hb2 w
  have C6 := fun w => specIsGain b w
  have hsg : Hid (0 ≤ v → v ≤ 1000000 → (sbC b v == 0) = gainB b) := fun h0 h1 => sb_gain h0 h1
  obtain ⟨c, m, x, y, hp⟩ := parts_shape b
  rw [hp] at C3 C4
  clear hp
  generalize sbC b v = sc at C1 C2 hsg
  generalize sbV b v = sv at C1 C2
  generalize gainB b = g at C5 C6 hsg
  have hne := partsNe c m x y
  go_wp2_with fail
  refine (C1 _).mono ?_
  rintro e w3 ⟨rfl, hB3⟩
  go_wp2_with fail
  refine (C3 _).mono ?_
  rintro e w4 ⟨rfl, rfl⟩
  go_wp2_with fail
  have k0 := fun n => Later.cell (w := ((w3.alloc (.cells #[.int .i64 sc, .int .i64 sv] 27)).alloc (.cells #[.int .i64 c, .bool m, .int .i64 x, .int .i64 y] 30)).alloc (.cells #[.int .i64 c, .bool m, .int .i64 x, .int .i64 y] 30)) (b := w3.heap.size) (o := 0) (v := .int .i64 sc) (by simp only [size_new]; omega) (by rw [cell_old _ _ _ _ (by simp only [size_new]; omega), cell_old _ _ _ _ (by simp only [size_new]; omega)]; exact cell_new _ _ _ _ _ rfl) n
  have k1 := fun n => Later.cell (w := ((w3.alloc (.cells #[.int .i64 sc, .int .i64 sv] 27)).alloc (.cells #[.int .i64 c, .bool m, .int .i64 x, .int .i64 y] 30)).alloc (.cells #[.int .i64 c, .bool m, .int .i64 x, .int .i64 y] 30)) (b := w3.heap.size) (o := 1) (v := .int .i64 sv) (by simp only [size_new]; omega) (by rw [cell_old _ _ _ _ (by simp only [size_new]; omega), cell_old _ _ _ _ (by simp only [size_new]; omega)]; exact cell_new _ _ _ _ _ rfl) n
  have p0 := fun n => Later.cell (w := ((w3.alloc (.cells #[.int .i64 sc, .int .i64 sv] 27)).alloc (.cells #[.int .i64 c, .bool m, .int .i64 x, .int .i64 y] 30)).alloc (.cells #[.int .i64 c, .bool m, .int .i64 x, .int .i64 y] 30)) (b := w3.heap.size + 1 + 1) (o := 0) (v := .int .i64 c) (by simp only [size_new]; omega) (by have e := cell_new ((w3.alloc (.cells #[.int .i64 sc, .int .i64 sv] 27)).alloc (.cells #[.int .i64 c, .bool m, .int .i64 x, .int .i64 y] 30)) #[.int .i64 c, .bool m, .int .i64 x, .int .i64 y] 30 0 _ rfl; rw [size_new, size_new] at e; exact e) n
  have p1 := fun n => Later.cell (w := ((w3.alloc (.cells #[.int .i64 sc, .int .i64 sv] 27)).alloc (.cells #[.int .i64 c, .bool m, .int .i64 x, .int .i64 y] 30)).alloc (.cells #[.int .i64 c, .bool m, .int .i64 x, .int .i64 y] 30)) (b := w3.heap.size + 1 + 1) (o := 1) (v := .bool m) (by simp only [size_new]; omega) (by have e := cell_new ((w3.alloc (.cells #[.int .i64 sc, .int .i64 sv] 27)).alloc (.cells #[.int .i64 c, .bool m, .int .i64 x, .int .i64 y] 30)) #[.int .i64 c, .bool m, .int .i64 x, .int .i64 y] 30 1 _ rfl; rw [size_new, size_new] at e; exact e) n
  have p2 := fun n => Later.cell (w := ((w3.alloc (.cells #[.int .i64 sc, .int .i64 sv] 27)).alloc (.cells #[.int .i64 c, .bool m, .int .i64 x, .int .i64 y] 30)).alloc (.cells #[.int .i64 c, .bool m, .int .i64 x, .int .i64 y] 30)) (b := w3.heap.size + 1 + 1) (o := 2) (v := .int .i64 x) (by simp only [size_new]; omega) (by have e := cell_new ((w3.alloc (.cells #[.int .i64 sc, .int .i64 sv] 27)).alloc (.cells #[.int .i64 c, .bool m, .int .i64 x, .int .i64 y] 30)) #[.int .i64 c, .bool m, .int .i64 x, .int .i64 y] 30 2 _ rfl; rw [size_new, size_new] at e; exact e) n
  have p3 := fun n => Later.cell (w := ((w3.alloc (.cells #[.int .i64 sc, .int .i64 sv] 27)).alloc (.cells #[.int .i64 c, .bool m, .int .i64 x, .int .i64 y] 30)).alloc (.cells #[.int .i64 c, .bool m, .int .i64 x, .int .i64 y] 30)) (b := w3.heap.size + 1 + 1) (o := 3) (v := .int .i64 y) (by simp only [size_new]; omega) (by have e := cell_new ((w3.alloc (.cells #[.int .i64 sc, .int .i64 sv] 27)).alloc (.cells #[.int .i64 c, .bool m, .int .i64 x, .int .i64 y] 30)) #[.int .i64 c, .bool m, .int .i64 x, .int .i64 y] 30 3 _ rfl; rw [size_new, size_new] at e; exact e) n
  refine wp_region_later (by kernel_rfl) (by kernel_rfl) (fun hne => ?_)
  repeat (go_big_quiet_step ((first | (go_at_call 13; exact Later.call (C2 _)) | (go_at_call 14; exact Later.call1 (C4 _)) | (go_at_call 15; exact Later.call ((C5 _).mono fun _ _ h => ⟨h.1, Below.of_drew h.2⟩)) | (go_at_call 16; exact Later.call0 (C6 _)))))
  refine wpQuiet_nil ?_
  rintro _ ⟨n, rfl⟩
  clear k1 p0 p1 p2 p3 hne C2 C3 C4 C6 C1
  have hN : Below w3.heap.size w3 n.at := ((((Below.refl w3.heap.size w3).alloc (Nat.le_refl _) _).alloc (by simp only [size_new]; omega) _).alloc (by simp only [size_new]; omega) _).trans (n.bel.mono (by simp only [size_new]; omega))
  have hN2 : w3.heap.size < n.at.heap.size := by have := n.bel.size; simp only [size_new] at this; omega
  have j0 := k0 n
  clear k0
  generalize n.at = W at hN hN2 j0
  have hBW : Below w1.heap.size w1 W := hB2.trans ((hB3.mono hB2.size).trans (hN.mono (Nat.le_trans hB2.size hB3.size)))
  have s4 := sz_lb (q := 4) (by omega)
  have l4 := Rts.lb_lt (q := 4) (by omega)
  have l2 := Rts.lb_lt (q := 2) (by omega)
  have R1 := fun w => implRateBits false 1 0 w
  have R2 := fun w => implRateBits false 0 2 w
  rw [show rbC 1 0 = 0 from rfl, show rbV false 1 0 = ((Rts.lb 4 : Nat) : Int) from rfl] at R1
  rw [show rbC 0 2 = 0 from rfl, show rbV false 0 2 = ((Rts.lb 2 : Nat) : Int) from rfl] at R2
  have D1 := fun w => implScaleBy ((Rts.lb 4 : Nat) : Int) v (by omega) (by omega) w
  have D2 := fun w => implScaleBy ((Rts.lb 2 : Nat) : Int) v (by omega) (by omega) w
  have HV : Hid ((v < 0 ∨ 1000000 < v) → sbC ((Rts.lb 4 : Nat) : Int) v = 3) := fun h => by unfold sbC; rw [if_pos h]
  have HW : Hid (0 ≤ v → v ≤ 1000000 → sbC ((Rts.lb 4 : Nat) : Int) v = 0 ∧ sbV ((Rts.lb 4 : Nat) : Int) v = v ∧ sbV ((Rts.lb 2 : Nat) : Int) v = v / 2) := fun h0 h1 => by
    obtain ⟨e1, e2⟩ := sb_quarters (q := 4) (by omega) h0 h1
    obtain ⟨_, e3⟩ := sb_quarters (q := 2) (by omega) h0 h1
    exact ⟨e1, by rw [e2]; omega, by rw [e3]; omega⟩
  generalize ((Rts.lb 4 : Nat) : Int) = F4 at R1 D1 HV HW
  generalize ((Rts.lb 2 : Nat) : Int) = F2 at R2 D2 HV HW
  generalize sbC F4 v = oc at D1 HV HW
  generalize sbV F4 v = ov at D1 HV HW
  generalize sbC F2 v = tc at D2 HV HW
  generalize sbV F2 v = tv at D2 HV HW
  go_wp2_with fail
  refine (R1 _).mono ?_
  rintro e w5 ⟨rfl, rfl⟩
  go_wp2_with fail
  refine (D1 _).mono ?_
  rintro e w6 ⟨rfl, hB6⟩
  go_wp2_with fail
  refine (R2 _).mono ?_
  rintro e w7 ⟨rfl, rfl⟩
  go_wp2_with fail
  refine (D2 _).mono ?_
  rintro e w8 ⟨rfl, hB8⟩
  have z6 := hB6.size
  have z8 := hB8.size
  simp only [size_new] at z6 z8
  have c60 : w8.cell? ⟨w6.heap.size, 0, none⟩ = some (.int .i64 oc) := by
    rw [hB8.cell (by simp only [size_new]; omega), cell_old _ _ _ _ (by simp only [size_new]; omega)]; exact cell_new _ _ _ _ _ rfl
  have c61 : w8.cell? ⟨w6.heap.size, 1, none⟩ = some (.int .i64 ov) := by
    rw [hB8.cell (by simp only [size_new]; omega), cell_old _ _ _ _ (by simp only [size_new]; omega)]; exact cell_new _ _ _ _ _ rfl
  have c30 : w8.cell? ⟨w3.heap.size, 0, none⟩ = some (.int .i64 sc) := by
    rw [hB8.cell (by simp only [size_new]; omega), cell_old _ _ _ _ (by simp only [size_new]; omega), cell_old _ _ _ _ (by omega), hB6.cell (by simp only [size_new]; omega), cell_old _ _ _ _ (by omega)]; exact j0
  have lt6 : w6.heap.size < w8.heap.size := by omega
  have lt3 : w3.heap.size < w8.heap.size := by omega
  have hB9 : Below w1.heap.size w1 w8 := ((hBW.alloc hBW.size _).trans (hB6.mono (by have := hBW.size; simp only [size_new]; omega))).trans (((((Below.refl w1.heap.size w6).alloc (by have := hBW.size; omega) _).alloc (by have := hBW.size; simp only [size_new]; omega) _)).trans (hB8.mono (by have := hBW.size; simp only [size_new]; omega)))
  clear hB8 hB6 hN hN2 j0 z6 z8 s4 l4 l2
  by_cases hv0 : v < 0 ∨ 1000000 < v
  · obtain rfl := HV.out hv0
    have hd : (decide (v < 0) = true) ∨ (decide (v < 0) = false ∧ decide (1000000 < v) = true) := by
      by_cases h : v < 0
      · exact .inl (decide_eq_true h)
      · exact .inr ⟨decide_eq_false h, decide_eq_true (by omega)⟩
    clear hv0
    rcases hd with d1 | ⟨d1, d2⟩
    all_goals
      go_wp2
      go_ret
      exact ⟨rfl, hB9.alloc hB9.size _⟩
  · obtain ⟨e1, e2, e3⟩ := HW.out (by omega) (by omega)
    have e2' := e2.symm
    clear e2
    clear HV HW
    subst e1 e2' e3
    have hsg' := hsg.out (by omega) (by omega)
    have d1 : decide (v < 0) = false := decide_eq_false (by omega)
    have d2 : decide (1000000 < v) = false := decide_eq_false (by omega)
    go_wp2_with fail
    have q0 := fun n => Later.cell (w := w8.alloc (.cells #[.int .i64 tc, .int .i64 (v / 2)] 27)) (b := w6.heap.size) (o := 0) (v := .int .i64 0) (by simp only [size_new]; omega) (by rw [cell_old _ _ _ _ lt6]; exact c60) n
    have q1 := fun n => Later.cell (w := w8.alloc (.cells #[.int .i64 tc, .int .i64 (v / 2)] 27)) (b := w6.heap.size) (o := 1) (v := .int .i64 v) (by simp only [size_new]; omega) (by rw [cell_old _ _ _ _ lt6]; exact c61) n
    have q2 := fun n => Later.cell (w := w8.alloc (.cells #[.int .i64 tc, .int .i64 (v / 2)] 27)) (b := w8.heap.size) (o := 1) (v := .int .i64 (v / 2)) (by simp only [size_new]; omega) (cell_new _ _ _ _ _ rfl) n
    have q3 := fun n => Later.cell (w := w8.alloc (.cells #[.int .i64 tc, .int .i64 (v / 2)] 27)) (b := w3.heap.size) (o := 0) (v := .int .i64 sc) (by simp only [size_new]; omega) (by rw [cell_old _ _ _ _ lt3]; exact c30) n
    refine wp_region_later (by kernel_rfl) (by kernel_rfl) (fun hne => ?_)
    repeat (go_big_quiet_step ((first | (go_at_call 15; exact Later.call ((C5 _).mono fun _ _ h => ⟨h.1, Below.of_drew h.2⟩)))))
    refine wpQuiet_nil ?_
    rintro _ ⟨n2, rfl⟩
    go_wp2
    go_ret
    exact ⟨rfl, (hB9.alloc hB9.size _).trans (n2.bel.mono (by have := hB9.size; simp only [size_new]; omega))⟩

theorem walk_fnScales (a0 : Option Addr) (len0 cap0 : Nat) (z0 : List Int) (w : World) (w0 : IsRow .u8 w a0 len0 cap0 z0) :
    Calls Try.prog 3 #[.slice a0 len0 cap0] w fun e w' => e = .returned (.bool true) ∧ Below w.heap.size w w' := by
  by_cases hbig : len0 ≤ 1048576
  · exact scales_walk w a0 len0 cap0 (Bytes.of_row w0) hbig
  · go_enter Try.func3, Try.ntmps3
    go_wp2_with fail
    refine (lwBig_yes w a0 len0 cap0 (by omega)).mono ?_
    rintro e w1 ⟨rfl, rfl⟩
    go_wp2
    go_ret
    exact ⟨rfl, Below.refl _ _⟩
end Go.Proofs.Ytpcjgpgjjdlfdaa
