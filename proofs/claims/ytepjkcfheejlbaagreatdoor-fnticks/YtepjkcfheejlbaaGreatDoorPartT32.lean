/- Texts of mine put together (a claim holds at most 60 files): Marks3. -/
import Derived.Test.YtepjkcfheejlbaaGreatDoorPartT31

/- Marks3 -/
/- Contracts of the exact laws' marks, and of their comparison, on boards and results that a call has made. Condition: at most 8 units and 4 fields. -/
section
namespace Go.Proofs.YtepjkcfheejlbaaGreatDoor
open Go.ChangeShapes Go.WideShapes Go.ChangeAt Go.RowKit
set_option linter.unusedVariables false

/- all blocks are as they were but those that v and f own -/
structure KeptV (w w' : World) (v f : Value) : Prop where
  os : w'.os = w.os
  tape : w'.tape = w.tape
  output : w'.output = w.output
  size : w.heap.size ≤ w'.heap.size
  block : ∀ i, i < w.heap.size → v.ownBlock ≠ some i → f.ownBlock ≠ some i → w'.heap[i]? = w.heap[i]?
theorem own_ne {w : World} {b b' : Nat} {v f : Value} {l : List K10} {l' : List K3} (h : SlU w b v l) (h' : SlF w b' f l') : ∀ i, v.ownBlock = some i → f.ownBlock ≠ some i := by
  intro i hi hi'
  rcases h.2 with ⟨h1, h2⟩ | ⟨g, cap, cur, hv, hbb, hg, r⟩
  · rw [h1] at hi; cases hi
  · rcases h'.2 with ⟨h1, h2⟩ | ⟨g', cap', cur', hv', hbb', hg', r'⟩
    · rw [h1] at hi'; cases hi'
    · rw [hv] at hi; rw [hv'] at hi'
      have e1 : g = i := Option.some.inj hi
      have e2 : g' = i := Option.some.inj hi'
      subst e1; subst e2
      rw [hg] at hg'
      simp at hg'
theorem eqBrd (v1 f1 v2 f2 : Value) (l : List K10) (fl : List K3) (b1 c1 b2 c2 : Nat) (hm : l.length ≤ 1000) (hm' : fl.length ≤ 1000) (w : World) (h1 : SlU w b1 v1 l) (h1' : SlF w c1 f1 fl) (h2 : SlU w b2 v2 l) (h2' : SlF w c2 f2 fl) :
    Calls Tryz.prog 29 #[.agg #[v1, f1], .agg #[v2, f2]] w fun e w' => e = .returned (.bool true) ∧ Below w.heap.size w w' := by
  have cU := fun W h1 h2 => eqUnitS_own v1 v2 l b1 b2 hm W h1 h2
  have cF := fun W h1 h2 => eqFieldS_own f1 f2 fl c1 c2 hm' W h1 h2
  obtain ⟨m, Hm⟩ : ∃ m, Hid (m = l.length) := ⟨_, rfl⟩
  obtain ⟨m', Hm'⟩ : ∃ m', Hid (m' = fl.length) := ⟨_, rfl⟩
  obtain ⟨ax, cx, ex, _⟩ := h1.form
  obtain ⟨ay, cy, ey, _⟩ := h1'.form
  obtain ⟨az, cz, ez, _⟩ := h2.form
  obtain ⟨aw, cw, ew, _⟩ := h2'.form
  rw [← Hm.out] at ex ez
  rw [← Hm'.out] at ey ew
  subst ex ey ez ew
  obtain ⟨W, HW⟩ : ∃ W, Hid (W = (w.alloc (.cells #[.slice ax m cx, .slice ay m' cy] 27)).alloc (.cells #[.slice az m cz, .slice aw m' cw] 27)) := ⟨_, rfl⟩
  have B2 : Below w.heap.size w W := by rw [HW.out]; exact ((Below.refl _ _).alloc (Nat.le_refl _) _).alloc (by rw [size_new]; omega) _
  have s0 := rowTwo w (.slice ax m cx) (.slice ay m' cy) 27
  have s1 := rowTwo (w.alloc (.cells #[.slice ax m cx, .slice ay m' cy] 27)) (.slice az m cz) (.slice aw m' cw) 27
  replace s0 := s0.of_block (((Below.refl _ _).alloc (Nat.le_refl _) (.cells #[.slice az m cz, .slice aw m' cw] 27)).block _ s0.lt)
  rw [size_new] at s1
  rw [← HW.out] at s0 s1
  go_enter Tryz.func29, Tryz.ntmps29
  go_wp2_with fail
  rw [← HW.out]
  refine (cU _ (h1.below B2) (h2.below B2)).mono ?_
  rintro e w1 ⟨rfl, k1⟩
  have B3 := B2.trans (k1.mono B2.size)
  replace s0 := s0.of_block (k1.block _ s0.lt)
  replace s1 := s1.of_block (k1.block _ s1.lt)
  have q0 : w1.cell? ⟨w.heap.size, 1, none⟩ = some (.slice ay m' cy) := s0.cell (i := 1) (by omega)
  have q1 : w1.cell? ⟨w.heap.size + 1, 1, none⟩ = some (.slice aw m' cw) := s1.cell (i := 1) (by omega)
  go_wp2_with fail
  refine (cF _ (h1'.below B3) (h2'.below B3)).mono ?_
  rintro e w2 ⟨rfl, k2⟩
  go_wp2
  go_ret
  exact ⟨rfl, B3.trans (k2.mono B3.size)⟩
theorem markBrd (v f : Value) (l : List K10) (fl : List K3) (bu bf : Nat) (hm : l.length ≤ 1000) (hm' : fl.length ≤ 1000) (w : World) (h : SlU w bu v l) (h' : SlF w bf f fl) :
    Calls Tryz.prog 31 #[.agg #[v, f], .int .i64 1] w fun e w' => e = .returned (.int .i64 (1 + 10 * (l.length : Int) + 3 * (fl.length : Int))) ∧ MkdU w' v l.length 1 ∧ MkdF w' f fl.length (1 + 10 * (l.length : Int)) ∧ KeptV w w' v f := by
  have k1 : Below w.heap.size w (w.alloc (.cells #[v, f] 27)) := (Below.refl _ _).alloc (Nat.le_refl _) _
  have S1 := h.below k1
  have S1' := h'.below k1
  have hne := own_ne S1 S1'
  have rb := rowTwo w v f 27
  have hlt := h.lt
  have hlt' := S1'.lt
  have cU := markUnitS_own v l bu 1 hm (by omega) (by omega) _ S1
  have cF := fun w k h0 h1 h => markFieldS_own f fl bf k hm' h0 h1 w h
  obtain ⟨a1, c1, ex, _⟩ := h.form
  obtain ⟨a2, c2, ey, _⟩ := h'.form
  obtain ⟨m, Hm⟩ : ∃ m, Hid (m = l.length) := ⟨_, rfl⟩
  obtain ⟨m', Hm'⟩ : ∃ m', Hid (m' = fl.length) := ⟨_, rfl⟩
  rw [← Hm.out] at ex cU hm ⊢
  rw [← Hm'.out] at ey cF hm' ⊢
  subst ex ey
  clear h h' S1
  go_enter Tryz.func31, Tryz.ntmps31
  go_wp2_with fail
  refine cU.mono ?_
  rintro e w2 ⟨rfl, M2, g2⟩
  have rb2 := rb.of_block (g2.block w.heap.size rb.lt (fun e => by have := (hlt _ e.symm).2; omega))
  have p1 : w2.cell? ⟨w.heap.size, 1, none⟩ = some (.slice a2 m' c2) := rb2.cell (i := 1) (by omega)
  have S2' := S1'.of_block (w' := w2) (fun b hb => g2.block b (hlt' b hb).2 (fun e => hne b e.symm hb))
  clear cU S1'
  go_wp2_with fail
  refine (cF _ _ (by omega) (by omega) S2').mono ?_
  rintro e w3 ⟨rfl, M3, g3⟩
  have M3u := M2.of_block (w' := w3) (fun b hb hl => g3.block b hl (fun e => hne b hb e.symm))
  go_wp2
  go_ret
  exact ⟨rfl, M3u, M3, ⟨g3.os.trans (g2.os.trans k1.os), g3.tape.trans (g2.tape.trans k1.tape), g3.output.trans (g2.output.trans k1.output), Nat.le_trans k1.size (Nat.le_trans g2.size g3.size), fun i hi x1 x2 => (g3.block i (Nat.lt_of_lt_of_le hi (Nat.le_trans k1.size g2.size)) (fun e => x2 e.symm)).trans ((g2.block i (Nat.lt_of_lt_of_le hi k1.size) (fun e => x1 e.symm)).trans (k1.block i hi))⟩⟩
theorem heldBrd (v f : Value) (m m' : Nat) (hm : m ≤ 1000) (hm' : m' ≤ 1000) (w : World) (h : MkdU w v m 1) (h' : MkdF w f m' (1 + 10 * (m : Int))) :
    Calls Tryz.prog 67 #[.agg #[v, f], .int .i64 1] w fun e w' => e = .returned (.int .i64 (1 + 10 * (m : Int) + 3 * (m' : Int))) ∧ Below w.heap.size w w' := by
  have k1 : Below w.heap.size w (w.alloc (.cells #[v, f] 27)) := (Below.refl _ _).alloc (Nat.le_refl _) _
  have cU := heldUnitS_own v m 1 hm (by omega) (by omega) _ (h.later k1)
  have cF := heldFieldS_own f m' (1 + 10 * (m : Int)) hm' (by omega) (by omega) _ (h'.later k1)
  have d1 : decide ((1 : Int) + 10 * (m : Int) < 0) = false := decide_eq_false (by omega)
  have d2 : decide ((1 : Int) + 10 * (m : Int) + 3 * (m' : Int) < 0) = false := decide_eq_false (by omega)
  obtain ⟨a1, c1, ex⟩ := h.form
  obtain ⟨a2, c2, ey⟩ := h'.form
  subst ex ey
  clear h h'
  go_enter Tryz.func67, Tryz.ntmps67
  go_wp2_with fail
  refine cU.mono ?_
  rintro e w2 ⟨rfl, rfl⟩
  go_wp2_with fail
  refine cF.mono ?_
  rintro e w3 ⟨rfl, rfl⟩
  go_wp2
  go_ret
  exact ⟨rfl, k1⟩
end Go.Proofs.YtepjkcfheejlbaaGreatDoor
end
