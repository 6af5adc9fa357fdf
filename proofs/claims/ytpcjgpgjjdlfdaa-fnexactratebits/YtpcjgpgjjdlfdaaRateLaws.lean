/- The walks of the exact laws of chapter 2 whose arguments are plain numbers (RateParts, RateBits, IsGain, ScaleBy): each law's Go text returns true at every argument. -/
import Derived.Test.YtpcjgpgjjdlfdaaRateScale
namespace Go.Proofs.Ytpcjgpgjjdlfdaa
open Go.ChangeShapes Go.WideShapes Go.ChangeAt Go.RowKit
set_option linter.unusedVariables false

theorem i64_bd {x : Int} (h : (Lit.int .i64 x).wf = true) : -9223372036854775808 ≤ x ∧ x < 9223372036854775808 := by
  have e1 : IntKind.min .i64 = -9223372036854775808 := by decide
  have e2 : IntKind.max .i64 = 9223372036854775807 := by decide
  simp only [Lit.wf, e1, e2, Bool.and_eq_true, decide_eq_true_eq] at h
  omega

theorem eqParts_same (b : Int) (w : World) :
    Calls Try.prog 21 #[.agg (partsA b), .agg (partsA b)] w fun e w' => e = .returned (.bool true) ∧ w' = (w.alloc (.cells (partsA b) 30)).alloc (.cells (partsA b) 30) := by
  rcases parts_cases b with ⟨h1, e⟩ | ⟨h1, h2, e⟩ | ⟨h1, h2, e⟩ <;> rw [e] <;> clear e
  case inr.inr =>
    generalize decide (b < 0) = m
    generalize Rts.qt (sz b) / 4 = x
    generalize Rts.qt (sz b) % 4 = y
    cases m <;> (
      go_enter Try.func21, Try.ntmps21
      go_wp2
      go_ret
      exact ⟨rfl, rfl⟩)
  all_goals
    go_enter Try.func21, Try.ntmps21
    go_wp2
    go_ret
    exact ⟨rfl, rfl⟩
set_option maxHeartbeats 1000000 in
theorem walk_fnExactRateParts (a0 : Int) (w0 : (Lit.int .i64 a0).wf = true) (w : World) :
    Calls Try.prog 5 #[.int .i64 a0] w fun e w' => e = .returned (.bool true) ∧ Grown w w' := by
  obtain ⟨b1, b2⟩ := i64_bd w0
  have c1 := fun w => specRateParts a0 w
  have c2 := fun w => implRateParts a0 b1 b2 w
  have c3 := fun w => eqParts_same a0 w
  rcases parts_cases a0 with ⟨h1, e⟩ | ⟨h1, h2, e⟩ | ⟨h1, h2, e⟩ <;> rw [e] at c1 c2 c3 <;> clear e
  case inr.inr =>
    generalize decide (a0 < 0) = m at c1 c2 c3
    generalize Rts.qt (sz a0) / 4 = x at c1 c2 c3
    generalize Rts.qt (sz a0) % 4 = y at c1 c2 c3
    clear h1 h2
    go_enter Try.func5, Try.ntmps5
    go_wp2_with (first | (go_at_call 14; refine (c1 _).mono ?_; rintro e w' ⟨rfl, rfl⟩) | (go_at_call 12; refine (c2 _).mono ?_; rintro e w' ⟨rfl, rfl⟩) | (go_at_call 21; refine (c3 _).mono ?_; rintro e w' ⟨rfl, rfl⟩))
    go_ret
    exact ⟨rfl, by repeat (first | exact Grown.refl _ | apply Grown.drew | apply Grown.alloc)⟩
  all_goals
    go_enter Try.func5, Try.ntmps5
    go_wp2_with (first | (go_at_call 14; refine (c1 _).mono ?_; rintro e w' ⟨rfl, rfl⟩) | (go_at_call 12; refine (c2 _).mono ?_; rintro e w' ⟨rfl, rfl⟩) | (go_at_call 21; refine (c3 _).mono ?_; rintro e w' ⟨rfl, rfl⟩))
    go_ret
    exact ⟨rfl, by repeat (first | exact Grown.refl _ | apply Grown.drew | apply Grown.alloc)⟩
set_option maxHeartbeats 1000000 in
theorem walk_fnExactRateBits (a0 : Bool) (a1 : Int) (a2 : Int) (w1 : (Lit.int .i64 a1).wf = true) (w2 : (Lit.int .i64 a2).wf = true) (w : World) :
    Calls Try.prog 6 #[.bool a0, .int .i64 a1, .int .i64 a2] w fun e w' => e = .returned (.bool true) ∧ Grown w w' := by
  go_enter Try.func6, Try.ntmps6
  go_wp2_with (first | (go_at_call 22; refine (specRateBits _ _ _ _).mono ?_; rintro e w' ⟨rfl, rfl⟩) | (go_at_call 17; refine (implRateBits _ _ _ _).mono ?_; rintro e w' ⟨rfl, rfl⟩) | (go_at_call 20; refine (eqIntResult_same _ _ _).mono ?_; rintro e w' ⟨rfl, rfl⟩))
  go_ret
  exact ⟨rfl, by repeat (first | exact Grown.refl _ | apply Grown.drew | apply Grown.alloc)⟩
set_option maxHeartbeats 1000000 in
theorem walk_fnExactIsGain (a0 : Int) (w0 : (Lit.int .i64 a0).wf = true) (w : World) :
    Calls Try.prog 7 #[.int .i64 a0] w fun e w' => e = .returned (.bool true) ∧ Grown w w' := by
  obtain ⟨b1, b2⟩ := i64_bd w0
  have c1 := fun w => specIsGain a0 w
  have c2 := fun w => implIsGain a0 b1 b2 w
  generalize gainB a0 = g at c1 c2
  cases g
  all_goals
    go_enter Try.func7, Try.ntmps7
    go_wp2_with (go_at_call 16; refine (c1 _).mono ?_; rintro e w' ⟨rfl, rfl⟩)
    refine (c2 _).mono ?_
    rintro e w2 ⟨rfl, hw⟩
    go_wp2
    go_ret
    refine ⟨rfl, ?_⟩
    rcases hw with rfl | rfl
    · exact Grown.refl _
    · exact (Grown.refl _).drew
set_option maxHeartbeats 1000000 in
theorem walk_fnExactScaleBy (a0 a1 : Int) (w0 : (Lit.int .i64 a0).wf = true) (w1 : (Lit.int .i64 a1).wf = true) (w : World) :
    Calls Try.prog 8 #[.int .i64 a0, .int .i64 a1] w fun e w' => e = .returned (.bool true) ∧ Below w.heap.size w w' := by
  obtain ⟨b1, b2⟩ := i64_bd w0
  go_enter Try.func8, Try.ntmps8
  go_wp2_with fail
  refine (specScaleBy a0 a1 w).mono ?_
  rintro e w1 ⟨rfl, hb1⟩
  go_wp2_with fail
  refine (implScaleBy a0 a1 b1 b2 _).mono ?_
  rintro e w2 ⟨rfl, hb2⟩
  have hz1 := hb1.size
  have hz2 := hb2.size
  simp at hz2
  have hlt : w1.heap.size < w2.heap.size := by omega
  have k0 : w2.cell? ⟨w1.heap.size, 0, none⟩ = some (.int .i64 (sbC a0 a1)) := by rw [hb2.cell (by simp)]; simp
  have k1 : w2.cell? ⟨w1.heap.size, 1, none⟩ = some (.int .i64 (sbV a0 a1)) := by rw [hb2.cell (by simp)]; simp
  go_wp2_with (go_at_call 20; refine (eqIntResult_same _ _ _).mono ?_; rintro e w' ⟨rfl, rfl⟩)
  go_ret
  have hA : Below w.heap.size w w2 := (hb1.alloc hz1 _).trans (hb2.mono (by simp; omega))
  exact ⟨rfl, ((hA.alloc hA.size _).alloc (by have := hA.size; simp; omega) _).alloc (by have := hA.size; simp; omega) _⟩
end Go.Proofs.Ytpcjgpgjjdlfdaa
