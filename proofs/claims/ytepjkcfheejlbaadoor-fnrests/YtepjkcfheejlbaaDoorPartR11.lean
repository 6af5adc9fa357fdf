/- Texts of mine put together (a claim holds at most 60 files): NumWalks. -/
import Derived.Test.YtepjkcfheejlbaaDoorRows
import Derived.WalkKit
import Derived.ProofKit
import Derived.OpenShut
import Derived.ShutString
import Derived.WalkLawsBesides
import Derived.Test.YtepjkcfheejlbaaDoorPartR05

/- NumWalks -/
/- Contracts of the functions of chapter 1 (numbers) and of their models: each returns what the plain functions of Nums say, and lays one new block. No condition. -/
section
namespace Go.Proofs.YtepjkcfheejlbaaDoor
open Go.ChangeShapes Go.WideShapes Go.ChangeAt Go.RowKit
set_option linter.unusedVariables false

theorem ns_cases_u (s : Int) :
    (s < 1 ∧ Nums.nsC s = 3 ∧ Nums.nsV s = 0) ∨ (1 ≤ s ∧ 2147483646 < s ∧ Nums.nsC s = 3 ∧ Nums.nsV s = 0) ∨ (1 ≤ s ∧ s ≤ 2147483646 ∧ Nums.nsC s = 0 ∧ Nums.nsV s = s * 48271 % 2147483647) := by
  rcases Nums.ns_cases s with h | h | ⟨h1, h2, h3, h4⟩
  · exact .inl h
  · exact .inr (.inl h)
  · exact .inr (.inr ⟨h1, h2, h3, by rw [h4, Int.mul_comm]⟩)

theorem wrap64_small {x : Int} (h0 : 0 ≤ x) (h1 : x < 9223372036854775808) : wrap64 x = x := by
  unfold wrap64
  omega

theorem ro_cases_u (s n : Int) :
    (s < 1 ∧ Nums.roC s n = 3 ∧ Nums.roV s n = 0) ∨ (1 ≤ s ∧ 2147483646 < s ∧ Nums.roC s n = 3 ∧ Nums.roV s n = 0) ∨
    (1 ≤ s ∧ s ≤ 2147483646 ∧ n < 1 ∧ Nums.roC s n = 3 ∧ Nums.roV s n = 0) ∨ (1 ≤ s ∧ s ≤ 2147483646 ∧ 1 ≤ n ∧ 1000 < n ∧ Nums.roC s n = 3 ∧ Nums.roV s n = 0) ∨
    (1 ≤ s ∧ s ≤ 2147483646 ∧ 1 ≤ n ∧ n ≤ 1000 ∧ Nums.roC s n = 0 ∧ Nums.roV s n = wrap64 (s * 48271 % 2147483647 % n)) := by
  rcases Nums.ro_cases s n with h | h | h | h | ⟨h1, h2, h3, h4, h5, h6⟩
  · exact .inl h
  · exact .inr (.inl h)
  · exact .inr (.inr (.inl h))
  · exact .inr (.inr (.inr (.inl h)))
  · refine .inr (.inr (.inr (.inr ⟨h1, h2, h3, h4, h5, ?_⟩)))
    have a0 := Int.emod_nonneg (s * 48271 % 2147483647) (b := n) (by omega)
    have a1 := Int.emod_lt_of_pos (s * 48271 % 2147483647) (b := n) (by omega)
    rw [h6, Int.mul_comm, wrap64_small a0 (by omega)]


set_option maxHeartbeats 1000000 in
theorem specTile (x y : Int) (w : World) :
    Calls Tryd.prog 34 #[.int .i64 x, .int .i64 y] w fun e w' => e = .returned (.bool (Nums.tileB x y)) ∧ w' = w := by
  rcases Nums.tile_cases x y with ⟨h1, e1⟩ | ⟨h1, h2, e1⟩ | ⟨h1, h2, h3, e1⟩ | ⟨h1, h2, h3, h4, e1⟩ | ⟨h1, h2, h3, h4, e1⟩
  all_goals
    rw [e1]
    clear e1
    try (have d1 : decide (0 ≤ x) = false := decide_eq_false (by omega))
    try (have d2 : decide (x ≤ 11) = false := decide_eq_false (by omega))
    try (have d3 : decide (0 ≤ y) = false := decide_eq_false (by omega))
    try (have d4 : decide (y ≤ 11) = false := decide_eq_false (by omega))
    go_enter Tryd.func34, Tryd.ntmps34
    go_wp2
    go_ret
    exact ⟨rfl, rfl⟩
set_option maxHeartbeats 1000000 in
theorem implTile (x y : Int) (w : World) :
    Calls Tryd.prog 23 #[.int .i64 x, .int .i64 y] w fun e w' => e = .returned (.bool (Nums.tileB x y)) ∧ w' = w := by
  rcases Nums.tile_cases x y with ⟨h1, e1⟩ | ⟨h1, h2, e1⟩ | ⟨h1, h2, h3, e1⟩ | ⟨h1, h2, h3, h4, e1⟩ | ⟨h1, h2, h3, h4, e1⟩
  all_goals
    rw [e1]
    clear e1
    try (have d1 : decide (0 ≤ x) = false := decide_eq_false (by omega))
    try (have d2 : decide (x ≤ 11) = false := decide_eq_false (by omega))
    try (have d3 : decide (0 ≤ y) = false := decide_eq_false (by omega))
    try (have d4 : decide (y ≤ 11) = false := decide_eq_false (by omega))
    go_enter Tryd.func23, Tryd.ntmps23
    go_wp2
    go_ret
    exact ⟨rfl, rfl⟩
theorem implNear (a b : Int) (w : World) (h1 : 0 ≤ a) (h2 : a ≤ 11) (h3 : 0 ≤ b) (h4 : b ≤ 11) :
    Calls Tryd.prog 93 #[.int .i64 a, .int .i64 b] w fun e w' => e = .returned (.int .i64 (Nums.near a b)) ∧ w' = w := by
  by_cases c1 : a < b
  · have e1 : Nums.near a b = a + 1 := by unfold Nums.near; rw [if_pos c1]
    rw [e1]
    go_enter Tryd.func93, Tryd.ntmps93
    go_wp2
    go_ret
    exact ⟨rfl, rfl⟩
  · by_cases c2 : b < a
    · have e1 : Nums.near a b = a - 1 := by unfold Nums.near; rw [if_neg c1, if_pos c2]
      rw [e1]
      go_enter Tryd.func93, Tryd.ntmps93
      go_wp2
      go_ret
      exact ⟨rfl, rfl⟩
    · have e1 : Nums.near a b = a := by unfold Nums.near; rw [if_neg c1, if_neg c2]
      rw [e1]
      go_enter Tryd.func93, Tryd.ntmps93
      go_wp2
      go_ret
      exact ⟨rfl, rfl⟩
theorem implGap (a b : Int) (w : World) (h1 : 0 ≤ a) (h2 : a ≤ 11) (h3 : 0 ≤ b) (h4 : b ≤ 11) :
    Calls Tryd.prog 24 #[.int .i64 a, .int .i64 b] w fun e w' => e = .returned (.int .i64 (Nums.gap a b)) ∧ w' = w := by
  by_cases c1 : a < b
  · have e1 : Nums.gap a b = b - a := by unfold Nums.gap; rw [if_pos c1]
    rw [e1]
    go_enter Tryd.func24, Tryd.ntmps24
    go_wp2
    go_ret
    exact ⟨rfl, rfl⟩
  · have e1 : Nums.gap a b = a - b := by unfold Nums.gap; rw [if_neg c1]
    rw [e1]
    go_enter Tryd.func24, Tryd.ntmps24
    go_wp2
    go_ret
    exact ⟨rfl, rfl⟩
theorem far_cases (a b c d : Int) :
    (Nums.tileB a b = false ∧ Nums.faC a b c d = 3 ∧ Nums.faV a b c d = 0) ∨ (Nums.tileB a b = true ∧ Nums.tileB c d = false ∧ Nums.faC a b c d = 3 ∧ Nums.faV a b c d = 0) ∨
    (Nums.tileB a b = true ∧ Nums.tileB c d = true ∧ Nums.faC a b c d = 0 ∧ Nums.faV a b c d = Nums.mx (Nums.gap a c) (Nums.gap b d)) := by
  unfold Nums.faC Nums.faV
  cases h1 : Nums.tileB a b <;> cases h2 : Nums.tileB c d <;> simp
set_option maxHeartbeats 1000000 in
theorem implFarOf (a b c d : Int) (w : World) :
    Calls Tryd.prog 11 #[.int .i64 a, .int .i64 b, .int .i64 c, .int .i64 d] w fun e w' => e = .returned (.agg #[.int .i64 (Nums.faC a b c d), .int .i64 (Nums.faV a b c d)]) ∧ w' = w.alloc (.cells #[.int .i64 (Nums.faC a b c d), .int .i64 (Nums.faV a b c d)] 39) := by
  rcases far_cases a b c d with ⟨h1, e1, e2⟩ | ⟨h1, h2, e1, e2⟩ | ⟨h1, h2, e1, e2⟩
  · rw [e1, e2]
    clear e1 e2
    go_enter Tryd.func11, Tryd.ntmps11
    go_wp2_with (go_at_call 23; refine (implTile _ _ _).mono ?_; rintro e w' ⟨rfl, rfl⟩)
    refine bodyPost_ret ?_ rfl ⟨rfl, rfl⟩
    simp [results, Tryd.results11, go_sem]
  · rw [e1, e2]
    clear e1 e2
    go_enter Tryd.func11, Tryd.ntmps11
    go_wp2_with (go_at_call 23; refine (implTile _ _ _).mono ?_; rintro e w' ⟨rfl, rfl⟩)
    refine bodyPost_ret ?_ rfl ⟨rfl, rfl⟩
    simp [results, Tryd.results11, go_sem]
  · obtain ⟨i1, i2, i3, i4⟩ := (Nums.tile_iff _ _).1 h1
    obtain ⟨j1, j2, j3, j4⟩ := (Nums.tile_iff _ _).1 h2
    by_cases hm : Nums.gap a c < Nums.gap b d
    all_goals
      have E : Nums.mx (Nums.gap a c) (Nums.gap b d) = (if Nums.gap a c < Nums.gap b d then Nums.gap b d else Nums.gap a c) := by unfold Nums.mx; omega
      rw [e1, e2, E]
      first | rw [if_pos hm] | rw [if_neg hm]
      clear e1 e2 E
      go_enter Tryd.func11, Tryd.ntmps11
      go_wp2_with (first | (go_at_call 23; refine (implTile _ _ _).mono ?_; rintro e w' ⟨rfl, rfl⟩) | (go_at_call 24; refine (implGap _ _ _ (by omega) (by omega) (by omega) (by omega)).mono ?_; rintro e w' ⟨rfl, rfl⟩))
      refine bodyPost_ret ?_ rfl ⟨rfl, rfl⟩
      simp [results, Tryd.results11, go_sem]
theorem step_cases_i (a b c d : Int) :
    (Nums.tileB a b = false ∧ Nums.faC a b c d = 3 ∧ Nums.stX a b c d = 0 ∧ Nums.stY a b c d = 0) ∨ (Nums.tileB a b = true ∧ Nums.tileB c d = false ∧ Nums.faC a b c d = 3 ∧ Nums.stX a b c d = 0 ∧ Nums.stY a b c d = 0) ∨
    (Nums.tileB a b = true ∧ Nums.tileB c d = true ∧ Nums.faC a b c d = 0 ∧ Nums.stX a b c d = Nums.near a c ∧ Nums.stY a b c d = Nums.near b d) := by
  unfold Nums.faC Nums.stX Nums.stY
  cases h1 : Nums.tileB a b <;> cases h2 : Nums.tileB c d <;> simp
set_option maxHeartbeats 1000000 in
theorem implStepTo (a b c d : Int) (w : World) :
    Calls Tryd.prog 90 #[.int .i64 a, .int .i64 b, .int .i64 c, .int .i64 d] w fun e w' => e = .returned (.agg #[.int .i64 (Nums.faC a b c d), .int .i64 (Nums.stX a b c d), .int .i64 (Nums.stY a b c d)]) ∧ w' = w.alloc (.cells #[.int .i64 (Nums.faC a b c d), .int .i64 (Nums.stX a b c d), .int .i64 (Nums.stY a b c d)] 121) := by
  rcases step_cases_i a b c d with ⟨h1, e1, e2, e3⟩ | ⟨h1, h2, e1, e2, e3⟩ | ⟨h1, h2, e1, e2, e3⟩
  · rw [e1, e2, e3]
    clear e1 e2 e3
    go_enter Tryd.func90, Tryd.ntmps90
    go_wp2_with (go_at_call 23; refine (implTile _ _ _).mono ?_; rintro e w' ⟨rfl, rfl⟩)
    refine bodyPost_ret ?_ rfl ⟨rfl, rfl⟩
    simp [results, Tryd.results90, go_sem]
  · rw [e1, e2, e3]
    clear e1 e2 e3
    go_enter Tryd.func90, Tryd.ntmps90
    go_wp2_with (go_at_call 23; refine (implTile _ _ _).mono ?_; rintro e w' ⟨rfl, rfl⟩)
    refine bodyPost_ret ?_ rfl ⟨rfl, rfl⟩
    simp [results, Tryd.results90, go_sem]
  · rw [e1, e2, e3]
    clear e1 e2 e3
    obtain ⟨i1, i2, i3, i4⟩ := (Nums.tile_iff _ _).1 h1
    obtain ⟨j1, j2, j3, j4⟩ := (Nums.tile_iff _ _).1 h2
    go_enter Tryd.func90, Tryd.ntmps90
    go_wp2_with (first | (go_at_call 23; refine (implTile _ _ _).mono ?_; rintro e w' ⟨rfl, rfl⟩) | (go_at_call 93; refine (implNear _ _ _ (by omega) (by omega) (by omega) (by omega)).mono ?_; rintro e w' ⟨rfl, rfl⟩))
    refine bodyPost_ret ?_ rfl ⟨rfl, rfl⟩
    simp [results, Tryd.results90, go_sem]
theorem implFarOf_as (a b c d u r : Int) (hu : Nums.faC a b c d = u) (hr : Nums.faV a b c d = r) (w : World) :
    Calls Tryd.prog 11 #[.int .i64 a, .int .i64 b, .int .i64 c, .int .i64 d] w fun e w' => e = .returned (.agg #[.int .i64 u, .int .i64 r]) ∧ w' = w.alloc (.cells #[.int .i64 u, .int .i64 r] 39) := by
  subst hu hr; exact implFarOf a b c d w
theorem implStepTo_as (a b c d u x y : Int) (hu : Nums.faC a b c d = u) (hx : Nums.stX a b c d = x) (hy : Nums.stY a b c d = y) (w : World) :
    Calls Tryd.prog 90 #[.int .i64 a, .int .i64 b, .int .i64 c, .int .i64 d] w fun e w' => e = .returned (.agg #[.int .i64 u, .int .i64 x, .int .i64 y]) ∧ w' = w.alloc (.cells #[.int .i64 u, .int .i64 x, .int .i64 y] 121) := by
  subst hu hx hy; exact implStepTo a b c d w
end Go.Proofs.YtepjkcfheejlbaaDoor
end
