/- Texts of mine put together (a claim holds at most 60 files): NumWalks. -/
import Derived.Test.YtppgjmpdnpidnaaGreatDoorRows
import Derived.WalkKit
import Derived.ProofKit
import Derived.OpenShut
import Derived.ShutString
import Derived.WalkLawsBesides
import Derived.Test.YtppgjmpdnpidnaaGreatDoorPartK09

/- NumWalks -/
/- Contracts of the functions of chapter 1 (numbers) and of their models: each returns what the plain functions of Nums say, and lays one new block. No condition. -/
section
namespace Go.Proofs.YtppgjmpdnpidnaaGreatDoor
open Go.ChangeShapes Go.WideShapes Go.ChangeAt Go.RowKit
set_option linter.unusedVariables false

set_option maxHeartbeats 1000000 in
theorem implTile (x y : Int) (w : World) :
    Calls Tryz.prog 53 #[.int .i64 x, .int .i64 y] w fun e w' => e = .returned (.bool (Nums.tileB x y)) ∧ w' = w := by
  rcases Nums.tile_cases x y with ⟨h1, e1⟩ | ⟨h1, h2, e1⟩ | ⟨h1, h2, h3, e1⟩ | ⟨h1, h2, h3, h4, e1⟩ | ⟨h1, h2, h3, h4, e1⟩
  all_goals
    rw [e1]
    clear e1
    try (have d1 : decide (0 ≤ x) = false := decide_eq_false (by omega))
    try (have d2 : decide (x ≤ 11) = false := decide_eq_false (by omega))
    try (have d3 : decide (0 ≤ y) = false := decide_eq_false (by omega))
    try (have d4 : decide (y ≤ 11) = false := decide_eq_false (by omega))
    go_enter Tryz.func53, Tryz.ntmps53
    go_wp2
    go_ret
    exact ⟨rfl, rfl⟩
theorem specNear (a b : Int) (w : World) (h1 : 0 ≤ a) (h2 : a ≤ 11) (h3 : 0 ≤ b) (h4 : b ≤ 11) :
    Calls Tryz.prog 111 #[.int .i64 a, .int .i64 b] w fun e w' => e = .returned (.int .i64 (Nums.near a b)) ∧ w' = w := by
  by_cases c1 : a < b
  · have e1 : Nums.near a b = a + 1 := by unfold Nums.near; rw [if_pos c1]
    rw [e1]
    go_enter Tryz.func111, Tryz.ntmps111
    go_wp2
    go_ret
    exact ⟨rfl, rfl⟩
  · by_cases c2 : b < a
    · have e1 : Nums.near a b = a - 1 := by unfold Nums.near; rw [if_neg c1, if_pos c2]
      rw [e1]
      go_enter Tryz.func111, Tryz.ntmps111
      go_wp2
      go_ret
      exact ⟨rfl, rfl⟩
    · have e1 : Nums.near a b = a := by unfold Nums.near; rw [if_neg c1, if_neg c2]
      rw [e1]
      go_enter Tryz.func111, Tryz.ntmps111
      go_wp2
      go_ret
      exact ⟨rfl, rfl⟩
theorem implNear (a b : Int) (w : World) (h1 : 0 ≤ a) (h2 : a ≤ 11) (h3 : 0 ≤ b) (h4 : b ≤ 11) :
    Calls Tryz.prog 152 #[.int .i64 a, .int .i64 b] w fun e w' => e = .returned (.int .i64 (Nums.near a b)) ∧ w' = w := by
  by_cases c1 : a < b
  · have e1 : Nums.near a b = a + 1 := by unfold Nums.near; rw [if_pos c1]
    rw [e1]
    go_enter Tryz.func152, Tryz.ntmps152
    go_wp2
    go_ret
    exact ⟨rfl, rfl⟩
  · by_cases c2 : b < a
    · have e1 : Nums.near a b = a - 1 := by unfold Nums.near; rw [if_neg c1, if_pos c2]
      rw [e1]
      go_enter Tryz.func152, Tryz.ntmps152
      go_wp2
      go_ret
      exact ⟨rfl, rfl⟩
    · have e1 : Nums.near a b = a := by unfold Nums.near; rw [if_neg c1, if_neg c2]
      rw [e1]
      go_enter Tryz.func152, Tryz.ntmps152
      go_wp2
      go_ret
      exact ⟨rfl, rfl⟩
theorem implGap (a b : Int) (w : World) (h1 : 0 ≤ a) (h2 : a ≤ 11) (h3 : 0 ≤ b) (h4 : b ≤ 11) :
    Calls Tryz.prog 150 #[.int .i64 a, .int .i64 b] w fun e w' => e = .returned (.int .i64 (Nums.gap a b)) ∧ w' = w := by
  by_cases c1 : a < b
  · have e1 : Nums.gap a b = b - a := by unfold Nums.gap; rw [if_pos c1]
    rw [e1]
    go_enter Tryz.func150, Tryz.ntmps150
    go_wp2
    go_ret
    exact ⟨rfl, rfl⟩
  · have e1 : Nums.gap a b = a - b := by unfold Nums.gap; rw [if_neg c1]
    rw [e1]
    go_enter Tryz.func150, Tryz.ntmps150
    go_wp2
    go_ret
    exact ⟨rfl, rfl⟩
theorem specMax (a b : Int) (w : World) :
    Calls Tryz.prog 122 #[.int .i64 a, .int .i64 b] w fun e w' => e = .returned (.int .i64 (Nums.mx a b)) ∧ w' = w := by
  by_cases c1 : b < a
  · have e1 : Nums.mx a b = a := by unfold Nums.mx; rw [if_pos c1]
    rw [e1]
    go_enter Tryz.func122, Tryz.ntmps122
    go_wp2
    go_ret
    exact ⟨rfl, rfl⟩
  · have e1 : Nums.mx a b = b := by unfold Nums.mx; rw [if_neg c1]
    rw [e1]
    go_enter Tryz.func122, Tryz.ntmps122
    go_wp2
    go_ret
    exact ⟨rfl, rfl⟩
theorem mx_gap (a b : Int) : Nums.mx (a - b) (b - a) = Nums.gap a b := by unfold Nums.mx Nums.gap; omega
theorem specFar (a b c d : Int) (w : World) (h1 : 0 ≤ a) (h2 : a ≤ 11) (h3 : 0 ≤ b) (h4 : b ≤ 11) (h5 : 0 ≤ c) (h6 : c ≤ 11) (h7 : 0 ≤ d) (h8 : d ≤ 11) :
    Calls Tryz.prog 114 #[.int .i64 a, .int .i64 b, .int .i64 c, .int .i64 d] w fun e w' => e = .returned (.int .i64 (Nums.mx (Nums.gap a c) (Nums.gap b d))) ∧ w' = w := by
  go_enter Tryz.func114, Tryz.ntmps114
  go_wp2_with (go_at_call 122; refine (specMax _ _ _).mono ?_; rintro e w' ⟨rfl, rfl⟩)
  go_ret
  exact ⟨by rw [mx_gap, mx_gap]; rfl, rfl⟩
theorem far_cases (a b c d : Int) :
    (Nums.tileB a b = false ∧ Nums.faC a b c d = 3 ∧ Nums.faV a b c d = 0) ∨ (Nums.tileB a b = true ∧ Nums.tileB c d = false ∧ Nums.faC a b c d = 3 ∧ Nums.faV a b c d = 0) ∨
    (Nums.tileB a b = true ∧ Nums.tileB c d = true ∧ Nums.faC a b c d = 0 ∧ Nums.faV a b c d = Nums.mx (Nums.gap a c) (Nums.gap b d)) := by
  unfold Nums.faC Nums.faV
  cases h1 : Nums.tileB a b <;> cases h2 : Nums.tileB c d <;> simp
set_option maxHeartbeats 1000000 in
theorem implFarOf (a b c d : Int) (w : World) :
    Calls Tryz.prog 138 #[.int .i64 a, .int .i64 b, .int .i64 c, .int .i64 d] w fun e w' => e = .returned (.agg #[.int .i64 (Nums.faC a b c d), .int .i64 (Nums.faV a b c d)]) ∧ w' = w.alloc (.cells #[.int .i64 (Nums.faC a b c d), .int .i64 (Nums.faV a b c d)] 44) := by
  rcases far_cases a b c d with ⟨h1, e1, e2⟩ | ⟨h1, h2, e1, e2⟩ | ⟨h1, h2, e1, e2⟩
  · rw [e1, e2]
    clear e1 e2
    go_enter Tryz.func138, Tryz.ntmps138
    go_wp2_with (go_at_call 53; refine (implTile _ _ _).mono ?_; rintro e w' ⟨rfl, rfl⟩)
    refine bodyPost_ret ?_ rfl ⟨rfl, rfl⟩
    simp [results, Tryz.results138, go_sem]
  · rw [e1, e2]
    clear e1 e2
    go_enter Tryz.func138, Tryz.ntmps138
    go_wp2_with (go_at_call 53; refine (implTile _ _ _).mono ?_; rintro e w' ⟨rfl, rfl⟩)
    refine bodyPost_ret ?_ rfl ⟨rfl, rfl⟩
    simp [results, Tryz.results138, go_sem]
  · obtain ⟨i1, i2, i3, i4⟩ := (Nums.tile_iff _ _).1 h1
    obtain ⟨j1, j2, j3, j4⟩ := (Nums.tile_iff _ _).1 h2
    by_cases hm : Nums.gap a c < Nums.gap b d
    all_goals
      have E : Nums.mx (Nums.gap a c) (Nums.gap b d) = (if Nums.gap a c < Nums.gap b d then Nums.gap b d else Nums.gap a c) := by unfold Nums.mx; omega
      rw [e1, e2, E]
      first | rw [if_pos hm] | rw [if_neg hm]
      clear e1 e2 E
      go_enter Tryz.func138, Tryz.ntmps138
      go_wp2_with (first | (go_at_call 53; refine (implTile _ _ _).mono ?_; rintro e w' ⟨rfl, rfl⟩) | (go_at_call 150; refine (implGap _ _ _ (by omega) (by omega) (by omega) (by omega)).mono ?_; rintro e w' ⟨rfl, rfl⟩))
      refine bodyPost_ret ?_ rfl ⟨rfl, rfl⟩
      simp [results, Tryz.results138, go_sem]
theorem step_cases_i (a b c d : Int) :
    (Nums.tileB a b = false ∧ Nums.faC a b c d = 3 ∧ Nums.stX a b c d = 0 ∧ Nums.stY a b c d = 0) ∨ (Nums.tileB a b = true ∧ Nums.tileB c d = false ∧ Nums.faC a b c d = 3 ∧ Nums.stX a b c d = 0 ∧ Nums.stY a b c d = 0) ∨
    (Nums.tileB a b = true ∧ Nums.tileB c d = true ∧ Nums.faC a b c d = 0 ∧ Nums.stX a b c d = Nums.near a c ∧ Nums.stY a b c d = Nums.near b d) := by
  unfold Nums.faC Nums.stX Nums.stY
  cases h1 : Nums.tileB a b <;> cases h2 : Nums.tileB c d <;> simp
set_option maxHeartbeats 1000000 in
theorem implStepTo (a b c d : Int) (w : World) :
    Calls Tryz.prog 148 #[.int .i64 a, .int .i64 b, .int .i64 c, .int .i64 d] w fun e w' => e = .returned (.agg #[.int .i64 (Nums.faC a b c d), .int .i64 (Nums.stX a b c d), .int .i64 (Nums.stY a b c d)]) ∧ w' = w.alloc (.cells #[.int .i64 (Nums.faC a b c d), .int .i64 (Nums.stX a b c d), .int .i64 (Nums.stY a b c d)] 179) := by
  rcases step_cases_i a b c d with ⟨h1, e1, e2, e3⟩ | ⟨h1, h2, e1, e2, e3⟩ | ⟨h1, h2, e1, e2, e3⟩
  · rw [e1, e2, e3]
    clear e1 e2 e3
    go_enter Tryz.func148, Tryz.ntmps148
    go_wp2_with (go_at_call 53; refine (implTile _ _ _).mono ?_; rintro e w' ⟨rfl, rfl⟩)
    refine bodyPost_ret ?_ rfl ⟨rfl, rfl⟩
    simp [results, Tryz.results148, go_sem]
  · rw [e1, e2, e3]
    clear e1 e2 e3
    go_enter Tryz.func148, Tryz.ntmps148
    go_wp2_with (go_at_call 53; refine (implTile _ _ _).mono ?_; rintro e w' ⟨rfl, rfl⟩)
    refine bodyPost_ret ?_ rfl ⟨rfl, rfl⟩
    simp [results, Tryz.results148, go_sem]
  · rw [e1, e2, e3]
    clear e1 e2 e3
    obtain ⟨i1, i2, i3, i4⟩ := (Nums.tile_iff _ _).1 h1
    obtain ⟨j1, j2, j3, j4⟩ := (Nums.tile_iff _ _).1 h2
    go_enter Tryz.func148, Tryz.ntmps148
    go_wp2_with (first | (go_at_call 53; refine (implTile _ _ _).mono ?_; rintro e w' ⟨rfl, rfl⟩) | (go_at_call 152; refine (implNear _ _ _ (by omega) (by omega) (by omega) (by omega)).mono ?_; rintro e w' ⟨rfl, rfl⟩))
    refine bodyPost_ret ?_ rfl ⟨rfl, rfl⟩
    simp [results, Tryz.results148, go_sem]
end Go.Proofs.YtppgjmpdnpidnaaGreatDoor
end
