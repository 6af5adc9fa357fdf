/- Texts of mine put together (a claim holds at most 60 files): NumWalks. -/
import Derived.Test.YthopodopedbooaaGreatRows
import Derived.WalkKit
import Derived.ProofKit
import Derived.OpenShut
import Derived.ShutString
import Derived.WalkLawsBesides
import Derived.Test.YthopodopedbooaaGreatPartL24

/- NumWalks -/
/- Contracts of the functions of chapter 1 (numbers) and of their models: each returns what the plain functions of Nums say, and lays one new block. No condition. -/
section
namespace Go.Proofs.YthopodopedbooaaGreat
open Go.ChangeShapes Go.WideShapes Go.ChangeAt Go.RowKit
set_option linter.unusedVariables false

theorem ns_cases_u (s : Int) :
    (s < 1 ∧ Nums.nsC s = 3 ∧ Nums.nsV s = 0) ∨ (1 ≤ s ∧ 2147483646 < s ∧ Nums.nsC s = 3 ∧ Nums.nsV s = 0) ∨ (1 ≤ s ∧ s ≤ 2147483646 ∧ Nums.nsC s = 0 ∧ Nums.nsV s = s * 48271 % 2147483647) := by
  rcases Nums.ns_cases s with h | h | ⟨h1, h2, h3, h4⟩
  · exact .inl h
  · exact .inr (.inl h)
  · exact .inr (.inr ⟨h1, h2, h3, by rw [h4, Int.mul_comm]⟩)

theorem wrap64_small {x : Int} (h0 : 0 ≤ x) (h1 : x < 9223372036854775808) : wrap64 x = x := by
  unfold wrap64
  omega

theorem ro_cases_u (s n : Int) :
    (s < 1 ∧ Nums.roC s n = 3 ∧ Nums.roV s n = 0) ∨ (1 ≤ s ∧ 2147483646 < s ∧ Nums.roC s n = 3 ∧ Nums.roV s n = 0) ∨
    (1 ≤ s ∧ s ≤ 2147483646 ∧ n < 1 ∧ Nums.roC s n = 3 ∧ Nums.roV s n = 0) ∨ (1 ≤ s ∧ s ≤ 2147483646 ∧ 1 ≤ n ∧ 1000 < n ∧ Nums.roC s n = 3 ∧ Nums.roV s n = 0) ∨
    (1 ≤ s ∧ s ≤ 2147483646 ∧ 1 ≤ n ∧ n ≤ 1000 ∧ Nums.roC s n = 0 ∧ Nums.roV s n = wrap64 (s * 48271 % 2147483647 % n)) := by
  rcases Nums.ro_cases s n with h | h | h | h | ⟨h1, h2, h3, h4, h5, h6⟩
  · exact .inl h
  · exact .inr (.inl h)
  · exact .inr (.inr (.inl h))
  · exact .inr (.inr (.inr (.inl h)))
  · refine .inr (.inr (.inr (.inr ⟨h1, h2, h3, h4, h5, ?_⟩)))
    have a0 := Int.emod_nonneg (s * 48271 % 2147483647) (b := n) (by omega)
    have a1 := Int.emod_lt_of_pos (s * 48271 % 2147483647) (b := n) (by omega)
    rw [h6, Int.mul_comm, wrap64_small a0 (by omega)]


set_option maxHeartbeats 1000000 in
theorem specTile (x y : Int) (w : World) :
    Calls Tryz.prog 149 #[.int .i64 x, .int .i64 y] w fun e w' => e = .returned (.bool (Nums.tileB x y)) ∧ w' = w := by
  rcases Nums.tile_cases x y with ⟨h1, e1⟩ | ⟨h1, h2, e1⟩ | ⟨h1, h2, h3, e1⟩ | ⟨h1, h2, h3, h4, e1⟩ | ⟨h1, h2, h3, h4, e1⟩
  all_goals
    rw [e1]
    clear e1
    try (have d1 : decide (0 ≤ x) = false := decide_eq_false (by omega))
    try (have d2 : decide (x ≤ 11) = false := decide_eq_false (by omega))
    try (have d3 : decide (0 ≤ y) = false := decide_eq_false (by omega))
    try (have d4 : decide (y ≤ 11) = false := decide_eq_false (by omega))
    go_enter Tryz.func149, Tryz.ntmps149
    go_wp2
    go_ret
    exact ⟨rfl, rfl⟩
set_option maxHeartbeats 1000000 in
theorem implTile (x y : Int) (w : World) :
    Calls Tryz.prog 108 #[.int .i64 x, .int .i64 y] w fun e w' => e = .returned (.bool (Nums.tileB x y)) ∧ w' = w := by
  rcases Nums.tile_cases x y with ⟨h1, e1⟩ | ⟨h1, h2, e1⟩ | ⟨h1, h2, h3, e1⟩ | ⟨h1, h2, h3, h4, e1⟩ | ⟨h1, h2, h3, h4, e1⟩
  all_goals
    rw [e1]
    clear e1
    try (have d1 : decide (0 ≤ x) = false := decide_eq_false (by omega))
    try (have d2 : decide (x ≤ 11) = false := decide_eq_false (by omega))
    try (have d3 : decide (0 ≤ y) = false := decide_eq_false (by omega))
    try (have d4 : decide (y ≤ 11) = false := decide_eq_false (by omega))
    go_enter Tryz.func108, Tryz.ntmps108
    go_wp2
    go_ret
    exact ⟨rfl, rfl⟩
theorem far_cases (a b c d : Int) :
    (Nums.tileB a b = false ∧ Nums.faC a b c d = 3 ∧ Nums.faV a b c d = 0) ∨ (Nums.tileB a b = true ∧ Nums.tileB c d = false ∧ Nums.faC a b c d = 3 ∧ Nums.faV a b c d = 0) ∨
    (Nums.tileB a b = true ∧ Nums.tileB c d = true ∧ Nums.faC a b c d = 0 ∧ Nums.faV a b c d = Nums.mx (Nums.gap a c) (Nums.gap b d)) := by
  unfold Nums.faC Nums.faV
  cases h1 : Nums.tileB a b <;> cases h2 : Nums.tileB c d <;> simp
end Go.Proofs.YthopodopedbooaaGreat
end
