/- Contracts of the functions of chapter 1 (numbers) and of their models: each returns what the plain functions of Nums say, and lays one new block. No condition. -/
import Derived.Test.YtpcjgpgjjdlfdaaRows
import Derived.WalkKit
import Derived.ProofKit
import Derived.OpenShut
import Derived.ShutString
import Derived.WalkLawsBesides
import Derived.Test.YtpcjgpgjjdlfdaaNums
namespace Go.Proofs.Ytpcjgpgjjdlfdaa
open Go.ChangeShapes Go.WideShapes Go.ChangeAt Go.RowKit
set_option linter.unusedVariables false

theorem ns_cases_u (s : Int) :
    (s < 1 ∧ Nums.nsC s = 3 ∧ Nums.nsV s = 0) ∨ (1 ≤ s ∧ 2147483646 < s ∧ Nums.nsC s = 3 ∧ Nums.nsV s = 0) ∨ (1 ≤ s ∧ s ≤ 2147483646 ∧ Nums.nsC s = 0 ∧ Nums.nsV s = s * 48271 % 2147483647) := by
  rcases Nums.ns_cases s with h | h | ⟨h1, h2, h3, h4⟩
  · exact .inl h
  · exact .inr (.inl h)
  · exact .inr (.inr ⟨h1, h2, h3, by rw [h4, Int.mul_comm]⟩)

theorem wrap64_small {x : Int} (h0 : 0 ≤ x) (h1 : x < 9223372036854775808) : wrap64 x = x := by
  unfold wrap64
  omega

theorem ro_cases_u (s n : Int) :
    (s < 1 ∧ Nums.roC s n = 3 ∧ Nums.roV s n = 0) ∨ (1 ≤ s ∧ 2147483646 < s ∧ Nums.roC s n = 3 ∧ Nums.roV s n = 0) ∨
    (1 ≤ s ∧ s ≤ 2147483646 ∧ n < 1 ∧ Nums.roC s n = 3 ∧ Nums.roV s n = 0) ∨ (1 ≤ s ∧ s ≤ 2147483646 ∧ 1 ≤ n ∧ 1000 < n ∧ Nums.roC s n = 3 ∧ Nums.roV s n = 0) ∨
    (1 ≤ s ∧ s ≤ 2147483646 ∧ 1 ≤ n ∧ n ≤ 1000 ∧ Nums.roC s n = 0 ∧ Nums.roV s n = wrap64 (s * 48271 % 2147483647 % n)) := by
  rcases Nums.ro_cases s n with h | h | h | h | ⟨h1, h2, h3, h4, h5, h6⟩
  · exact .inl h
  · exact .inr (.inl h)
  · exact .inr (.inr (.inl h))
  · exact .inr (.inr (.inr (.inl h)))
  · refine .inr (.inr (.inr (.inr ⟨h1, h2, h3, h4, h5, ?_⟩)))
    have a0 := Int.emod_nonneg (s * 48271 % 2147483647) (b := n) (by omega)
    have a1 := Int.emod_lt_of_pos (s * 48271 % 2147483647) (b := n) (by omega)
    rw [h6, Int.mul_comm, wrap64_small a0 (by omega)]

theorem eqIntResult_same (c v : Int) (w : World) :
    Calls Try.prog 20 #[.agg #[.int .i64 c, .int .i64 v], .agg #[.int .i64 c, .int .i64 v]] w fun e w' => e = .returned (.bool true) ∧ w' = (w.alloc (.cells #[.int .i64 c, .int .i64 v] 27)).alloc (.cells #[.int .i64 c, .int .i64 v] 27) := by
  go_enter Try.func20, Try.ntmps20
  go_wp2
  go_ret
  exact ⟨rfl, rfl⟩

set_option maxHeartbeats 1000000 in
theorem specAddPurse (a b : Int) (w : World) :
    Calls Try.prog 35 #[.int .i64 a, .int .i64 b] w fun e w' => e = .returned (.agg #[.int .i64 (Nums.apC a b), .int .i64 (Nums.apV a b)]) ∧ w' = w.alloc (.cells #[.int .i64 (Nums.apC a b), .int .i64 (Nums.apV a b)] 27) := by
  rcases Nums.ap_cases a b with ⟨h1, e1, e2⟩ | ⟨h1, h2, e1, e2⟩ | ⟨h1, h2, h3, e1, e2⟩ | ⟨h1, h2, h3, h4, e1, e2⟩ | ⟨h1, h2, h3, h4, h5, e1, e2⟩ | ⟨h1, h2, h3, h4, h5, h6, e1, e2⟩ | ⟨h1, h2, h3, h4, h5, h6, e1, e2⟩
  all_goals
    rw [e1, e2]
    clear e1 e2
    try (have d1 : decide (0 ≤ a) = false := decide_eq_false (by omega))
    try (have d2 : decide (a ≤ 1000000) = false := decide_eq_false (by omega))
    try (have d3 : decide (-1000000 ≤ b) = false := decide_eq_false (by omega))
    try (have d4 : decide (b ≤ 1000000) = false := decide_eq_false (by omega))
    go_enter Try.func35, Try.ntmps35
    go_wp2
    refine bodyPost_ret ?_ rfl ⟨rfl, rfl⟩
    simp [results, Try.results35, go_sem]
theorem specAddPurse_as (a b u r : Int) (hu : Nums.apC a b = u) (hr : Nums.apV a b = r) (w : World) :
    Calls Try.prog 35 #[.int .i64 a, .int .i64 b] w fun e w' => e = .returned (.agg #[.int .i64 u, .int .i64 r]) ∧ w' = w.alloc (.cells #[.int .i64 u, .int .i64 r] 27) := by
  subst hu hr; exact specAddPurse a b w
end Go.Proofs.Ytpcjgpgjjdlfdaa
