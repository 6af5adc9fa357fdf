/- Contracts of the functions of chapter 1 (numbers) and of their models: each returns what the plain functions of Nums say, and lays one new block. No condition. -/
import Derived.Test.YtpcjgpgjjdlfdaaDoorRows
import Derived.WalkKit
import Derived.ProofKit
import Derived.OpenShut
import Derived.ShutString
import Derived.WalkLawsBesides
import Derived.Test.YtpcjgpgjjdlfdaaDoorNums
namespace Go.Proofs.YtpcjgpgjjdlfdaaDoor
open Go.ChangeShapes Go.WideShapes Go.ChangeAt Go.RowKit
set_option linter.unusedVariables false

theorem ns_cases_u (s : Int) :
    (s < 1 ∧ Nums.nsC s = 3 ∧ Nums.nsV s = 0) ∨ (1 ≤ s ∧ 2147483646 < s ∧ Nums.nsC s = 3 ∧ Nums.nsV s = 0) ∨ (1 ≤ s ∧ s ≤ 2147483646 ∧ Nums.nsC s = 0 ∧ Nums.nsV s = s * 48271 % 2147483647) := by
  rcases Nums.ns_cases s with h | h | ⟨h1, h2, h3, h4⟩
  · exact .inl h
  · exact .inr (.inl h)
  · exact .inr (.inr ⟨h1, h2, h3, by rw [h4, Int.mul_comm]⟩)

theorem wrap64_small {x : Int} (h0 : 0 ≤ x) (h1 : x < 9223372036854775808) : wrap64 x = x := by
  unfold wrap64
  omega

theorem ro_cases_u (s n : Int) :
    (s < 1 ∧ Nums.roC s n = 3 ∧ Nums.roV s n = 0) ∨ (1 ≤ s ∧ 2147483646 < s ∧ Nums.roC s n = 3 ∧ Nums.roV s n = 0) ∨
    (1 ≤ s ∧ s ≤ 2147483646 ∧ n < 1 ∧ Nums.roC s n = 3 ∧ Nums.roV s n = 0) ∨ (1 ≤ s ∧ s ≤ 2147483646 ∧ 1 ≤ n ∧ 1000 < n ∧ Nums.roC s n = 3 ∧ Nums.roV s n = 0) ∨
    (1 ≤ s ∧ s ≤ 2147483646 ∧ 1 ≤ n ∧ n ≤ 1000 ∧ Nums.roC s n = 0 ∧ Nums.roV s n = wrap64 (s * 48271 % 2147483647 % n)) := by
  rcases Nums.ro_cases s n with h | h | h | h | ⟨h1, h2, h3, h4, h5, h6⟩
  · exact .inl h
  · exact .inr (.inl h)
  · exact .inr (.inr (.inl h))
  · exact .inr (.inr (.inr (.inl h)))
  · refine .inr (.inr (.inr (.inr ⟨h1, h2, h3, h4, h5, ?_⟩)))
    have a0 := Int.emod_nonneg (s * 48271 % 2147483647) (b := n) (by omega)
    have a1 := Int.emod_lt_of_pos (s * 48271 % 2147483647) (b := n) (by omega)
    rw [h6, Int.mul_comm, wrap64_small a0 (by omega)]


end Go.Proofs.YtpcjgpgjjdlfdaaDoor
