/- Plain arithmetic: the shares of a number, as a list. No condition. -/
namespace Go.Proofs.Ytgboomfgipgcnab.Nums
set_option linter.unusedVariables false

def shAt (n : Int) (p : Nat) (i : Nat) : Int := if (i : Int) < n % (p : Int) then n / (p : Int) + 1 else n / (p : Int)
def shTo (n : Int) (p : Nat) (k : Nat) : List Int := (List.range k).map (shAt n p)
theorem shTo_len (n : Int) (p k : Nat) : (shTo n p k).length = k := by simp [shTo]
theorem shTo_succ (n : Int) (p k : Nat) : shTo n p (k + 1) = shTo n p k ++ [shAt n p k] := by simp [shTo, List.range_succ]
theorem shTo_get (n : Int) (p k i : Nat) (h : i < k) : (shTo n p k)[i]? = some (shAt n p i) := by simp [shTo, h]
theorem shAt_lo (n : Int) (p i : Nat) (h : (i : Int) < n % (p : Int)) : shAt n p i = n / (p : Int) + 1 := by unfold shAt; rw [if_pos h]
theorem shAt_hi (n : Int) (p i : Nat) (h : ¬ (i : Int) < n % (p : Int)) : shAt n p i = n / (p : Int) := by unfold shAt; rw [if_neg h]
def sumTo (n : Int) (p : Nat) : Nat → Int
  | 0 => 0
  | k + 1 => sumTo n p k + shAt n p k
/- k shares are k times the quotient, and one more for each of the first ones -/
theorem sumTo_eq (n : Int) (p : Nat) (h0 : 0 ≤ n % (p : Int)) : ∀ k : Nat, sumTo n p k = k * (n / (p : Int)) + (if (k : Int) < n % (p : Int) then (k : Int) else n % (p : Int)) := by
  intro k
  induction k with
  | zero => simp [sumTo]; omega
  | succ k ih =>
    have e : (((k + 1 : Nat) : Int)) * (n / (p : Int)) = (k : Int) * (n / (p : Int)) + n / (p : Int) := by
      have : ((k + 1 : Nat) : Int) = (k : Int) + 1 := by omega
      rw [this, Int.add_mul, Int.one_mul]
    unfold sumTo shAt
    rw [ih, e]
    generalize (k : Int) * (n / (p : Int)) = A
    generalize n / (p : Int) = q
    generalize n % (p : Int) = r at *
    split <;> split <;> omega
theorem sumTo_all (n : Int) (p : Nat) (hp : 1 ≤ p) (hn : 0 ≤ n) : sumTo n p p = n := by
  have h0 := Int.emod_nonneg n (b := (p : Int)) (by omega)
  have h1 := Int.emod_lt_of_pos n (b := (p : Int)) (by omega)
  rw [sumTo_eq n p h0, if_neg (by omega)]
  have := Int.mul_ediv_add_emod n (p : Int)
  omega
theorem shAt_bd (n : Int) (p i : Nat) (hp : 1 ≤ p) (hn : 0 ≤ n) (hn2 : n ≤ 1000000) : 0 ≤ shAt n p i ∧ shAt n p i ≤ 1000001 := by
  have a := Int.ediv_nonneg (a := n) (b := (p : Int)) hn (by omega)
  have b := Int.ediv_le_self (a := n) (p : Int) hn
  unfold shAt
  split <;> omega
theorem shAt_zero (n : Int) (p i : Nat) (h0 : 0 ≤ n % (p : Int)) : 0 ≤ shAt n p 0 - shAt n p i ∧ shAt n p 0 - shAt n p i ≤ 1 := by
  unfold shAt
  split <;> split <;> omega
theorem shAt_step (n : Int) (p i : Nat) : shAt n p (i + 1) ≤ shAt n p i := by
  unfold shAt
  split <;> split <;> omega
theorem sumTo_bd (n : Int) (p : Nat) (hp : 1 ≤ p) (hn : 0 ≤ n) (hn2 : n ≤ 1000000) : ∀ k : Nat, 0 ≤ sumTo n p k ∧ sumTo n p k ≤ 1000001 * (k : Int) := by
  intro k
  induction k with
  | zero => simp [sumTo]
  | succ k ih =>
    have := shAt_bd n p k hp hn hn2
    unfold sumTo
    omega
end Go.Proofs.Ytgboomfgipgcnab.Nums
