/- Plain arithmetic: the root of a number of 0 to 1000000000000, bit by bit, and that it is the one number whose square is not above it while its successor's is. No condition. -/
namespace Go.Proofs.Ytgboomfgipgcnaa.Nums

def p2 : Nat → Int
  | 0 => 1
  | k + 1 => 2 * p2 k

theorem p2_pos (k : Nat) : 1 ≤ p2 k := by
  induction k with
  | zero => decide
  | succ k ih => unfold p2; omega

theorem p2_le (j : Nat) : ∀ k, k ≤ j → p2 k ≤ p2 j := by
  induction j with
  | zero => intro k hk; obtain rfl : k = 0 := by omega
            exact Int.le_refl _
  | succ j ih =>
    intro k hk
    by_cases h : k = j + 1
    · subst h; exact Int.le_refl _
    · have a := ih k (by omega)
      have b := p2_pos j
      have c : p2 (j + 1) = 2 * p2 j := rfl
      omega

/- the next bit at k rounds to go: half of p2 k, and 0 where none is left -/
def bitAt (k : Nat) : Int := p2 k / 2
theorem bitAt_zero : bitAt 0 = 0 := by decide
theorem bitAt_succ (k : Nat) : bitAt (k + 1) = p2 k := by unfold bitAt; have c : p2 (k + 1) = 2 * p2 k := rfl; omega
theorem half_p2 (k : Nat) : p2 k / 2 = bitAt k := rfl

def rtBits (v : Int) : Nat → Int → Int
  | 0, r => r
  | k + 1, r => if (r + p2 k) * (r + p2 k) ≤ v then rtBits v k (r + p2 k) else rtBits v k r

def IsRoot (v r : Int) : Prop := 0 ≤ r ∧ r * r ≤ v ∧ v < (r + 1) * (r + 1)

theorem rtBits_root (v : Int) : ∀ (k : Nat) (r : Int), 0 ≤ r → r * r ≤ v → v < (r + p2 k) * (r + p2 k) → IsRoot v (rtBits v k r) := by
  intro k
  induction k with
  | zero => intro r h0 h1 h2; exact ⟨h0, h1, h2⟩
  | succ k ih =>
    intro r h0 h1 h2
    have hp := p2_pos k
    have c : p2 (k + 1) = 2 * p2 k := rfl
    unfold rtBits
    by_cases h : (r + p2 k) * (r + p2 k) ≤ v
    · rw [if_pos h]
      refine ih _ (by omega) h ?_
      rw [c] at h2
      have e : r + p2 k + p2 k = r + 2 * p2 k := by omega
      rw [e]; exact h2
    · rw [if_neg h]
      exact ih _ h0 h1 (by omega)

theorem sq_lt {r s : Int} (h0 : 0 ≤ s) (h : s + 1 ≤ r) : (s + 1) * (s + 1) ≤ r * r :=
  Int.mul_le_mul h h (by omega) (by omega)

theorem root_unique {v r s : Int} (hr : IsRoot v r) (hs : IsRoot v s) : r = s := by
  obtain ⟨a0, a1, a2⟩ := hr
  obtain ⟨b0, b1, b2⟩ := hs
  by_cases h1 : s + 1 ≤ r
  · have := sq_lt b0 h1; omega
  · by_cases h2 : r + 1 ≤ s
    · have := sq_lt a0 h2; omega
    · omega

def rtC (v : Int) : Int := if v < 0 ∨ 1000000000000 < v then 3 else 0
def rtV (v : Int) : Int := if v < 0 ∨ 1000000000000 < v then 0 else rtBits v 20 0

theorem p2_20 : p2 20 = 1048576 := by decide
theorem rt_root (v : Int) (h0 : 0 ≤ v) (h1 : v ≤ 1000000000000) : IsRoot v (rtBits v 20 0) := by
  refine rtBits_root v 20 0 (Int.le_refl _) (by simpa using h0) ?_
  rw [p2_20]
  have e : (0 + 1048576 : Int) * (0 + 1048576) = 1099511627776 := by decide
  rw [e]; omega

theorem rt_cases (v : Int) :
    (v < 0 ∧ rtC v = 3 ∧ rtV v = 0) ∨ (0 ≤ v ∧ 1000000000000 < v ∧ rtC v = 3 ∧ rtV v = 0) ∨ (0 ≤ v ∧ v ≤ 1000000000000 ∧ rtC v = 0 ∧ rtV v = rtBits v 20 0 ∧ IsRoot v (rtV v)) := by
  by_cases h1 : v < 0
  · exact .inl ⟨h1, by unfold rtC; rw [if_pos (.inl h1)], by unfold rtV; rw [if_pos (.inl h1)]⟩
  by_cases h2 : 1000000000000 < v
  · exact .inr (.inl ⟨by omega, h2, by unfold rtC; rw [if_pos (.inr h2)], by unfold rtV; rw [if_pos (.inr h2)]⟩)
  have n : ¬ (v < 0 ∨ 1000000000000 < v) := by omega
  have e : rtV v = rtBits v 20 0 := by unfold rtV; rw [if_neg n]
  exact .inr (.inr ⟨by omega, by omega, by unfold rtC; rw [if_neg n], e, by rw [e]; exact rt_root v (by omega) (by omega)⟩)

theorem sq_bd {x : Int} (h0 : 0 ≤ x) (h1 : x ≤ 1048576) : 0 ≤ x * x ∧ x * x ≤ 1099511627776 := by
  have a := Int.mul_nonneg h0 h0
  have b : x * x ≤ 1048576 * 1048576 := Int.mul_le_mul h1 h1 h0 (by omega)
  omega

theorem rtBits_hit (v : Int) (k : Nat) (r : Int) (h : (r + p2 k) * (r + p2 k) ≤ v) : rtBits v (k + 1) r = rtBits v k (r + p2 k) := by
  conv => lhs; unfold rtBits
  rw [if_pos h]
theorem rtBits_miss (v : Int) (k : Nat) (r : Int) (h : ¬ (r + p2 k) * (r + p2 k) ≤ v) : rtBits v (k + 1) r = rtBits v k r := by
  conv => lhs; unfold rtBits
  rw [if_neg h]
theorem root_le {v r : Int} (h : IsRoot v r) (hv : v ≤ 1000000000000) : r ≤ 1000000 := by
  by_cases g : r ≤ 1000000
  · exact g
  · have a := sq_lt (s := 1000000) (by omega) (show (1000000 : Int) + 1 ≤ r by omega)
    have b : ((1000000 : Int) + 1) * (1000000 + 1) = 1000002000001 := by decide
    have c := h.2.1
    omega
end Go.Proofs.Ytgboomfgipgcnaa.Nums
