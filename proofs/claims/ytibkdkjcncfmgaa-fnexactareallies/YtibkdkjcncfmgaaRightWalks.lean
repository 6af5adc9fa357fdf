/- Contracts of HasRight and of its model, and of their parts. No condition. -/
import Derived.Test.YtibkdkjcncfmgaaBrdNums
import Derived.Laws.BitsLemmas
namespace Go.Proofs.Ytibkdkjcncfmgaa
open Go.ChangeShapes Go.WideShapes Go.ChangeAt Go.RowKit
open Bd
set_option linter.unusedVariables false

/- has the mask that bit: as the program asks it, and as the model does -/
def hasI (m b : Int) : Bool := bits .and .i64 (m / 2 ^ b.toNat) 1 == 1
def hasS (m b : Int) : Bool := (m / 2 ^ b.toNat).tmod 2 == 1
theorem has_eq (m b : Int) (h0 : 0 ≤ m) (h1 : m ≤ 9223372036854775807) : hasI m b = hasS m b := by
  have hp : (0 : Int) < 2 ^ b.toNat := Int.pow_pos (by omega)
  have q0 : 0 ≤ m / 2 ^ b.toNat := Int.ediv_nonneg h0 (Int.le_of_lt hp)
  have q1 : m / 2 ^ b.toNat ≤ m := Int.ediv_le_self _ h0
  have h := bits_mask .i64 63 (by decide) (fun n h0 h1 => by rw [IntKind.wrap_i64]; omega) 1 (by decide) (m / 2 ^ b.toNat) q0 (by omega)
  have e : ((2 : Int) ^ 1 - 1) = 1 := by decide
  have e2 : ((2 : Int) ^ 1) = 2 := by decide
  rw [e, e2] at h
  unfold hasI hasS
  rw [h, Int.tmod_eq_emod_of_nonneg q0]
theorem hasBit_c (m b : Int) (h0 : 0 ≤ b) (h1 : b ≤ 62) (w : World) :
    Calls Try.prog 113 #[.int .i64 m, .int .i64 b] w fun e w' => e = .returned (.bool (hasI m b)) ∧ w' = w := by
  go_enter Try.func113, Try.ntmps113
  go_wp2
  go_ret
  exact ⟨rfl, rfl⟩
theorem l6Has_c (m b : Int) (h0 : 0 ≤ b) (h1 : b ≤ 62) (w : World) :
    Calls Try.prog 110 #[.int .i64 m, .int .i64 b] w fun e w' => e = .returned (.bool (hasS m b)) ∧ w' = w := by
  go_enter Try.func110, Try.ntmps110
  go_wp2
  go_ret
  exact ⟨rfl, rfl⟩
theorem l3Kind_c (v : Int) (w : World) :
    Calls Try.prog 108 #[.int .i64 v] w fun e w' => e = .returned (.bool (inb v 1 11)) ∧ w' = w := by
  go_enter Try.func108, Try.ntmps108
  go_wp2_with (go_at_call 109; refine (l1In_c v 1 11 _).mono ?_; rintro e w1 ⟨rfl, rfl⟩)
  go_ret
  exact ⟨rfl, rfl⟩
theorem isKind_c (v : Int) (w : World) :
    Calls Try.prog 111 #[.int .i64 v] w fun e w' => e = .returned (.bool (inb v 1 11)) ∧ w' = w := by
  by_cases h1 : 1 ≤ v
  · by_cases h2 : v ≤ 11
    · rw [inb_t h1 h2]
      go_enter Try.func111, Try.ntmps111
      go_wp2
      go_ret
      exact ⟨rfl, rfl⟩
    · rw [inb_f (by omega)]
      have d2 : decide (v ≤ 11) = false := decide_eq_false h2
      go_enter Try.func111, Try.ntmps111
      go_wp2
      go_ret
      exact ⟨rfl, rfl⟩
  · rw [inb_f (by omega)]
    have d2 : decide (1 ≤ v) = false := decide_eq_false h1
    go_enter Try.func111, Try.ntmps111
    go_wp2
    go_ret
    exact ⟨rfl, rfl⟩
theorem isMask_c (v : Int) (w : World) :
    Calls Try.prog 112 #[.int .i64 v] w fun e w' => e = .returned (.bool (inb v 0 2047)) ∧ w' = w := by
  by_cases h1 : 0 ≤ v
  · by_cases h2 : v ≤ 2047
    · rw [inb_t h1 h2]
      go_enter Try.func112, Try.ntmps112
      go_wp2
      go_ret
      exact ⟨rfl, rfl⟩
    · rw [inb_f (by omega)]
      have d2 : decide (v ≤ 2047) = false := decide_eq_false h2
      go_enter Try.func112, Try.ntmps112
      go_wp2
      go_ret
      exact ⟨rfl, rfl⟩
  · rw [inb_f (by omega)]
    have d2 : decide (0 ≤ v) = false := decide_eq_false h1
    go_enter Try.func112, Try.ntmps112
    go_wp2
    go_ret
    exact ⟨rfl, rfl⟩
def hr (m k : Int) : Bool := inb k 1 11 && (inb m 0 2047 && hasS m (k - 1))
theorem hr_cases (m k : Int) : (inb k 1 11 = false ∧ hr m k = false) ∨ (inb k 1 11 = true ∧ inb m 0 2047 = false ∧ hr m k = false) ∨ (inb k 1 11 = true ∧ inb m 0 2047 = true ∧ hr m k = hasS m (k - 1)) := by
  unfold hr
  cases inb k 1 11 <;> cases inb m 0 2047 <;> simp
theorem specHasRight (m k : Int) (w : World) :
    Calls Try.prog 47 #[.int .i64 m, .int .i64 k] w fun e w' => e = .returned (.bool (hr m k)) ∧ w' = w := by
  have q1 := fun w => l3Kind_c k w
  have q2 := fun w => l1In_c m 0 2047 w
  rcases hr_cases m k with ⟨e1, e⟩ | ⟨e1, e2, e⟩ | ⟨e1, e2, e⟩
  · rw [e]
    rw [e1] at q1
    go_enter Try.func47, Try.ntmps47
    go_wp2_with (first | (go_at_call 108; refine (q1 _).mono ?_; rintro e w1 ⟨rfl, rfl⟩) | (go_at_call 109; refine (q2 _).mono ?_; rintro e w1 ⟨rfl, rfl⟩))
    go_ret
    exact ⟨rfl, rfl⟩
  · rw [e]
    rw [e1] at q1
    rw [e2] at q2
    go_enter Try.func47, Try.ntmps47
    go_wp2_with (first | (go_at_call 108; refine (q1 _).mono ?_; rintro e w1 ⟨rfl, rfl⟩) | (go_at_call 109; refine (q2 _).mono ?_; rintro e w1 ⟨rfl, rfl⟩))
    go_ret
    exact ⟨rfl, rfl⟩
  · rw [e]
    obtain ⟨k0, k1⟩ := inb_i e1
    rw [e1] at q1
    rw [e2] at q2
    have q3 := fun w => l6Has_c m (k - 1) (by omega) (by omega) w
    go_enter Try.func47, Try.ntmps47
    go_wp2_with (first | (go_at_call 108; refine (q1 _).mono ?_; rintro e w1 ⟨rfl, rfl⟩) | (go_at_call 109; refine (q2 _).mono ?_; rintro e w1 ⟨rfl, rfl⟩) | (go_at_call 110; refine (q3 _).mono ?_; rintro e w1 ⟨rfl, rfl⟩))
    go_ret
    exact ⟨rfl, rfl⟩
theorem implHasRight (m k : Int) (w : World) :
    Calls Try.prog 48 #[.int .i64 m, .int .i64 k] w fun e w' => e = .returned (.bool (hr m k)) ∧ w' = w := by
  have q1 := fun w => isKind_c k w
  have q2 := fun w => isMask_c m w
  rcases hr_cases m k with ⟨e1, e⟩ | ⟨e1, e2, e⟩ | ⟨e1, e2, e⟩
  · rw [e]
    rw [e1] at q1
    go_enter Try.func48, Try.ntmps48
    go_wp2_with (first | (go_at_call 111; refine (q1 _).mono ?_; rintro e w1 ⟨rfl, rfl⟩) | (go_at_call 112; refine (q2 _).mono ?_; rintro e w1 ⟨rfl, rfl⟩))
    go_ret
    exact ⟨rfl, rfl⟩
  · rw [e]
    rw [e1] at q1
    rw [e2] at q2
    go_enter Try.func48, Try.ntmps48
    go_wp2_with (first | (go_at_call 111; refine (q1 _).mono ?_; rintro e w1 ⟨rfl, rfl⟩) | (go_at_call 112; refine (q2 _).mono ?_; rintro e w1 ⟨rfl, rfl⟩))
    go_ret
    exact ⟨rfl, rfl⟩
  · rw [e]
    obtain ⟨k0, k1⟩ := inb_i e1
    obtain ⟨m0, m1⟩ := inb_i e2
    rw [← has_eq m (k - 1) m0 (by omega)]
    rw [e1] at q1
    rw [e2] at q2
    have q3 := fun w => hasBit_c m (k - 1) (by omega) (by omega) w
    go_enter Try.func48, Try.ntmps48
    go_wp2_with (first | (go_at_call 111; refine (q1 _).mono ?_; rintro e w1 ⟨rfl, rfl⟩) | (go_at_call 112; refine (q2 _).mono ?_; rintro e w1 ⟨rfl, rfl⟩) | (go_at_call 113; refine (q3 _).mono ?_; rintro e w1 ⟨rfl, rfl⟩))
    go_ret
    exact ⟨rfl, rfl⟩
theorem walk_fnExactHasRight (m k : Int) (W : World) :
    Calls Try.prog 8 #[.int .i64 m, .int .i64 k] W fun e w' => e = .returned (.bool true) ∧ Below W.heap.size W w' := by
  have s1 := fun w => specHasRight m k w
  have s2 := fun w => implHasRight m k w
  generalize hr m k = R at s1 s2
  have hR : (R != R) = false := by simp
  go_enter Try.func8, Try.ntmps8
  go_wp2_with (first | (go_at_call 47; refine (s1 _).mono ?_; rintro e w1 ⟨rfl, rfl⟩) | (go_at_call 48; refine (s2 _).mono ?_; rintro e w1 ⟨rfl, rfl⟩))
  go_ret
  exact ⟨rfl, Below.refl _ _⟩
end Go.Proofs.Ytibkdkjcncfmgaa
