/- Contracts of RateParts, IsGain, RateBits and ScaleBy and of their models: each pair answers what one plain function says. Condition: the arguments are int64 numbers. -/
import Derived.Test.YtpcjgpgjjdlfdaaDoorRateWalks
namespace Go.Proofs.YtpcjgpgjjdlfdaaDoor
open Go.ChangeShapes Go.WideShapes Go.ChangeAt Go.RowKit
set_option linter.unusedVariables false

theorem parts_cases (b : Int) :
    (9218868437227405312 ≤ sz b ∧ partsA b = #[.int .i64 4, .bool false, .int .i64 0, .int .i64 0]) ∨
    (sz b < 9218868437227405312 ∧ Rts.qt (sz b) < 0 ∧ partsA b = #[.int .i64 3, .bool false, .int .i64 0, .int .i64 0]) ∨
    (sz b < 9218868437227405312 ∧ 0 ≤ Rts.qt (sz b) ∧ partsA b = #[.int .i64 0, .bool (decide (b < 0)), .int .i64 (Rts.qt (sz b) / 4), .int .i64 (Rts.qt (sz b) % 4)]) := by
  unfold partsA
  by_cases h1 : 9218868437227405312 ≤ sz b
  · exact .inl ⟨h1, by rw [if_pos h1]⟩
  · by_cases h2 : Rts.qt (sz b) < 0
    · exact .inr (.inl ⟨by omega, h2, by rw [if_neg h1, if_pos h2]⟩)
    · exact .inr (.inr ⟨by omega, by omega, by rw [if_neg h1, if_neg h2]⟩)

theorem floatOf_u (b : Int) (w : World) :
    Calls Tryd.prog 28 #[.int .i64 b] w fun e w' => e = .returned (.float .f64 (uw b)) ∧ w' = w := floatOf_c b w
theorem quartersOf_bad (b : Int) (w : World) (hr : 9218868437227405312 < sz b) :
    Calls Tryd.prog 44 #[.float .f64 (uw b)] w fun e w' => e = .returned (.tuple #[.int .i64 0, .bool false]) ∧ w' = w.drew :=
  quartersOf_nan (uw b) w (uw_lt b) (by have := uw_sz b; omega)
theorem quartersOf_no (b : Int) (w : World) (hr : sz b ≤ 9218868437227405312) (hq : Rts.qt (sz b) < 0) :
    Calls Tryd.prog 44 #[.float .f64 (uw b)] w fun e w' => e = .returned (.tuple #[.int .i64 0, .bool false]) ∧ w' = w := by
  have u2 := uw_sz b
  have h := quartersOf_c (uw b) w (uw_lt b) (by omega)
  rw [u2, show qoV (Rts.qt (sz b)) = .tuple #[.int .i64 0, .bool false] from by unfold qoV; rw [if_pos hq, decide_eq_false (by omega)]] at h
  exact h
theorem quartersOf_yes (b : Int) (w : World) (hr : sz b ≤ 9218868437227405312) (hq : 0 ≤ Rts.qt (sz b)) :
    Calls Tryd.prog 44 #[.float .f64 (uw b)] w fun e w' => e = .returned (.tuple #[.int .i64 (Rts.qt (sz b)), .bool true]) ∧ w' = w := by
  have u2 := uw_sz b
  have h := quartersOf_c (uw b) w (uw_lt b) (by omega)
  rw [u2, show qoV (Rts.qt (sz b)) = .tuple #[.int .i64 (Rts.qt (sz b)), .bool true] from by unfold qoV; rw [if_neg (by omega), decide_eq_true hq]] at h
  exact h

set_option maxHeartbeats 1000000 in
theorem implRateParts (b : Int) (hb1 : -9223372036854775808 ≤ b) (hb2 : b < 9223372036854775808) (w : World) :
    Calls Tryd.prog 19 #[.int .i64 b] w fun e w' => e = .returned (.agg (partsA b)) ∧ w' = w.alloc (.cells (partsA b) 37) := by
  have s1 := sz_bd b
  have q1 := Rts.qt_bd (sz b)
  have u1 := uw_lt b
  have u2 := uw_sz b
  have u3 := uw_neg hb1 hb2
  rcases parts_cases b with ⟨h1, e⟩ | ⟨h1, h2, e⟩ | ⟨h1, h2, e⟩
  · rw [e]
    clear e
    by_cases hn : 9218868437227405312 < uw b % 9223372036854775808
    · have d1 : decide (9218868437227405312 < uw b % 9223372036854775808) = true := decide_eq_true hn
      clear u2 u3
      go_enter Tryd.func19, Tryd.ntmps19
      go_wp2_with (first | (go_at_call 28; refine (floatOf_u b _).mono ?_; rintro e w' ⟨rfl, rfl⟩) | (go_at_call 29; refine (isNaN_c (uw b) _ u1).mono ?_; rintro e w' ⟨rfl, rfl⟩))
      refine bodyPost_ret ?_ rfl ⟨rfl, rfl⟩
      simp [results, Tryd.results19, go_sem]
    · have d1 : decide (9218868437227405312 < uw b % 9223372036854775808) = false := decide_eq_false hn
      have d2 : decide (uw b % 9223372036854775808 = 9218868437227405312) = true := decide_eq_true (by omega)
      clear u2 u3
      go_enter Tryd.func19, Tryd.ntmps19
      go_wp2_with (first | (go_at_call 28; refine (floatOf_u b _).mono ?_; rintro e w' ⟨rfl, rfl⟩) | (go_at_call 29; refine (isNaN_c (uw b) _ u1).mono ?_; rintro e w' ⟨rfl, rfl⟩) | (go_at_call 30; refine (isInf0_c (uw b) _ u1).mono ?_; rintro e w' ⟨rfl, rfl⟩))
      refine bodyPost_ret ?_ rfl ⟨rfl, rfl⟩
      simp [results, Tryd.results19, go_sem]
  · rw [e]
    clear e
    have d1 : decide (9218868437227405312 < uw b % 9223372036854775808) = false := decide_eq_false (by omega)
    have d2 : decide (uw b % 9223372036854775808 = 9218868437227405312) = false := decide_eq_false (by omega)
    have hr : uw b % 9223372036854775808 ≤ 9218868437227405312 := by omega
    clear u2 u3
    go_enter Tryd.func19, Tryd.ntmps19
    go_wp2_with (first | (go_at_call 28; refine (floatOf_u b _).mono ?_; rintro e w' ⟨rfl, rfl⟩) | (go_at_call 29; refine (isNaN_c (uw b) _ u1).mono ?_; rintro e w' ⟨rfl, rfl⟩) | (go_at_call 30; refine (isInf0_c (uw b) _ u1).mono ?_; rintro e w' ⟨rfl, rfl⟩) | (go_at_call 44; refine (quartersOf_no b _ (by omega) h2).mono ?_; rintro e w' ⟨rfl, rfl⟩))
    refine bodyPost_ret ?_ rfl ⟨rfl, rfl⟩
    simp [results, Tryd.results19, go_sem]
  · rw [e]
    clear e
    have d1 : decide (9218868437227405312 < uw b % 9223372036854775808) = false := decide_eq_false (by omega)
    have d2 : decide (uw b % 9223372036854775808 = 9218868437227405312) = false := decide_eq_false (by omega)
    have hr : uw b % 9223372036854775808 ≤ 9218868437227405312 := by omega
    clear u2
    go_enter Tryd.func19, Tryd.ntmps19
    go_wp2_with (first | (go_at_call 28; refine (floatOf_u b _).mono ?_; rintro e w' ⟨rfl, rfl⟩) | (go_at_call 29; refine (isNaN_c (uw b) _ u1).mono ?_; rintro e w' ⟨rfl, rfl⟩) | (go_at_call 30; refine (isInf0_c (uw b) _ u1).mono ?_; rintro e w' ⟨rfl, rfl⟩) | (go_at_call 44; refine (quartersOf_yes b _ (by omega) h2).mono ?_; rintro e w' ⟨rfl, rfl⟩) | (go_at_call 32; refine (signbit_c (uw b) _ u1).mono ?_; rintro e w' ⟨rfl, rfl⟩))
    refine bodyPost_ret ?_ rfl ⟨rfl, rfl⟩
    simp [results, Tryd.results19, go_sem]
end Go.Proofs.YtpcjgpgjjdlfdaaDoor
