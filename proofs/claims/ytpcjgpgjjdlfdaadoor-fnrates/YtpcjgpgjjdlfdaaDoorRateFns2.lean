/- Contracts of IsGain, RateBits and ScaleBy and of their models: each pair answers what one plain function says. Condition: the arguments are int64 numbers. -/
import Derived.Test.YtpcjgpgjjdlfdaaDoorRateFns
namespace Go.Proofs.YtpcjgpgjjdlfdaaDoor
open Go.ChangeShapes Go.WideShapes Go.ChangeAt Go.RowKit
set_option linter.unusedVariables false

theorem gain_cases (b : Int) :
    (9218868437227405312 ≤ sz b ∧ Rts.qt (sz b) = -1 ∧ gainB b = false) ∨ (sz b < 9218868437227405312 ∧ Rts.qt (sz b) < 0 ∧ gainB b = false) ∨
    (sz b < 9218868437227405312 ∧ 0 ≤ Rts.qt (sz b) ∧ 0 ≤ b ∧ gainB b = true) ∨ (sz b < 9218868437227405312 ∧ 0 ≤ Rts.qt (sz b) ∧ b < 0 ∧ sz b = 0 ∧ gainB b = true) ∨
    (sz b < 9218868437227405312 ∧ 0 ≤ Rts.qt (sz b) ∧ b < 0 ∧ 0 < sz b ∧ gainB b = false) := by
  have s1 := sz_bd b
  unfold gainB
  by_cases h1 : 9218868437227405312 ≤ sz b
  · have hq := Rts.qt_out (n := sz b) (by omega) (by omega)
    exact .inl ⟨h1, hq, by rw [hq]; rfl⟩
  by_cases h2 : Rts.qt (sz b) < 0
  · exact .inr (.inl ⟨by omega, h2, by rw [decide_eq_false (show ¬ 0 ≤ Rts.qt (sz b) by omega)]; rfl⟩)
  by_cases h3 : 0 ≤ b
  · exact .inr (.inr (.inl ⟨by omega, by omega, h3, by rw [decide_eq_true (show 0 ≤ Rts.qt (sz b) by omega), decide_eq_true h3]; rfl⟩))
  by_cases h4 : sz b = 0
  · exact .inr (.inr (.inr (.inl ⟨by omega, by omega, by omega, h4, by rw [decide_eq_true (show 0 ≤ Rts.qt (sz b) by omega), decide_eq_true h4, Bool.or_true]; rfl⟩)))
  · exact .inr (.inr (.inr (.inr ⟨by omega, by omega, by omega, by omega, by rw [decide_eq_true (show 0 ≤ Rts.qt (sz b) by omega), decide_eq_false h3, decide_eq_false h4]; rfl⟩)))

set_option maxHeartbeats 1000000 in
theorem l2Gain_c (b : Int) (w : World) :
    Calls Tryd.prog 42 #[.int .i64 b] w fun e w' => e = .returned (.bool (gainB b)) ∧ w' = w := by
  have s1 := sz_bd b
  rcases gain_cases b with ⟨h1, h2, e⟩ | ⟨h1, h2, e⟩ | ⟨h1, h2, h3, e⟩ | ⟨h1, h2, h3, h4, e⟩ | ⟨h1, h2, h3, h4, e⟩ <;> rw [e] <;> clear e
  all_goals
    try (have d1 : decide (sz b < 9218868437227405312) = false := decide_eq_false (by omega))
    try (have d2 : decide (0 ≤ Rts.qt (sz b)) = false := decide_eq_false (by omega))
    try (have d3 : decide (0 ≤ b) = false := decide_eq_false (by omega))
    try (have d4 : (sz b == 0) = false := by simp; omega)
    try (have d5 : (sz b == 0) = true := (by simpa using h4); clear h4)
    go_enter Tryd.func42, Tryd.ntmps42
    go_wp2_with (first | (go_at_call 43; refine (l2Size_c _ _).mono ?_; rintro e w' ⟨rfl, rfl⟩) | (go_at_call 54; refine (l2Quarters_c _ _ s1.1 s1.2).mono ?_; rintro e w' ⟨rfl, rfl⟩))
    go_ret
    exact ⟨rfl, rfl⟩
theorem order0 {b : Int} (hb1 : -9223372036854775808 ≤ b) (hb2 : b < 9223372036854775808) (h : sz b ≤ 9218868437227405312) :
    FloatKind.f64.format.order (uw b) 0 = some (if sz b = 0 then .eq else if b < 0 then .lt else .gt) := by
  have u1 := uw_lt b
  have u2 := uw_sz b
  show Ieee.double.order (uw b) 0 = _
  rw [Flt.order_zero u1 (by omega)]
  have e1 : (uw b % 9223372036854775808 = 0) = (sz b = 0) := propext ⟨fun h => by omega, fun h => by omega⟩
  have e2 : (9223372036854775808 ≤ uw b) = (b < 0) := propext (by have := uw_neg hb1 hb2; rw [decide_eq_decide] at this; exact this)
  simp only [e1, e2]
set_option maxHeartbeats 1000000 in
theorem implIsGain (b : Int) (hb1 : -9223372036854775808 ≤ b) (hb2 : b < 9223372036854775808) (w : World) :
    Calls Tryd.prog 36 #[.int .i64 b] w fun e w' => e = .returned (.bool (gainB b)) ∧ (w' = w ∨ w' = w.drew) := by
  have s1 := sz_bd b
  have u1 := uw_lt b
  have u2 := uw_sz b
  rcases gain_cases b with ⟨h1, h2, e⟩ | ⟨h1, h2, e⟩ | ⟨h1, h2, h3, e⟩ | ⟨h1, h2, h3, h4, e⟩ | ⟨h1, h2, h3, h4, e⟩ <;> rw [e] <;> clear e
  · by_cases hn : sz b = 9218868437227405312
    · go_enter Tryd.func36, Tryd.ntmps36
      go_wp2_with (first | (go_at_call 28; refine (floatOf_u b _).mono ?_; rintro e w' ⟨rfl, rfl⟩) | (go_at_call 44; refine (quartersOf_no b _ (by omega) (by omega)).mono ?_; rintro e w' ⟨rfl, rfl⟩))
      go_ret
      exact ⟨rfl, .inl rfl⟩
    · go_enter Tryd.func36, Tryd.ntmps36
      go_wp2_with (first | (go_at_call 28; refine (floatOf_u b _).mono ?_; rintro e w' ⟨rfl, rfl⟩) | (go_at_call 44; refine (quartersOf_bad b _ (by omega)).mono ?_; rintro e w' ⟨rfl, rfl⟩))
      go_ret
      exact ⟨rfl, .inr rfl⟩
  · go_enter Tryd.func36, Tryd.ntmps36
    go_wp2_with (first | (go_at_call 28; refine (floatOf_u b _).mono ?_; rintro e w' ⟨rfl, rfl⟩) | (go_at_call 44; refine (quartersOf_no b _ (by omega) (by omega)).mono ?_; rintro e w' ⟨rfl, rfl⟩))
    go_ret
    exact ⟨rfl, .inl rfl⟩
  all_goals
    have o1 := order0 hb1 hb2 (by omega)
    obtain ⟨k, hk⟩ : ∃ k : Bool, (FloatKind.f64.format.order (uw b) 0 == some Ordering.gt || FloatKind.f64.format.order (uw b) 0 == some Ordering.eq) = k := ⟨_, rfl⟩
    have hk2 : Hid (k = (some (if sz b = 0 then Ordering.eq else if b < 0 then .lt else .gt) == some Ordering.gt || some (if sz b = 0 then Ordering.eq else if b < 0 then .lt else .gt) == some Ordering.eq)) := by show k = _; rw [← hk, o1]
    clear o1
    try (have h5 : Hid (sz b = 0) := h4; clear h4; have h4 := 0)
    go_enter Tryd.func36, Tryd.ntmps36
    go_wp2_with (first | (go_at_call 28; refine (floatOf_u b _).mono ?_; rintro e w' ⟨rfl, rfl⟩) | (go_at_call 44; refine (quartersOf_yes b _ (by omega) (by omega)).mono ?_; rintro e w' ⟨rfl, rfl⟩))
    go_ret
    refine ⟨congrArg (fun x => Ending.returned (Value.bool x)) ?_, .inl rfl⟩
    rw [hk2.out]
  · by_cases h4 : sz b = 0
    · rw [if_pos h4]; rfl
    · rw [if_neg h4, if_neg (by omega)]; rfl
  · rw [if_pos h5.out]; rfl
  · rw [if_neg (by omega), if_pos h3]; rfl
end Go.Proofs.YtpcjgpgjjdlfdaaDoor
