/- Contracts of RateBits and ScaleBy and of their models: each pair answers what one plain function says. Condition: the arguments are int64 numbers. -/
import Derived.Test.YtpcjgpgjjdlfdaaDoorRateFns2
namespace Go.Proofs.YtpcjgpgjjdlfdaaDoor
open Go.ChangeShapes Go.WideShapes Go.ChangeAt Go.RowKit
set_option linter.unusedVariables false

theorem lb_of {q k : Nat} (h1 : 2 ^ k ≤ q) (h2 : q < 2 ^ (k + 1)) (hk : k ≤ 52) :
    (1021 + (k : Int)) * 4503599627370496 + ((q : Int) - ((2 ^ k : Nat) : Int)) * ((2 ^ (52 - k) : Nat) : Int) = ((Rts.lb q : Nat) : Int) := by
  have hp := Nat.two_pow_pos k
  have h0 : q ≠ 0 := by omega
  have hL : q.log2 = k := (Nat.log2_eq_iff h0).2 ⟨h1, h2⟩
  have a1 : 2 ^ k * 2 ^ (52 - k) = 2 ^ 52 := by rw [← Nat.pow_add]; congr 1; omega
  have a1' : ((2 ^ k : Nat) : Int) * ((2 ^ (52 - k) : Nat) : Int) = 4503599627370496 := by rw [← Int.natCast_mul, a1]; rfl
  unfold Rts.lb
  rw [if_neg h0, hL, Int.sub_mul, a1']
  have e : ((q * 2 ^ (52 - k) : Nat) : Int) = (q : Int) * ((2 ^ (52 - k) : Nat) : Int) := by push_cast; rfl
  rw [Int.natCast_add, e]
  generalize (q : Int) * ((2 ^ (52 - k) : Nat) : Int) = z
  omega

set_option maxHeartbeats 1000000 in
theorem l2Bits_c (q : Nat) (w : World) (hq : q ≤ 39999) :
    Calls Tryd.prog 41 #[.int .i64 (q : Int)] w fun e w' => e = .returned (.int .i64 ((Rts.lb q : Nat) : Int)) ∧ w' = w := by
  by_cases h0 : q = 0
  · subst h0
    go_enter Tryd.func41, Tryd.ntmps41
    go_wp2
    go_ret
    exact ⟨rfl, rfl⟩
  have h0' : ((q : Int) == 0) = false := by simp; omega
  have hq' : (q : Int) ≤ 39999 := by omega
  have HL : Hid (∀ k : Nat, 2 ^ k ≤ q → q < 2 ^ (k + 1) → k ≤ 52 → (1021 + (k : Int)) * 4503599627370496 + ((q : Int) - ((2 ^ k : Nat) : Int)) * ((2 ^ (52 - k) : Nat) : Int) = ((Rts.lb q : Nat) : Int)) := fun k a b c => lb_of a b c
  go_enter Tryd.func41, Tryd.ntmps41
  go_wp2
  go_loop [3, 4] (fun e n => ∃ k : Nat, ∃ p : Int, e = .int .i64 (1021 + (k : Int)) ∧ n = .int .i64 p ∧ k ≤ 15 ∧ Hid (p = ((2 ^ k : Nat) : Int)) ∧ 0 < p ∧ p ≤ (q : Int)) (fun _ n => ((q : Int) - intOf n).toNat)
  case atStart => exact ⟨0, 1, rfl, rfl, by omega, rfl, by omega, by omega⟩
  case round =>
    obtain ⟨k, p, rfl, rfl, hk, hp, hp0, hp1⟩ := hrel
    by_cases hlt : 2 * p ≤ (q : Int)
    · have hk2 : k + 1 ≤ 15 := by
        have e := hp.out
        have : 2 ^ (k + 1) ≤ q := by rw [Nat.pow_succ]; omega
        by_cases c : k + 1 ≤ 15
        · exact c
        · exfalso
          have : 2 ^ 16 ≤ 2 ^ (k + 1) := Nat.pow_le_pow_right (by omega) (by omega)
          omega
      go_wp2
      go_round
      case rel => exact ⟨k + 1, 2 * p, by go_num, rfl, hk2, (by have e := hp.out; show 2 * p = _; rw [Nat.pow_succ]; omega), by omega, hlt⟩
      case measure => simp [intOf]; omega
    · obtain ⟨D, hD⟩ : ∃ D : Int, 4503599627370496 / p = D := ⟨_, rfl⟩
      have hDe : Hid (D = ((2 ^ (52 - k) : Nat) : Int)) := by
        show D = _
        rw [← hD, hp.out]
        have a1 : 2 ^ k * 2 ^ (52 - k) = 2 ^ 52 := by rw [← Nat.pow_add]; congr 1; omega
        have a2 : ((2 ^ k : Nat) : Int) * ((2 ^ (52 - k) : Nat) : Int) = 4503599627370496 := by rw [← Int.natCast_mul, a1]; rfl
        rw [← a2]
        exact Int.mul_ediv_cancel_left _ (by have := Nat.two_pow_pos k; omega)
      have hDp : p * D = 4503599627370496 := by
        rw [hDe.out, hp.out]
        have a1 : 2 ^ k * 2 ^ (52 - k) = 2 ^ 52 := by rw [← Nat.pow_add]; congr 1; omega
        rw [← Int.natCast_mul, a1]; rfl
      have hD0 : 0 < D := by rw [hDe.out]; have := Nat.two_pow_pos (52 - k); omega
      have hD1 : D ≤ 4503599627370496 := by rw [hDe.out]; have : 2 ^ (52 - k) ≤ 2 ^ 52 := Nat.pow_le_pow_right (by omega) (by omega); omega
      have hf0 : 0 ≤ ((q : Int) - p) * D := Int.mul_nonneg (by omega) (by omega)
      have hf1 : ((q : Int) - p) * D ≤ 4503599627370496 := by rw [← hDp]; exact Int.mul_le_mul_of_nonneg_right (by omega) (by omega)
      have HF : Hid ((1021 + (k : Int)) * 4503599627370496 + ((q : Int) - p) * D = ((Rts.lb q : Nat) : Int)) := by
        show _ = _
        have e := hp.out
        rw [hDe.out, e]
        exact HL.out k (by omega) (by rw [Nat.pow_succ]; omega) (by omega)
      clear hDp hDe hp HL
      have hp3 : ¬ p = 0 := by omega
      go_wp2
      go_ret
      exact ⟨congrArg (fun x => Ending.returned (Value.int .i64 x)) HF.out, rfl⟩
theorem l2Sign_c (r : Nat) (m : Bool) (w : World) (hr : r < 9223372036854775808) :
    Calls Tryd.prog 40 #[.int .i64 (r : Int), .bool m] w fun e w' => e = .returned (.int .i64 (sgn m r)) ∧ w' = w := by
  have hr' : (r : Int) < 9223372036854775808 := by omega
  cases m
  · go_enter Tryd.func40, Tryd.ntmps40
    go_wp2
    go_ret
    exact ⟨rfl, rfl⟩
  · have e : (r : Int) - 4611686018427387904 - 4611686018427387904 = sgn true r := by unfold sgn; simp; omega
    go_enter Tryd.func40, Tryd.ntmps40
    go_wp2
    go_ret
    exact ⟨rfl, rfl⟩

def rbC (wh qu : Int) : Int := if wh < 0 ∨ 9999 < wh ∨ qu < 0 ∨ 3 < qu then 3 else 0
def rbV (m : Bool) (wh qu : Int) : Int := if wh < 0 ∨ 9999 < wh ∨ qu < 0 ∨ 3 < qu then 0 else sgn m (Rts.lb (4 * wh + qu).toNat)
theorem rb_cases (m : Bool) (wh qu : Int) :
    (wh < 0 ∧ rbC wh qu = 3 ∧ rbV m wh qu = 0) ∨ (0 ≤ wh ∧ 9999 < wh ∧ rbC wh qu = 3 ∧ rbV m wh qu = 0) ∨
    (0 ≤ wh ∧ wh ≤ 9999 ∧ qu < 0 ∧ rbC wh qu = 3 ∧ rbV m wh qu = 0) ∨ (0 ≤ wh ∧ wh ≤ 9999 ∧ 0 ≤ qu ∧ 3 < qu ∧ rbC wh qu = 3 ∧ rbV m wh qu = 0) ∨
    (0 ≤ wh ∧ wh ≤ 9999 ∧ 0 ≤ qu ∧ qu ≤ 3 ∧ rbC wh qu = 0 ∧ rbV m wh qu = sgn m (Rts.lb (4 * wh + qu).toNat)) := by
  unfold rbC rbV
  generalize sgn m (Rts.lb (4 * wh + qu).toNat) = z
  omega
set_option maxHeartbeats 1000000 in
theorem specRateBits (m : Bool) (wh qu : Int) (w : World) :
    Calls Tryd.prog 17 #[.bool m, .int .i64 wh, .int .i64 qu] w fun e w' => e = .returned (.agg #[.int .i64 (rbC wh qu), .int .i64 (rbV m wh qu)]) ∧ w' = w.alloc (.cells #[.int .i64 (rbC wh qu), .int .i64 (rbV m wh qu)] 26) := by
  rcases rb_cases m wh qu with ⟨h1, e1, e2⟩ | ⟨h1, h2, e1, e2⟩ | ⟨h1, h2, h3, e1, e2⟩ | ⟨h1, h2, h3, h4, e1, e2⟩ | ⟨h1, h2, h3, h4, e1, e2⟩
  case inr.inr.inr.inr =>
    rw [e1, e2]
    clear e1 e2
    have d1 : inB wh 0 9999 = true := decide_eq_true ⟨h1, h2⟩
    have d2 : inB qu 0 3 = true := decide_eq_true ⟨h3, h4⟩
    obtain ⟨N, hN⟩ : ∃ N : Nat, 4 * wh + qu = (N : Int) := ⟨(4 * wh + qu).toNat, by omega⟩
    have hN2 : N ≤ 39999 := by omega
    have hl := Rts.lb_lt (q := N) (by omega)
    have hN3 : (4 * wh + qu).toNat = N := by omega
    rw [hN3]
    clear hN3
    go_enter Tryd.func17, Tryd.ntmps17
    go_wp2_with (first | (go_at_call 39; refine (l1In_c _ _ _ _).mono ?_; rintro e w' ⟨rfl, rfl⟩) | (go_at_call 41; refine (l2Bits_c N _ hN2).mono ?_; rintro e w' ⟨rfl, rfl⟩) | (go_at_call 40; refine (l2Sign_c _ _ _ (by omega)).mono ?_; rintro e w' ⟨rfl, rfl⟩))
    refine bodyPost_ret ?_ rfl ⟨rfl, rfl⟩
    simp [results, Tryd.results17, go_sem]
  all_goals
    rw [e1, e2]
    clear e1 e2
    try (have d1 : inB wh 0 9999 = true := decide_eq_true ⟨h1, h2⟩)
    try (have d1 : inB wh 0 9999 = false := decide_eq_false (by omega))
    try (have d2 : inB qu 0 3 = false := decide_eq_false (by omega))
    go_enter Tryd.func17, Tryd.ntmps17
    go_wp2_with (first | (go_at_call 39; refine (l1In_c _ _ _ _).mono ?_; rintro e w' ⟨rfl, rfl⟩))
    refine bodyPost_ret ?_ rfl ⟨rfl, rfl⟩
    simp [results, Tryd.results17, go_sem]
set_option maxHeartbeats 1000000 in
theorem implRateBits (m : Bool) (wh qu : Int) (w : World) :
    Calls Tryd.prog 12 #[.bool m, .int .i64 wh, .int .i64 qu] w fun e w' => e = .returned (.agg #[.int .i64 (rbC wh qu), .int .i64 (rbV m wh qu)]) ∧ w' = w.alloc (.cells #[.int .i64 (rbC wh qu), .int .i64 (rbV m wh qu)] 26) := by
  rcases rb_cases m wh qu with ⟨h1, e1, e2⟩ | ⟨h1, h2, e1, e2⟩ | ⟨h1, h2, h3, e1, e2⟩ | ⟨h1, h2, h3, h4, e1, e2⟩ | ⟨h1, h2, h3, h4, e1, e2⟩
  case inr.inr.inr.inr =>
    rw [e1, e2]
    clear e1 e2
    have d1 : decide (wh < 0) = false := decide_eq_false (by omega)
    have d2 : decide (9999 < wh) = false := decide_eq_false (by omega)
    have d3 : decide (qu < 0) = false := decide_eq_false (by omega)
    have d4 : decide (3 < qu) = false := decide_eq_false (by omega)
    obtain ⟨N, hN⟩ : ∃ N : Nat, 4 * wh + qu = (N : Int) := ⟨(4 * wh + qu).toNat, by omega⟩
    have hN2 : N ≤ 39999 := by omega
    have hl := Rts.lb_lt (q := N) (by omega)
    have hN3 : (4 * wh + qu).toNat = N := by omega
    rw [hN3]
    clear hN3
    have hcv := fun w => run_convert_int_float (P := Tryd.prog) w 2 49 .i64 .f64 (N : Int) (by kernel_rfl) (by kernel_rfl)
    have hfi : floatOfInt .f64 (N : Int) = Ieee.double.nearest false N 0 := by
      show Ieee.double.write (.number (decide ((N : Int) < 0)) (N : Int).natAbs 0) = _
      rw [decide_eq_false (by omega)]
      rfl
    obtain ⟨F, hF⟩ : ∃ F : Nat, Ieee.double.nearest false N 0 = F := ⟨_, rfl⟩
    have hdiv : floatBits .quo .f64 F 4616189618054758400 = some (Rts.lb N) := by rw [← hF]; exact Rts.lb_div (by omega)
    have hdv := fun w => run_float_arith (P := Tryd.prog) w .quo 49 .f64 F 4616189618054758400 _ hdiv
    rw [hfi, hF] at hcv
    clear hfi hF hdiv
    go_enter Tryd.func12, Tryd.ntmps12
    go_wp2_with (first | (go_at_call 24; refine (signedBits_c _ _ _ (by omega)).mono ?_; rintro e w' ⟨rfl, rfl⟩))
    refine bodyPost_ret ?_ rfl ⟨rfl, rfl⟩
    simp [results, Tryd.results12, go_sem]
  all_goals
    rw [e1, e2]
    clear e1 e2
    try (have d1 : decide (wh < 0) = false := decide_eq_false (by omega))
    try (have d2 : decide (9999 < wh) = false := decide_eq_false (by omega))
    try (have d3 : decide (qu < 0) = false := decide_eq_false (by omega))
    go_enter Tryd.func12, Tryd.ntmps12
    go_wp2
    refine bodyPost_ret ?_ rfl ⟨rfl, rfl⟩
    simp [results, Tryd.results12, go_sem]
end Go.Proofs.YtpcjgpgjjdlfdaaDoor
