/- Contracts of ScaleBy and of its model: both answer what one plain function says. Condition: the arguments are int64 numbers. -/
import Derived.Below
import Derived.Test.YtpcjgpgjjdlfdaaRateBits
namespace Go.Proofs.Ytpcjgpgjjdlfdaa
open Go.ChangeShapes Go.WideShapes Go.ChangeAt Go.RowKit
set_option linter.unusedVariables false

def sbC (b v : Int) : Int :=
  if v < 0 ∨ 1000000 < v then 3 else if 9218868437227405312 < sz b then 4 else if sz b ≠ 0 ∧ b < 0 then 10 else if sz b = 9218868437227405312 then 7 else if Rts.qt (sz b) < 0 then 3 else 0
def sbV (b v : Int) : Int := if sbC b v = 0 then min (Rts.qt (sz b) * v / 4) 1000000 else 0
theorem sb_cases (b v : Int) :
    (v < 0 ∧ sbC b v = 3 ∧ sbV b v = 0) ∨ (0 ≤ v ∧ 1000000 < v ∧ sbC b v = 3 ∧ sbV b v = 0) ∨
    (0 ≤ v ∧ v ≤ 1000000 ∧ 9218868437227405312 < sz b ∧ sbC b v = 4 ∧ sbV b v = 0) ∨
    (0 ≤ v ∧ v ≤ 1000000 ∧ sz b ≤ 9218868437227405312 ∧ 0 < sz b ∧ b < 0 ∧ sbC b v = 10 ∧ sbV b v = 0) ∨
    (0 ≤ v ∧ v ≤ 1000000 ∧ sz b = 9218868437227405312 ∧ 0 ≤ b ∧ sbC b v = 7 ∧ sbV b v = 0) ∨
    (0 ≤ v ∧ v ≤ 1000000 ∧ 0 < sz b ∧ sz b < 9218868437227405312 ∧ 0 ≤ b ∧ Rts.qt (sz b) < 0 ∧ sbC b v = 3 ∧ sbV b v = 0) ∨
    (0 ≤ v ∧ v ≤ 1000000 ∧ sz b < 9218868437227405312 ∧ (sz b = 0 ∨ 0 ≤ b) ∧ 0 ≤ Rts.qt (sz b) ∧ sbC b v = 0 ∧ sbV b v = min (Rts.qt (sz b) * v / 4) 1000000) := by
  have s1 := sz_bd b
  unfold sbV
  by_cases h1 : v < 0
  · have c : sbC b v = 3 := by unfold sbC; rw [if_pos (by omega)]
    exact .inl ⟨h1, c, by rw [c]; rfl⟩
  by_cases h2 : 1000000 < v
  · have c : sbC b v = 3 := by unfold sbC; rw [if_pos (by omega)]
    exact .inr (.inl ⟨by omega, h2, c, by rw [c]; rfl⟩)
  by_cases h3 : 9218868437227405312 < sz b
  · have c : sbC b v = 4 := by unfold sbC; rw [if_neg (by omega), if_pos h3]
    exact .inr (.inr (.inl ⟨by omega, by omega, h3, c, by rw [c]; rfl⟩))
  by_cases h4 : sz b ≠ 0 ∧ b < 0
  · have c : sbC b v = 10 := by unfold sbC; rw [if_neg (by omega), if_neg h3, if_pos h4]
    exact .inr (.inr (.inr (.inl ⟨by omega, by omega, by omega, by omega, by omega, c, by rw [c]; rfl⟩)))
  by_cases h5 : sz b = 9218868437227405312
  · have c : sbC b v = 7 := by unfold sbC; rw [if_neg (by omega), if_neg h3, if_neg h4, if_pos h5]
    exact .inr (.inr (.inr (.inr (.inl ⟨by omega, by omega, h5, by omega, c, by rw [c]; rfl⟩))))
  have hq0 : sz b = 0 → Rts.qt (sz b) = 0 := fun h => by rw [h]; rfl
  by_cases h6 : Rts.qt (sz b) < 0
  · have c : sbC b v = 3 := by unfold sbC; rw [if_neg (by omega), if_neg h3, if_neg h4, if_neg h5, if_pos h6]
    have hne : sz b ≠ 0 := fun h => by have := hq0 h; omega
    exact .inr (.inr (.inr (.inr (.inr (.inl ⟨by omega, by omega, by omega, by omega, by omega, h6, c, by rw [c]; rfl⟩)))))
  · have c : sbC b v = 0 := by unfold sbC; rw [if_neg (by omega), if_neg h3, if_neg h4, if_neg h5, if_neg h6]
    exact .inr (.inr (.inr (.inr (.inr (.inr ⟨by omega, by omega, by omega, by omega, by omega, c, by rw [if_pos c]⟩)))))

theorem prod_bd {q v : Int} (h1 : 0 ≤ q) (h2 : q ≤ 39999) (h3 : 0 ≤ v) (h4 : v ≤ 1000000) : 0 ≤ q * v ∧ q * v ≤ 39999000000 := by
  refine ⟨Int.mul_nonneg h1 h3, ?_⟩
  have := Int.mul_le_mul h2 h4 h3 (by omega : (0 : Int) ≤ 39999)
  omega

theorem ap_zero {x : Int} (h0 : 0 ≤ x) (h1 : x ≤ 1000000) : Nums.apC 0 x = 0 ∧ Nums.apV 0 x = x := by
  have c : Nums.apC 0 x = 0 := by unfold Nums.apC; rw [if_neg (by omega), if_neg (by omega), if_neg (by omega)]
  exact ⟨c, by unfold Nums.apV; rw [if_pos c]; omega⟩
theorem specAddPurse_zero (x : Int) (h0 : 0 ≤ x) (h1 : x ≤ 1000000) (w : World) :
    Calls Try.prog 35 #[.int .i64 0, .int .i64 x] w fun e w' => e = .returned (.agg #[.int .i64 0, .int .i64 x]) ∧ w' = w.alloc (.cells #[.int .i64 0, .int .i64 x] 27) := by
  have h := specAddPurse 0 x w
  rw [(ap_zero h0 h1).1, (ap_zero h0 h1).2] at h
  exact h
set_option maxHeartbeats 2000000 in
theorem specScaleBy (b v : Int) (w : World) :
    Calls Try.prog 13 #[.int .i64 b, .int .i64 v] w fun e w' => e = .returned (.agg #[.int .i64 (sbC b v), .int .i64 (sbV b v)]) ∧ Below w.heap.size w w' := by
  have s1 := sz_bd b
  have q1 := Rts.qt_bd (sz b)
  rcases sb_cases b v with ⟨h1, e1, e2⟩ | ⟨h1, h2, e1, e2⟩ | ⟨h1, h2, h3, e1, e2⟩ | ⟨h1, h2, h3, h4, h5, e1, e2⟩ | ⟨h1, h2, h3, h4, e1, e2⟩ | ⟨h1, h2, h3, h4, h5, h6, e1, e2⟩ | ⟨h1, h2, h3, h4, h5, e1, e2⟩
  case inr.inr.inr.inr.inr.inr =>
    obtain ⟨p1, p2⟩ := prod_bd h5 q1.2 h1 h2
    have g : ∃ x : Int, min (Rts.qt (sz b) * v / 4) 1000000 = x ∧ 0 ≤ x ∧ x ≤ 1000000 ∧ ((1000000 < Rts.qt (sz b) * v / 4 ∧ x = 1000000) ∨ (Rts.qt (sz b) * v / 4 ≤ 1000000 ∧ x = Rts.qt (sz b) * v / 4)) := ⟨_, rfl, by omega, by omega, by omega⟩
    obtain ⟨x, gx, x0, x1, g⟩ := g
    rw [e1, e2, gx]
    clear e1 e2 gx
    have dv : inB v 0 1000000 = true := decide_eq_true ⟨h1, h2⟩
    have d1 : decide (9218868437227405312 < sz b) = false := decide_eq_false (by omega)
    have d2 : (sz b == 9218868437227405312) = false := by simp; omega
    have d3 : decide (Rts.qt (sz b) < 0) = false := decide_eq_false (by omega)
    have hs : ((sz b != 0) = false) ∨ ((sz b != 0) = true ∧ decide (b < 0) = false) := by
      rcases h4 with h | h
      · exact .inl (by simpa using h)
      · by_cases hz : sz b = 0
        · exact .inl (by simpa using hz)
        · exact .inr ⟨by simpa using hz, decide_eq_false (by omega)⟩
    clear h4
    rcases hs with f1 | ⟨f1, f2⟩ <;> rcases g with ⟨g1, rfl⟩ | ⟨g1, rfl⟩
    all_goals
      try (have g2 : decide (1000000 < Rts.qt (sz b) * v / 4) = false := decide_eq_false (by omega))
      go_enter Try.func13, Try.ntmps13
      go_wp2_with (first | (go_at_call 43; refine (l1In_c _ _ _ _).mono ?_; rintro e w' ⟨rfl, rfl⟩) | (go_at_call 33; refine (l2Size_c _ _).mono ?_; rintro e w' ⟨rfl, rfl⟩) | (go_at_call 34; refine (l2Quarters_c _ _ s1.1 s1.2).mono ?_; rintro e w' ⟨rfl, rfl⟩) | (go_at_call 35; refine (specAddPurse_zero _ (by omega) (by omega) _).mono ?_; rintro e w' ⟨rfl, rfl⟩) | go_in)
      refine bodyPost_ret ?_ rfl ⟨rfl, ?_⟩
      · simp [results, Try.results13, go_sem]
        done
      · exact ((Below.refl _ _).alloc (Nat.le_refl _) _).alloc (by simp) _
  all_goals
    rw [e1, e2]
    clear e1 e2
    try (have dv : inB v 0 1000000 = true := decide_eq_true ⟨h1, h2⟩)
    try (have dv : inB v 0 1000000 = false := decide_eq_false (by omega))
    try (have d0 : decide (sz b < 9218868437227405312) = false := decide_eq_false (by omega))
    try (have d1 : decide (9218868437227405312 < sz b) = false := decide_eq_false (by omega))
    try (have d2 : (sz b == 9218868437227405312) = false := (by simp; omega))
    try (have d3 : (sz b == 9218868437227405312) = true := (by simpa using h3))
    try (have d4 : (sz b != 0) = true := (by simp; omega))
    try (have d5 : decide (b < 0) = false := decide_eq_false (by omega))
    try (have h3' : Hid (sz b = 9218868437227405312) := h3; clear h3)
    try (have h3' : sz b < 9218868437227405312 := by omega)
    go_enter Try.func13, Try.ntmps13
    go_wp2_with (first | (go_at_call 43; refine (l1In_c _ _ _ _).mono ?_; rintro e w' ⟨rfl, rfl⟩) | (go_at_call 33; refine (l2Size_c _ _).mono ?_; rintro e w' ⟨rfl, rfl⟩) | (go_at_call 34; refine (l2Quarters_c _ _ s1.1 s1.2).mono ?_; rintro e w' ⟨rfl, rfl⟩) | go_in)
    all_goals
      refine bodyPost_ret ?_ rfl ⟨rfl, ?_⟩
      · simp [results, Try.results13, go_sem]
        done
      · exact (Below.refl _ _).alloc (Nat.le_refl _) _
set_option maxHeartbeats 2000000 in
theorem implScaleBy (b v : Int) (hb1 : -9223372036854775808 ≤ b) (hb2 : b < 9223372036854775808) (w : World) :
    Calls Try.prog 11 #[.int .i64 b, .int .i64 v] w fun e w' => e = .returned (.agg #[.int .i64 (sbC b v), .int .i64 (sbV b v)]) ∧ Below w.heap.size w w' := by
  have s1 := sz_bd b
  have q1 := Rts.qt_bd (sz b)
  have u1 := uw_lt b
  have u2 := uw_sz b
  rcases sb_cases b v with ⟨h1, e1, e2⟩ | ⟨h1, h2, e1, e2⟩ | ⟨h1, h2, h3, e1, e2⟩ | ⟨h1, h2, h3, h4, h5, e1, e2⟩ | ⟨h1, h2, h3, h4, e1, e2⟩ | ⟨h1, h2, h3, h4, h5, h6, e1, e2⟩ | ⟨h1, h2, h3, h4, h5, e1, e2⟩
  case inr.inr.inr.inr.inr.inr =>
    obtain ⟨p1, p2⟩ := prod_bd h5 q1.2 h1 h2
    have g : ∃ x : Int, min (Rts.qt (sz b) * v / 4) 1000000 = x ∧ ((1000000 < Rts.qt (sz b) * v / 4 ∧ x = 1000000) ∨ (Rts.qt (sz b) * v / 4 ≤ 1000000 ∧ x = Rts.qt (sz b) * v / 4)) := ⟨_, rfl, by omega⟩
    obtain ⟨x, gx, g⟩ := g
    rw [e1, e2, gx]
    clear e1 e2 gx
    have o1 := order0 hb1 hb2 (by omega)
    have f1 : decide (9218868437227405312 < uw b % 9223372036854775808) = false := decide_eq_false (by omega)
    have f2 : (FloatKind.f64.format.order (uw b) 0 == some Ordering.lt) = false := by
      rw [o1]
      by_cases hz : sz b = 0
      · rw [if_pos hz]; rfl
      · rw [if_neg hz, if_neg (by omega)]; rfl
    have hle : uw b ≤ 9223372036854775808 := by have := uw_neg hb1 hb2; rw [decide_eq_decide] at this; omega
    have f3 : decide (uw b = 9218868437227405312) = false := decide_eq_false (by omega)
    clear o1 u2 h4
    rcases g with ⟨g1, rfl⟩ | ⟨g1, rfl⟩
    all_goals
     go_enter Try.func11, Try.ntmps11
     go_wp2_with (first | (go_at_call 27; refine (floatOf_u b _).mono ?_; rintro e w' ⟨rfl, rfl⟩) | (go_at_call 28; refine (isNaN_c (uw b) _ u1).mono ?_; rintro e w' ⟨rfl, rfl⟩) | (go_at_call 29; refine (isInf1_c (uw b) _ hle).mono ?_; rintro e w' ⟨rfl, rfl⟩) | (go_at_call 30; refine (quartersOf_yes b _ (by omega) (by omega)).mono ?_; rintro e w' ⟨rfl, rfl⟩) | go_in)
     refine bodyPost_ret ?_ rfl ⟨rfl, ?_⟩
     · simp [results, Try.results11, go_sem]
       done
     · exact (Below.refl _ _).alloc (Nat.le_refl _) _
  case inr.inr.inr.inr.inl =>
    rw [e1, e2]
    clear e1 e2
    have o1 := order0 hb1 hb2 (by omega)
    have f1 : decide (9218868437227405312 < uw b % 9223372036854775808) = false := decide_eq_false (by omega)
    have f2 : (FloatKind.f64.format.order (uw b) 0 == some Ordering.lt) = false := by rw [o1, if_neg (by omega), if_neg (by omega)]; rfl
    have hle : uw b ≤ 9223372036854775808 := by have := uw_neg hb1 hb2; rw [decide_eq_decide] at this; omega
    have f3 : decide (uw b = 9218868437227405312) = true := decide_eq_true (by have := uw_neg hb1 hb2; rw [decide_eq_decide] at this; omega)
    have hq : 0 ≤ v ∧ v ≤ 1000000 := ⟨h1, h2⟩
    clear o1 u2 h3
    go_enter Try.func11, Try.ntmps11
    go_wp2_with (first | (go_at_call 27; refine (floatOf_u b _).mono ?_; rintro e w' ⟨rfl, rfl⟩) | (go_at_call 28; refine (isNaN_c (uw b) _ u1).mono ?_; rintro e w' ⟨rfl, rfl⟩) | (go_at_call 29; refine (isInf1_c (uw b) _ hle).mono ?_; rintro e w' ⟨rfl, rfl⟩) | go_in)
    refine bodyPost_ret ?_ rfl ⟨rfl, ?_⟩
    · simp [results, Try.results11, go_sem]
      done
    · exact (Below.refl _ _).alloc (Nat.le_refl _) _
  case inr.inr.inr.inr.inr.inl =>
    rw [e1, e2]
    clear e1 e2
    have o1 := order0 hb1 hb2 (by omega)
    have f1 : decide (9218868437227405312 < uw b % 9223372036854775808) = false := decide_eq_false (by omega)
    have f2 : (FloatKind.f64.format.order (uw b) 0 == some Ordering.lt) = false := by rw [o1, if_neg (by omega), if_neg (by omega)]; rfl
    have hle : uw b ≤ 9223372036854775808 := by have := uw_neg hb1 hb2; rw [decide_eq_decide] at this; omega
    have f3 : decide (uw b = 9218868437227405312) = false := decide_eq_false (by omega)
    clear o1 u2
    go_enter Try.func11, Try.ntmps11
    go_wp2_with (first | (go_at_call 27; refine (floatOf_u b _).mono ?_; rintro e w' ⟨rfl, rfl⟩) | (go_at_call 28; refine (isNaN_c (uw b) _ u1).mono ?_; rintro e w' ⟨rfl, rfl⟩) | (go_at_call 29; refine (isInf1_c (uw b) _ hle).mono ?_; rintro e w' ⟨rfl, rfl⟩) | (go_at_call 30; refine (quartersOf_no b _ (by omega) (by omega)).mono ?_; rintro e w' ⟨rfl, rfl⟩) | go_in)
    refine bodyPost_ret ?_ rfl ⟨rfl, ?_⟩
    · simp [results, Try.results11, go_sem]
      done
    · exact (Below.refl _ _).alloc (Nat.le_refl _) _
  case inr.inr.inr.inl =>
    rw [e1, e2]
    clear e1 e2
    have o1 := order0 hb1 hb2 (by omega)
    have f1 : decide (9218868437227405312 < uw b % 9223372036854775808) = false := decide_eq_false (by omega)
    have f2 : (FloatKind.f64.format.order (uw b) 0 == some Ordering.lt) = true := by rw [o1, if_neg (by omega), if_pos (by omega)]; rfl
    clear o1 u2
    go_enter Try.func11, Try.ntmps11
    go_wp2_with (first | (go_at_call 27; refine (floatOf_u b _).mono ?_; rintro e w' ⟨rfl, rfl⟩) | (go_at_call 28; refine (isNaN_c (uw b) _ u1).mono ?_; rintro e w' ⟨rfl, rfl⟩) | go_in)
    refine bodyPost_ret ?_ rfl ⟨rfl, ?_⟩
    · simp [results, Try.results11, go_sem]
      done
    · exact (Below.refl _ _).alloc (Nat.le_refl _) _
  all_goals
    rw [e1, e2]
    clear e1 e2
    try (have f1 : decide (9218868437227405312 < uw b % 9223372036854775808) = true := decide_eq_true (by omega))
    try (have f2 : decide (0 ≤ v) = false := decide_eq_false (by omega))
    try (have f3 : decide (v < 0) = false := decide_eq_false (by omega))
    try (have f4 : decide (1000000 < v) = false := decide_eq_false (by omega))
    try (have f5 : decide (v ≤ 1000000) = false := decide_eq_false (by omega))
    clear u2
    go_enter Try.func11, Try.ntmps11
    go_wp2_with (first | (go_at_call 27; refine (floatOf_u b _).mono ?_; rintro e w' ⟨rfl, rfl⟩) | (go_at_call 28; refine (isNaN_c (uw b) _ u1).mono ?_; rintro e w' ⟨rfl, rfl⟩) | go_in)
    refine bodyPost_ret ?_ rfl ⟨rfl, ?_⟩
    · simp [results, Try.results11, go_sem]
      done
    · exact (Below.refl _ _).alloc (Nat.le_refl _) _
end Go.Proofs.Ytpcjgpgjjdlfdaa
