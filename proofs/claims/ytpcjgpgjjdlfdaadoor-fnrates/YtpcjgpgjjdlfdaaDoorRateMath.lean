/- Plain arithmetic of chapter 2 (rates): how many quarters the bits of a number are, by the bits and by the floating-point way; the bits of so many quarters. No condition beside those that each theorem names. -/
import Derived.Laws.FloatArith
import Derived.Test.YtpcjgpgjjdlfdaaDoorFloats
namespace Go.Proofs.YtpcjgpgjjdlfdaaDoor.Rts
open Ieee Go.Proofs.YtpcjgpgjjdlfdaaDoor.Flt

/-- How many quarters bits without a sign are; -1: they are no such number. -/
def qt (n : Int) : Int :=
  if n = 0 then 0
  else if n / 4503599627370496 - 1021 < 0 ∨ 16 < n / 4503599627370496 - 1021 then -1
  else if (4503599627370496 + n % 4503599627370496) % (4503599627370496 / 2 ^ (n / 4503599627370496 - 1021).toNat) = 0 ∧ (4503599627370496 + n % 4503599627370496) / (4503599627370496 / 2 ^ (n / 4503599627370496 - 1021).toNat) ≤ 39999 then (4503599627370496 + n % 4503599627370496) / (4503599627370496 / 2 ^ (n / 4503599627370496 - 1021).toNat)
  else -1

theorem unit_eq (e : Nat) (h : e ≤ 16) : (4503599627370496 : Int) / 2 ^ e = ((2 ^ (52 - e) : Nat) : Int) := by
  have : e = 0 ∨ e = 1 ∨ e = 2 ∨ e = 3 ∨ e = 4 ∨ e = 5 ∨ e = 6 ∨ e = 7 ∨ e = 8 ∨ e = 9 ∨ e = 10 ∨ e = 11 ∨ e = 12 ∨ e = 13 ∨ e = 14 ∨ e = 15 ∨ e = 16 := by omega
  rcases this with rfl | rfl | rfl | rfl | rfl | rfl | rfl | rfl | rfl | rfl | rfl | rfl | rfl | rfl | rfl | rfl | rfl <;> decide

theorem qt_out {n : Int} (h0 : n ≠ 0) (h : n / 4503599627370496 - 1021 < 0 ∨ 16 < n / 4503599627370496 - 1021) : qt n = -1 := by
  unfold qt; rw [if_neg h0, if_pos h]

/-- The same, told of a natural number: m and 2 ^ d. -/
theorem qt_in {r : Nat} (h1 : 1021 ≤ r / 4503599627370496) (h2 : r / 4503599627370496 ≤ 1037) :
    qt (r : Int) = if mg r % 2 ^ (1073 - r / 4503599627370496) = 0 ∧ mg r / 2 ^ (1073 - r / 4503599627370496) ≤ 39999 then ((mg r / 2 ^ (1073 - r / 4503599627370496) : Nat) : Int) else -1 := by
  have hm : mg r = 4503599627370496 + r % 4503599627370496 := by unfold mg; rw [if_neg (by omega)]
  have hi : (4503599627370496 : Int) + (r : Int) % 4503599627370496 = ((mg r : Nat) : Int) := by rw [hm]; omega
  have he : ((r : Int) / 4503599627370496 - 1021).toNat = r / 4503599627370496 - 1021 := by omega
  have hu := unit_eq (r / 4503599627370496 - 1021) (by omega)
  have hd : 52 - (r / 4503599627370496 - 1021) = 1073 - r / 4503599627370496 := by omega
  unfold qt
  rw [if_neg (by omega), if_neg (by omega), hi, he, hu, hd]
  generalize 2 ^ (1073 - r / 4503599627370496) = u
  generalize mg r = m
  by_cases c : m % u = 0 ∧ m / u ≤ 39999
  · rw [if_pos c, if_pos ⟨by omega, by have := c.2; omega⟩]; omega
  · rw [if_neg c, if_neg (by intro k; apply c; omega)]

theorem qt_bd (n : Int) : -1 ≤ qt n ∧ qt n ≤ 39999 := by
  by_cases h0 : n = 0
  · unfold qt; rw [if_pos h0]; decide
  by_cases h : n / 4503599627370496 - 1021 < 0 ∨ 16 < n / 4503599627370496 - 1021
  · rw [qt_out h0 h]; decide
  obtain ⟨r, rfl⟩ : ∃ r : Nat, n = (r : Int) := ⟨n.toNat, by omega⟩
  rw [qt_in (by omega) (by omega)]
  split
  · rename_i c
    have c2 := c.2
    clear c
    generalize mg r / 2 ^ (1073 - r / 4503599627370496) = k at c2 ⊢
    omega
  · omega

theorem toInt_pos {x : Nat} (h0 : 0 < x) (h1 : x < 4841369599423283200) : floatToIntVal .f64 x .i64 = some ((mg x / 2 ^ (1074 - ex x) : Nat) : Int) := by
  have hi := integral_pos h0 h1
  have hb : mg x / 2 ^ (1074 - ex x) < 9007199254740992 := Nat.lt_of_le_of_lt (Nat.div_le_self _ _) (mg_lt x)
  have ht : Datum.toInt .zero (FloatKind.f64.decode x) = some ((mg x / 2 ^ (1074 - ex x) : Nat) : Int) := by
    unfold Datum.toInt
    show (match Datum.integral .zero (double.read x) with | .number s m _ => some (signed s m 0) | _ => none) = _
    rw [hi]
    simp [signed]
  unfold floatToIntVal
  rw [ht]
  have e1 : IntKind.min .i64 = -9223372036854775808 := by decide
  have e2 : IntKind.max .i64 = 9223372036854775807 := by decide
  simp only [e1, e2]
  clear ht hi
  generalize mg x / 2 ^ (1074 - ex x) = k at hb ⊢
  rw [if_pos (by omega)]

theorem toInt_zero : floatToIntVal .f64 0 .i64 = some 0 := by decide

/-- Four times a number, held against the greatest and against itself cut: what the floating-point way finds. -/
theorem quarters_fact {r : Nat} (hr : r ≤ 9218868437227405312) : ∃ X, double.mul 4616189618054758400 r = some X ∧ X ≤ 9218868437227405312 ∧
    ((0 ≤ qt (r : Int) ∧ (double.order X 4675730234283130880 = some .lt ∨ double.order X 4675730234283130880 = some .eq) ∧ double.order X (tr X) = some .eq ∧ floatToIntVal .f64 X .i64 = some (qt (r : Int))) ∨
     (qt (r : Int) = -1 ∧ (double.order X 4675730234283130880 = some .gt ∨ ((double.order X 4675730234283130880 = some .lt ∨ double.order X 4675730234283130880 = some .eq) ∧ double.order X (tr X) = some .gt)))) := by
  by_cases h0 : r = 0
  · subst h0
    refine ⟨0, mul_zero, by omega, .inl ⟨by decide, .inl (by decide), by decide, toInt_zero⟩⟩
  by_cases ht : r < 4503599627370496
  · obtain ⟨x, e, x0, x1⟩ := mul_tiny ht (by omega)
    refine ⟨x, e, by omega, .inr ⟨qt_out (by omega) (by omega), .inr ⟨.inl (order_lt (by omega) (by omega)).1, ?_⟩⟩⟩
    rw [tr_small x0 (by omega)]
    exact (order_lt x0 (by omega)).2
  by_cases hi : r = 9218868437227405312
  · subst hi
    exact ⟨_, mul_inf, by omega, .inr ⟨by decide, .inl (by decide)⟩⟩
  have e := mul_norm (r := r) (by omega) (by omega)
  obtain ⟨X, hX⟩ : ∃ X, min (r + 9007199254740992) 9218868437227405312 = X := ⟨_, rfl⟩
  rw [hX] at e
  by_cases hbig : 4675730234283130880 < X
  · refine ⟨X, e, by omega, .inr ⟨?_, .inl (order_lt hbig (by omega)).2⟩⟩
    by_cases hE : 1037 < r / 4503599627370496
    · exact qt_out (by omega) (by omega)
    · rw [qt_in (by omega) (by omega)]
      have hm : mg r = 4503599627370496 + r % 4503599627370496 := by unfold mg; rw [if_neg (by omega)]
      have hE2 : r / 4503599627370496 = 1036 ∨ r / 4503599627370496 = 1037 := by omega
      rw [if_neg]
      rintro ⟨k1, k2⟩
      rcases hE2 with q | q <;> rw [q] at k1 k2
      · have : mg r / 137438953472 ≤ 39999 := k2
        have : mg r % 137438953472 = 0 := k1
        omega
      · have : mg r / 68719476736 ≤ 39999 := k2
        omega
  · have hXr : X = r + 9007199254740992 := by omega
    have hle : double.order X 4675730234283130880 = some .lt ∨ double.order X 4675730234283130880 = some .eq := by
      by_cases q : X = 4675730234283130880
      · subst q; exact .inr (order_self (by omega) (by omega))
      · exact .inl (order_lt (by omega) (by omega)).1
    by_cases hs : X < 4607182418800017408
    · refine ⟨X, e, by omega, .inr ⟨qt_out (by omega) (by omega), .inr ⟨hle, ?_⟩⟩⟩
      rw [tr_small (by omega) hs]
      exact (order_lt (by omega) (by omega)).2
    · have hmX : mg X = mg r := by unfold mg; rw [if_neg (by omega), if_neg (by omega)]; omega
      have heX : 1074 - ex X = 1073 - r / 4503599627370496 := by unfold ex; omega
      have htr := tr_big (x := X) (by omega) (by omega)
      have hti := toInt_pos (x := X) (by omega) (by omega)
      rw [hmX, heX] at htr hti
      have hq := qt_in (r := r) (by omega) (by omega)
      have hm : mg r = 4503599627370496 + r % 4503599627370496 := by unfold mg; rw [if_neg (by omega)]
      have hd1 : 37 ≤ 1073 - r / 4503599627370496 := by omega
      have hp := Nat.two_pow_pos (1073 - r / 4503599627370496)
      by_cases hz : mg r % 2 ^ (1073 - r / 4503599627370496) = 0
      · have hk : mg r / 2 ^ (1073 - r / 4503599627370496) ≤ 39999 := by
          by_cases q : r / 4503599627370496 = 1036
          · rw [q] at hz ⊢
            have hz' : mg r % 137438953472 = 0 := hz
            show mg r / 137438953472 ≤ 39999
            omega
          · have h38 : 2 ^ 38 ≤ 2 ^ (1073 - r / 4503599627370496) := Nat.pow_le_pow_right (by omega) (by omega)
            have h1 : mg r / 2 ^ (1073 - r / 4503599627370496) ≤ mg r / 2 ^ 38 := Nat.div_le_div_left h38 (by omega)
            have h2 := mg_lt r
            omega
        rw [if_pos ⟨hz, hk⟩] at hq
        rw [hq]
        refine ⟨X, e, by omega, .inl ⟨Int.natCast_nonneg _, hle, ?_, hti⟩⟩
        have : tr X = X := by omega
        rw [this]
        exact order_self (by omega) (by omega)
      · rw [if_neg (by intro k; exact hz k.1)] at hq
        rw [hq]
        exact ⟨X, e, by omega, .inr ⟨rfl, .inr ⟨hle, (order_lt (by omega) (by omega)).2⟩⟩⟩

end Go.Proofs.YtpcjgpgjjdlfdaaDoor.Rts
