/- Plain arithmetic of binary64 numbers: their order, four times a number, cut to a whole number. No condition beside those that each theorem names. -/
import Ieee.Arith
namespace Go.Proofs.YtpcjgpgjjdlfdaaDoor.Flt
open Ieee

theorem d_binade : double.binade = 4503599627370496 := by decide
theorem d_inf : double.infRung = 9218868437227405312 := by decide
theorem d_sign : double.signWeight = 9223372036854775808 := by decide
theorem d_least : double.leastPlace = -1074 := by decide

def mg (r : Nat) : Nat := if r < 4503599627370496 then r else 4503599627370496 + r % 4503599627370496
def ex (r : Nat) : Nat := r / 4503599627370496 - 1

theorem read_num {u : Nat} (hu : u < 18446744073709551616) (hr : u % 9223372036854775808 < 9218868437227405312) :
    double.read u = .number (decide (9223372036854775808 ≤ u)) (mg (u % 9223372036854775808)) (-1074 + (ex (u % 9223372036854775808) : Int)) := by
  have hn : (u / 9223372036854775808 % 2 == 1) = decide (9223372036854775808 ≤ u) := by
    rw [Bool.eq_iff_iff]; simp; omega
  unfold Format.read mg ex
  simp only [d_binade, d_inf, d_sign, d_least, hn]
  split
  · rename_i h
    have : u % 9223372036854775808 / 4503599627370496 - 1 = 0 := by omega
    simp [this]
  · rfl

theorem read_inf {u : Nat} (hu : u < 18446744073709551616) (hr : u % 9223372036854775808 = 9218868437227405312) :
    double.read u = .infinity (decide (9223372036854775808 ≤ u)) := by
  have hn : (u / 9223372036854775808 % 2 == 1) = decide (9223372036854775808 ≤ u) := by
    rw [Bool.eq_iff_iff]; simp; omega
  unfold Format.read
  simp only [d_binade, d_inf, d_sign, d_least, hn, hr]
  simp

theorem read_nan {u : Nat} (hr : 9218868437227405312 < u % 9223372036854775808) :
    ∃ s t, double.read u = .nan s t := by
  refine ⟨u / 9223372036854775808 % 2 == 1, u % 9223372036854775808 - 9218868437227405312, ?_⟩
  unfold Format.read
  simp only [d_binade, d_inf, d_sign, d_least]
  split
  · omega
  · split
    · omega
    · split
      · omega
      · rfl

theorem order_nan {u v : Nat} (hr : 9218868437227405312 < u % 9223372036854775808) : double.order u v = none := by
  obtain ⟨s, t, e⟩ := read_nan hr
  unfold Format.order
  rw [e]
  unfold Datum.order
  rfl

theorem mg_lt (r : Nat) : mg r < 9007199254740992 := by unfold mg; split <;> omega

theorem mono {r s : Nat} (h : r < s) (_hs : s < 9218868437227405312) : mg r < mg s * 2 ^ (ex s - ex r) ∧ ex r ≤ ex s := by
  have e1 : ex r ≤ ex s := by unfold ex; omega
  refine ⟨?_, e1⟩
  by_cases e : ex r = ex s
  · rw [e, Nat.sub_self, Nat.pow_zero, Nat.mul_one]
    unfold ex at e; unfold mg
    split <;> split <;> omega
  · obtain ⟨k, hk⟩ : ∃ k, ex s - ex r = k + 1 := ⟨ex s - ex r - 1, by omega⟩
    have hm : 4503599627370496 ≤ mg s := by unfold mg; unfold ex at e e1; rw [if_neg (by omega)]; omega
    have hp : 1 ≤ 2 ^ k := Nat.one_le_two_pow
    rw [hk, Nat.pow_succ]
    have : 4503599627370496 * (1 * 2) ≤ mg s * (2 ^ k * 2) := Nat.mul_le_mul hm (Nat.mul_le_mul_right 2 hp)
    have := mg_lt r
    omega

theorem order_lt {r s : Nat} (h : r < s) (hs : s ≤ 9218868437227405312) : double.order r s = some .lt ∧ double.order s r = some .gt := by
  have m1 : r % 9223372036854775808 = r := by omega
  have m2 : s % 9223372036854775808 = s := by omega
  have hr : double.read r = .number false (mg r) (-1074 + (ex r : Int)) := by
    rw [read_num (by omega) (by omega), m1, decide_eq_false (by omega)]
  by_cases hi : s = 9218868437227405312
  · have hsr : double.read s = .infinity false := by rw [read_inf (by omega) (by omega), decide_eq_false (by omega)]
    unfold Format.order
    rw [hr, hsr]
    exact ⟨rfl, rfl⟩
  · have hsr : double.read s = .number false (mg s) (-1074 + (ex s : Int)) := by
      rw [read_num (by omega) (by omega), m2, decide_eq_false (by omega)]
    obtain ⟨k1, k2⟩ := mono h (by omega)
    have b1 : min (-1074 + (ex r : Int)) (-1074 + (ex s : Int)) = -1074 + (ex r : Int) := by omega
    have b2 : min (-1074 + (ex s : Int)) (-1074 + (ex r : Int)) = -1074 + (ex r : Int) := by omega
    have t1 : (-1074 + (ex r : Int) - (-1074 + (ex r : Int))).toNat = 0 := by omega
    have t2 : (-1074 + (ex s : Int) - (-1074 + (ex r : Int))).toNat = ex s - ex r := by omega
    unfold Format.order
    rw [hr, hsr]
    have hc : ((mg r : Nat) : Int) < ((mg s * 2 ^ (ex s - ex r) : Nat) : Int) := by exact_mod_cast k1
    constructor
    · simp only [Datum.order, b1, t1, t2, signed, Nat.shiftLeft_eq, Nat.pow_zero, Nat.mul_one]
      simp only [Bool.false_eq_true, if_false]
      rw [show compare ((mg r : Nat) : Int) ((mg s * 2 ^ (ex s - ex r) : Nat) : Int) = .lt from by
        simp only [compare, compareOfLessAndEq, hc, if_true]]
    · simp only [Datum.order, b2, t1, t2, signed, Nat.shiftLeft_eq, Nat.pow_zero, Nat.mul_one]
      simp only [Bool.false_eq_true, if_false]
      rw [show compare ((mg s * 2 ^ (ex s - ex r) : Nat) : Int) ((mg r : Nat) : Int) = .gt from by
        simp only [compare, compareOfLessAndEq]
        rw [if_neg (by omega), if_neg (by omega)]]

theorem order_self {u : Nat} (hu : u < 18446744073709551616) (hr : u % 9223372036854775808 ≤ 9218868437227405312) : double.order u u = some .eq := by
  by_cases hi : u % 9223372036854775808 = 9218868437227405312
  · unfold Format.order
    rw [read_inf hu hi]
    simp [Datum.order]
  · unfold Format.order
    rw [read_num hu (by omega)]
    simp [Datum.order, compare, compareOfLessAndEq]


theorem order_zero {u : Nat} (hu : u < 18446744073709551616) (hr : u % 9223372036854775808 ≤ 9218868437227405312) :
    double.order u 0 = some (if u % 9223372036854775808 = 0 then .eq else if 9223372036854775808 ≤ u then .lt else .gt) := by
  have hz : double.read 0 = .number false 0 (-1074) := by decide
  by_cases hi : u % 9223372036854775808 = 9218868437227405312
  · unfold Format.order
    rw [read_inf hu hi, hz, if_neg (by omega)]
    by_cases hs : 9223372036854775808 ≤ u <;> simp [Datum.order, hs]
  · unfold Format.order
    rw [read_num hu (by omega), hz]
    have hm : mg (u % 9223372036854775808) = 0 ↔ u % 9223372036854775808 = 0 := by unfold mg; split <;> omega
    generalize hg : mg (u % 9223372036854775808) = m at hm
    generalize hk : ((-1074 + (ex (u % 9223372036854775808) : Int) - min (-1074 + (ex (u % 9223372036854775808) : Int)) (-1074)).toNat) = k
    have hp : 0 < 2 ^ k := Nat.two_pow_pos k
    simp only [Datum.order, hk, signed, Nat.shiftLeft_eq, Nat.zero_mul]
    by_cases h0 : u % 9223372036854775808 = 0
    · rw [if_pos h0, hm.2 h0]
      by_cases hs : 9223372036854775808 ≤ u <;> simp [hs, compare, compareOfLessAndEq]
    · have hm0 : 0 < m := by omega
      have hmk : 0 < m * 2 ^ k := Nat.mul_pos hm0 hp
      have hmi : (0 : Int) < ((m * 2 ^ k : Nat) : Int) := by exact_mod_cast hmk
      rw [if_neg h0]
      by_cases hs : 9223372036854775808 ≤ u
      · simp only [hs, decide_true, if_true, compare, compareOfLessAndEq]
        rw [if_pos (by simp only [Bool.false_eq_true, if_false]; omega)]
      · simp only [hs, decide_false, if_false, compare, compareOfLessAndEq, Bool.false_eq_true]
        rw [if_neg (by omega), if_neg (by omega)]

/-! ### four times a number -/

theorem log2_mul_pow (m k : Nat) (hm : m ≠ 0) : (2 ^ k * m).log2 = k + m.log2 := by
  have h1 := Nat.log2_self_le hm
  have h2 := Nat.lt_log2_self (n := m)
  refine (Nat.log2_eq_iff (by have := Nat.two_pow_pos k; exact Nat.ne_of_gt (Nat.mul_pos this (Nat.pos_of_ne_zero hm)))).2 ⟨?_, ?_⟩
  · rw [Nat.pow_add]; exact Nat.mul_le_mul_left _ h1
  · rw [Nat.add_assoc, Nat.pow_add]; exact Nat.mul_lt_mul_of_pos_left h2 (Nat.two_pow_pos k)

/-- n / 2 ^ d, where nothing is left over. -/
theorem cut_even_exact (s : Bool) (m d : Nat) : Toward.even.cut s (2 ^ d * m) d = m := by
  by_cases hm : m = 0
  · subst hm
    simp [Toward.cut]
  · have hl : d ≤ (2 ^ d * m).log2 + 2 := by rw [log2_mul_pow m d hm]; omega
    have hp := Nat.two_pow_pos d
    unfold Toward.cut
    simp only [Nat.min_eq_left hl, Nat.shiftLeft_eq, Nat.one_mul, Nat.mul_mod_right, Nat.mul_div_cancel_left m hp]
    simp

theorem read_pos {r : Nat} (hr : r < 9218868437227405312) : double.read r = .number false (mg r) (-1074 + (ex r : Int)) := by
  have m1 : r % 9223372036854775808 = r := by omega
  rw [read_num (by omega) (by omega), m1, decide_eq_false (by omega)]

theorem read_four : double.read 4616189618054758400 = .number false 4503599627370496 (-50) := by decide

theorem mg_norm {r : Nat} (h : 4503599627370496 ≤ r) : 4503599627370496 ≤ mg r ∧ (mg r).log2 = 52 := by
  have h1 : 4503599627370496 ≤ mg r := by unfold mg; rw [if_neg (by omega)]; omega
  have h2 := mg_lt r
  exact ⟨h1, (Nat.log2_eq_iff (by omega)).2 ⟨by omega, by omega⟩⟩

theorem word_pos (r : Nat) : double.word false r = r := by unfold Format.word; simp

/-- Of 2 ^ d * m at the place p the nearest word, where d digits fall away and the others stay. -/
theorem nearest_exact {m d L : Nat} {p : Int} (hm : m ≠ 0) (hL : m.log2 = L) (h : max (p + d + (L : Int) - 52) (-1074) = p + d) (_hd : 0 ≤ p + d + 1074) :
    double.nearest false (2 ^ d * m) p = min ((p + d + 1074).toNat * 4503599627370496 + m) 9218868437227405312 := by
  have hz : ¬ 2 ^ d * m = 0 := by have := Nat.two_pow_pos d; exact Nat.ne_of_gt (Nat.mul_pos this (Nat.pos_of_ne_zero hm))
  have hl := log2_mul_pow m d hm
  have hf : double.fractionBits = 52 := rfl
  have e1 : max (p + ((2 ^ d * m).log2 : Int) - 52) (-1074) = p + d := by rw [hl, hL]; rw [← h]; congr 1; omega
  unfold Format.nearest
  simp only [d_binade, d_inf, d_least, hf, hz, if_false, word_pos]
  have e1' : max (p + ((2 ^ d * m).log2 : Int) - ((52 : Nat) : Int)) (-1074) = p + d := e1
  rw [e1']
  have e2 : (p - (p + (d : Int))).toNat = 0 := by omega
  have e3 : (p + (d : Int) - p).toNat = d := by omega
  rw [e2, e3, Nat.shiftLeft_zero, cut_even_exact]
  congr 2

theorem mul_pos {r : Nat} (hr : r < 9218868437227405312) : double.mul 4616189618054758400 r = some (double.nearest false (2 ^ 52 * mg r) (-50 + (-1074 + (ex r : Int)))) := by
  unfold Format.mul
  rw [read_four, read_pos hr]
  rfl

theorem mul_zero : double.mul 4616189618054758400 0 = some 0 := by decide

theorem mul_inf : double.mul 4616189618054758400 9218868437227405312 = some 9218868437227405312 := by decide

theorem mul_nan {r : Nat} (hr : 9218868437227405312 < r % 9223372036854775808) : double.mul 4616189618054758400 r = none := by
  obtain ⟨s, t, e⟩ := read_nan hr
  unfold Format.mul
  rw [e, read_four]
  rfl

theorem mul_norm {r : Nat} (h : 4503599627370496 ≤ r) (hr : r < 9218868437227405312) : double.mul 4616189618054758400 r = some (min (r + 9007199254740992) 9218868437227405312) := by
  obtain ⟨h1, h2⟩ := mg_norm h
  rw [mul_pos hr, nearest_exact (d := 52) (by omega) h2 (by omega) (by omega)]
  congr 2
  unfold mg ex
  rw [if_neg (by omega)]
  omega

theorem mul_tiny {r : Nat} (h : r < 4503599627370496) (h0 : 0 < r) : ∃ x, double.mul 4616189618054758400 r = some x ∧ 0 < x ∧ x < 18014398509481984 := by
  have hm : mg r = r := by unfold mg; rw [if_pos h]
  have he : ex r = 0 := by unfold ex; omega
  rw [mul_pos (by omega), hm, he]
  by_cases hb : r < 2251799813685248
  · have hl : r.log2 < 51 := (Nat.log2_lt (by omega)).2 hb
    have e : 2 ^ 52 * r = 2 ^ 50 * (4 * r) := by omega
    have l4 : (4 * r).log2 = 2 + r.log2 := log2_mul_pow r 2 (by omega)
    rw [e, nearest_exact (d := 50) (by omega) l4 (by omega) (by omega)]
    exact ⟨_, rfl, by omega, by omega⟩
  · have hl : r.log2 = 51 := (Nat.log2_eq_iff (by omega)).2 ⟨by omega, by omega⟩
    have e : 2 ^ 52 * r = 2 ^ 51 * (2 * r) := by omega
    have l4 : (2 * r).log2 = 1 + r.log2 := log2_mul_pow r 1 (by omega)
    rw [e, nearest_exact (d := 51) (by omega) l4 (by omega) (by omega)]
    exact ⟨_, rfl, by omega, by omega⟩

/-! ### cut to a whole number -/

theorem write_num (s : Bool) (m : Nat) (p : Int) : double.write (.number s m p) = double.nearest s m p := rfl

/-- The bits of a number cut to a whole one. -/
def tr (x : Nat) : Nat := double.write ((double.read x).integral .zero)

theorem cut_zero (s : Bool) (m d : Nat) : Toward.zero.cut s m d = m / 2 ^ d := by
  unfold Toward.cut
  simp only [Nat.shiftLeft_eq, Nat.one_mul, Bool.toNat_false, Nat.add_zero]
  by_cases hl : d ≤ m.log2 + 2
  · rw [Nat.min_eq_left hl]
  · rw [Nat.min_eq_right (by omega)]
    have h1 : m < 2 ^ (m.log2 + 1) := Nat.lt_log2_self
    have h2 : 2 ^ (m.log2 + 1) ≤ 2 ^ (m.log2 + 2) := Nat.pow_le_pow_right (by omega) (by omega)
    have h3 : 2 ^ (m.log2 + 2) ≤ 2 ^ d := Nat.pow_le_pow_right (by omega) (by omega)
    rw [Nat.div_eq_of_lt (by omega), Nat.div_eq_of_lt (by omega)]

theorem integral_pos {x : Nat} (h0 : 0 < x) (h1 : x < 4841369599423283200) :
    (double.read x).integral .zero = .number false (mg x / 2 ^ (1074 - ex x)) 0 := by
  have hx : ex x ≤ 1074 := by unfold ex; omega
  rw [read_pos (by omega)]
  have e1 : (-1074 + (ex x : Int)).toNat = 0 := by omega
  have e2 : (-(-1074 + (ex x : Int))).toNat = 1074 - ex x := by omega
  simp only [Datum.integral, e1, e2, Nat.shiftLeft_zero]
  rw [cut_zero]

theorem tr_small {x : Nat} (h0 : 0 < x) (h1 : x < 4607182418800017408) : tr x = 0 := by
  have hx : ex x < 1022 := by unfold ex; omega
  have h2 := mg_lt x
  have h3 : 2 ^ 53 ≤ 2 ^ (1074 - ex x) := Nat.pow_le_pow_right (by omega) (by omega)
  unfold tr
  rw [integral_pos h0 (by omega), Nat.div_eq_of_lt (by omega)]
  decide

theorem tr_big {x : Nat} (h0 : 4607182418800017408 ≤ x) (h1 : x < 4841369599423283200) : tr x + mg x % 2 ^ (1074 - ex x) = x := by
  obtain ⟨m1, m2⟩ := mg_norm (r := x) (by omega)
  have hx1 : 1022 ≤ ex x := by unfold ex; omega
  have hx2 : ex x ≤ 1074 := by unfold ex; omega
  obtain ⟨d, hd⟩ : ∃ d, 1074 - ex x = d := ⟨_, rfl⟩
  have hd1 : d ≤ 52 := by omega
  have hp := Nat.two_pow_pos d
  have hdm := Nat.div_add_mod (mg x) (2 ^ d)
  have hmod := Nat.mod_lt (mg x) hp
  have hq : mg x / 2 ^ d ≠ 0 := by
    have : 2 ^ d ≤ 2 ^ 52 := Nat.pow_le_pow_right (by omega) hd1
    have : 1 ≤ mg x / 2 ^ d := (Nat.le_div_iff_mul_le hp).2 (by omega)
    omega
  have hlg : (mg x / 2 ^ d).log2 + d = 52 := by
    have a1 : 2 ^ (52 - d) * 2 ^ d = 2 ^ 52 := by rw [← Nat.pow_add]; congr 1; omega
    have a2 : 2 ^ (53 - d) * 2 ^ d = 2 ^ 53 := by rw [← Nat.pow_add]; congr 1; omega
    have b1 : 2 ^ (52 - d) ≤ mg x / 2 ^ d := (Nat.le_div_iff_mul_le hp).2 (by rw [a1]; omega)
    have b2 : mg x / 2 ^ d < 2 ^ (53 - d) := (Nat.div_lt_iff_lt_mul hp).2 (by rw [a2]; have := mg_lt x; omega)
    have : (mg x / 2 ^ d).log2 = 52 - d := (Nat.log2_eq_iff hq).2 ⟨b1, by rw [show 52 - d + 1 = 53 - d from by omega]; exact b2⟩
    omega
  have hlg' := log2_mul_pow (mg x / 2 ^ d) d hq
  unfold tr
  rw [integral_pos (by omega) h1, hd]
  -- the number k = mg / 2 ^ d is written with d noughts behind it
  have hw : double.nearest false (mg x / 2 ^ d) 0 = (1074 - d) * 4503599627370496 + 2 ^ d * (mg x / 2 ^ d) := by
    have hf : double.fractionBits = 52 := rfl
    have e1 : max ((0 : Int) + ((mg x / 2 ^ d).log2 : Int) - ((52 : Nat) : Int)) (-1074) = -(d : Int) := by omega
    unfold Format.nearest
    simp only [d_binade, d_inf, d_least, hf, hq, if_false, word_pos]
    rw [e1]
    have e2 : ((0 : Int) - -(d : Int)).toNat = d := by omega
    have e3 : (-(d : Int) - 0).toNat = 0 := by omega
    have e4 : (-(d : Int) - -1074).toNat = 1074 - d := by omega
    have hc := cut_even_exact false (2 ^ d * (mg x / 2 ^ d)) 0
    rw [Nat.pow_zero, Nat.one_mul] at hc
    rw [e2, e3, e4, Nat.shiftLeft_eq, Nat.mul_comm (mg x / 2 ^ d), hc]
    have hmx := mg_lt x
    clear hc e1 e2 e3 e4 hlg' hlg hq hmod hp hf
    generalize 2 ^ d * (mg x / 2 ^ d) = P at hdm ⊢
    generalize mg x % 2 ^ d = R at hdm
    omega
  rw [write_num, hw]
  have h3 : mg x = 4503599627370496 + x % 4503599627370496 := by unfold mg; rw [if_neg (by omega)]
  have h4 : ex x = x / 4503599627370496 - 1 := rfl
  clear hw hlg' hlg hq hmod hp
  generalize 2 ^ d * (mg x / 2 ^ d) = P at hdm ⊢
  generalize mg x % 2 ^ d = R at hdm ⊢
  omega

end Go.Proofs.YtpcjgpgjjdlfdaaDoor.Flt
