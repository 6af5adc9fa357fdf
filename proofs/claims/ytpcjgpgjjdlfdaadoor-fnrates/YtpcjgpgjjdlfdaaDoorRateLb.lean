/- Plain arithmetic of chapter 2 (rates): the bits of so many quarters. No condition beside those that each theorem names. -/
import Derived.Test.YtpcjgpgjjdlfdaaDoorRateMath
namespace Go.Proofs.YtpcjgpgjjdlfdaaDoor.Rts
open Ieee Go.Proofs.YtpcjgpgjjdlfdaaDoor.Flt

/-- The bits of so many quarters, without a sign. -/
def lb (q : Nat) : Nat := if q = 0 then 0 else (1020 + q.log2) * 4503599627370496 + q * 2 ^ (52 - q.log2)

theorem scaled {q L : Nat} (h0 : q ≠ 0) (hL : q.log2 = L) (h52 : L ≤ 52) : 4503599627370496 ≤ q * 2 ^ (52 - L) ∧ q * 2 ^ (52 - L) < 9007199254740992 := by
  have h1 := Nat.log2_self_le h0
  have h2 := Nat.lt_log2_self (n := q)
  rw [hL] at h1 h2
  have p := Nat.two_pow_pos (52 - L)
  have a1 : 2 ^ L * 2 ^ (52 - L) = 2 ^ 52 := by rw [← Nat.pow_add]; congr 1; omega
  have a2 : 2 ^ (L + 1) * 2 ^ (52 - L) = 2 ^ 53 := by rw [← Nat.pow_add]; congr 1; omega
  have b1 : 2 ^ L * 2 ^ (52 - L) ≤ q * 2 ^ (52 - L) := Nat.mul_le_mul_right _ h1
  have b2 : q * 2 ^ (52 - L) < 2 ^ (L + 1) * 2 ^ (52 - L) := Nat.mul_lt_mul_of_pos_right h2 p
  omega

theorem nearest_int {q L : Nat} (h0 : q ≠ 0) (hL : q.log2 = L) (h52 : L ≤ 52) : double.nearest false q 0 = (1022 + L) * 4503599627370496 + q * 2 ^ (52 - L) := by
  have hf : double.fractionBits = 52 := rfl
  have e1 : max ((0 : Int) + (q.log2 : Int) - ((52 : Nat) : Int)) (-1074) = (L : Int) - 52 := by omega
  have hs := scaled h0 hL h52
  unfold Format.nearest
  simp only [d_binade, d_inf, d_least, hf, h0, if_false, word_pos]
  rw [e1]
  have e2 : ((0 : Int) - ((L : Int) - 52)).toNat = 52 - L := by omega
  have e3 : ((L : Int) - 52 - 0).toNat = 0 := by omega
  have e4 : ((L : Int) - 52 - -1074).toNat = 1022 + L := by omega
  have hc := cut_even_exact false (q * 2 ^ (52 - L)) 0
  rw [Nat.pow_zero, Nat.one_mul] at hc
  rw [e2, e3, e4, Nat.shiftLeft_eq, hc]
  clear hc e1 e2 e3 e4 hf
  generalize q * 2 ^ (52 - L) = m at hs ⊢
  omega

theorem quot_any (m n k more : Nat) (i j : Int) (h0 : ¬ n = 0) (hmore : 54 + n.log2 - m.log2 = more) (hq : m <<< more = n * k) : Datum.quotient 54 (.number false m i) (.number false n j) = some (.number false (2 * k) (i - j - more - 1)) := by
  have hn : 0 < n := by omega
  simp only [Datum.quotient, h0, if_false, hmore, hq, Nat.mul_mod_right, Nat.mul_div_cancel_left k hn]
  simp

theorem quot_four (m : Nat) (i : Int) (hlm : m.log2 = 52) : Datum.quotient 54 (.number false m i) (.number false 4503599627370496 (-50)) = some (.number false (2 ^ 3 * m) (i - 5)) := by
  have hlb : Nat.log2 4503599627370496 = 52 := by decide
  rw [quot_any m 4503599627370496 (4 * m) 54 i (-50) (by decide) (by rw [hlm, hlb]) (by rw [Nat.shiftLeft_eq]; omega)]
  congr 2 <;> omega

theorem lb_div {q : Nat} (h : q < 4503599627370496) : double.div (double.nearest false q 0) 4616189618054758400 = some (lb q) := by
  by_cases h0 : q = 0
  · subst h0; decide
  have hL : q.log2 < 52 := (Nat.log2_lt h0).2 h
  obtain ⟨L, hLe⟩ : ∃ L, q.log2 = L := ⟨_, rfl⟩
  rw [hLe] at hL
  have hs := scaled h0 hLe (by omega)
  rw [nearest_int h0 hLe (by omega)]
  unfold lb
  rw [if_neg h0, hLe]
  generalize q * 2 ^ (52 - L) = m at hs ⊢
  have hx : ex ((1022 + L) * 4503599627370496 + m) = 1022 + L := by unfold ex; omega
  have hm : mg ((1022 + L) * 4503599627370496 + m) = m := by unfold mg; rw [if_neg (by omega)]; omega
  have hlm : m.log2 = 52 := (Nat.log2_eq_iff (by omega)).2 ⟨by omega, by omega⟩
  have hd : double.fractionBits + 2 = 54 := rfl
  unfold Format.div
  rw [read_pos (by omega), read_four, hx, hm, hd, quot_four _ _ hlm, Option.map_some, write_num, nearest_exact (d := 3) (by omega) hlm (by omega) (by omega)]
  congr 1
  clear hx hm hlm hd
  omega

theorem lb_lt {q : Nat} (h : q < 65536) : lb q < 4679521487814656000 := by
  by_cases h0 : q = 0
  · subst h0; decide
  have hL : q.log2 < 16 := (Nat.log2_lt h0).2 h
  obtain ⟨L, hLe⟩ : ∃ L, q.log2 = L := ⟨_, rfl⟩
  have hs := scaled h0 hLe (by omega)
  unfold lb
  rw [if_neg h0, hLe]
  omega

theorem qt_lb {q : Nat} (h : q ≤ 39999) : qt ((lb q : Nat) : Int) = (q : Int) := by
  by_cases h0 : q = 0
  · subst h0; decide
  have hL : q.log2 < 16 := (Nat.log2_lt h0).2 (by omega)
  obtain ⟨L, hLe⟩ : ∃ L, q.log2 = L := ⟨_, rfl⟩
  have hs := scaled h0 hLe (by omega)
  have hp := Nat.two_pow_pos (52 - L)
  have hl : lb q = (1020 + L) * 4503599627370496 + q * 2 ^ (52 - L) := by unfold lb; rw [if_neg h0, hLe]
  have hr : lb q / 4503599627370496 = 1021 + L := by rw [hl]; omega
  have hm : mg (lb q) = q * 2 ^ (52 - L) := by unfold mg; rw [if_neg (by omega), hl]; omega
  have hd : 1073 - (1021 + L) = 52 - L := by omega
  rw [qt_in (by omega) (by omega), hr, hm, hd, Nat.mul_mod_left, Nat.mul_div_cancel q hp, if_pos ⟨rfl, h⟩]

end Go.Proofs.YtpcjgpgjjdlfdaaDoor.Rts
