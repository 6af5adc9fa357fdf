/- Plain functions of chapter 2's texts: digits as a number, the first point, so many quarters as a text is. No condition. -/
import Derived.Lib.Strings
import Derived.Lib.IndexBytes
namespace Go.Proofs.YtpcjgpgjjdlfdaaDoor.Txt

def isDig (c : UInt8) : Bool := decide (48 ≤ c.toNat ∧ c.toNat ≤ 57)
def val (l : List UInt8) : Int := l.foldl (fun n c => 10 * n + ((c.toNat : Int) - 48)) 0
theorem val_snoc (l : List UInt8) (c : UInt8) : val (l ++ [c]) = 10 * val l + ((c.toNat : Int) - 48) := by unfold val; rw [List.foldl_append]; rfl
theorem val_bd : ∀ (n : Nat) (l : List UInt8), l.length = n → l.all isDig = true → 0 ≤ val l ∧ val l < 10 ^ n
  | 0, l, h, _ => by
    have : l = [] := List.eq_nil_of_length_eq_zero h
    subst this
    decide
  | n + 1, l, h, ha => by
    obtain ⟨a, c, rfl⟩ : ∃ a c, l = a ++ [c] := by
      have hne : l ≠ [] := by intro e; rw [e] at h; cases h
      exact ⟨l.dropLast, l.getLast hne, (List.dropLast_concat_getLast hne).symm⟩
    rw [List.all_append, Bool.and_eq_true] at ha
    have hlen : a.length = n := by simp at h; exact h
    have ih := val_bd n a hlen ha.1
    have hc : 48 ≤ c.toNat ∧ c.toNat ≤ 57 := by
      have := ha.2
      simp [isDig] at this
      exact this
    rw [val_snoc, Int.pow_succ]
    omega

/-- Digits as a number; -1: they are none, or too many. -/
def dig (l : List UInt8) (most : Nat) : Int := if l.length < 1 ∨ most < l.length then -1 else if l.all isDig then val l else -1

theorem pow_le (n m : Nat) (h : n ≤ m) : (10 : Int) ^ n ≤ 10 ^ m := by
  have : 10 ^ n ≤ 10 ^ m := Nat.pow_le_pow_right (by omega) h
  exact_mod_cast this

theorem dig_bd (l : List UInt8) (most : Nat) : -1 ≤ dig l most ∧ dig l most < 10 ^ most := by
  have h10 : (0 : Int) < 10 ^ most := Int.pow_pos (by omega)
  unfold dig
  split
  · omega
  · split
    · rename_i h1 h2
      have := val_bd l.length l rfl h2
      have := pow_le l.length most (by omega)
      omega
    · omega

/-- Where the first point is; the length, if there is none. -/
def dot (l : List UInt8) : Nat := l.findIdx (· == 46)
theorem dot_le (l : List UInt8) : dot l ≤ l.length := List.findIdx_le_length

/-- So many quarters as a text without a sign is; below 0: it is none. -/
def num (l : List UInt8) : Int :=
  if dig (l.take (dot l)) 4 < 0 ∨ dot l = l.length then 4 * dig (l.take (dot l)) 4
  else if dig (l.drop (dot l + 1)) 3 < 0 then -1
  else if dig (l.drop (dot l + 1)) 3 * 10 ^ (3 - (l.length - dot l - 1)) % 250 = 0 then 4 * dig (l.take (dot l)) 4 + dig (l.drop (dot l + 1)) 3 * 10 ^ (3 - (l.length - dot l - 1)) / 250
  else -1

theorem dig_len {l : List UInt8} {most : Nat} (h : 0 ≤ dig l most) : 1 ≤ l.length ∧ l.length ≤ most ∧ l.all isDig = true ∧ dig l most = val l := by
  unfold dig at h ⊢
  split at h
  · omega
  · rename_i h1
    split at h
    · rename_i h2
      exact ⟨by omega, by omega, h2, by rw [if_neg h1, if_pos h2]⟩
    · omega

theorem part_bd {l : List UInt8} (h : 0 ≤ dig l 3) : 0 ≤ dig l 3 * 10 ^ (3 - l.length) ∧ dig l 3 * 10 ^ (3 - l.length) ≤ 999 := by
  obtain ⟨h1, h2, h3, h4⟩ := dig_len h
  have h5 := val_bd l.length l rfl h3
  rw [← h4] at h5
  have : l.length = 1 ∨ l.length = 2 ∨ l.length = 3 := by omega
  rcases this with e | e | e <;> rw [e] at h5 ⊢ <;> omega

theorem num_bd (l : List UInt8) : -4 ≤ num l ∧ num l ≤ 39999 := by
  have h1 := dig_bd (l.take (dot l)) 4
  have hd := dot_le l
  unfold num
  split
  · omega
  · split
    · omega
    · rename_i h2 h3
      have hl : (l.drop (dot l + 1)).length = l.length - dot l - 1 := by rw [List.length_drop]; omega
      have h4 := part_bd (l := l.drop (dot l + 1)) (by omega)
      rw [hl] at h4
      split
      · omega
      · omega

end Go.Proofs.YtpcjgpgjjdlfdaaDoor.Txt
