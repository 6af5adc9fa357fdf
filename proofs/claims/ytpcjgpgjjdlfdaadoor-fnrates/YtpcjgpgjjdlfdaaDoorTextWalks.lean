/- Contracts of chapter 2's readers of digits, of the program and of the model. Condition: the text is no longer than a text can be. -/
import Derived.Test.YtpcjgpgjjdlfdaaDoorTexts
import Derived.Test.YtpcjgpgjjdlfdaaDoorRateBits
namespace Go.Proofs.YtpcjgpgjjdlfdaaDoor
open Go.ChangeShapes Go.WideShapes Go.ChangeAt Go.RowKit
set_option linter.unusedVariables false

theorem take_snoc (s : ByteArray) (k : Nat) (h : k < s.size) : s.data.toList.take (k + 1) = s.data.toList.take k ++ [s[k]] := by
  rw [List.take_succ_eq_append_getElem (by simpa using h)]; rfl
theorem take_all (s : ByteArray) (k : Nat) (h : s.size ≤ k) : s.data.toList.take k = s.data.toList := List.take_of_length_le (by simpa using h)
theorem size_len (s : ByteArray) : s.data.toList.length = s.size := by simp

theorem dig_no {s : ByteArray} {k m : Nat} (h : k < s.size) (hd : Txt.isDig s[k] = false) : Txt.dig s.data.toList m = -1 := by
  have : s.data.toList.all Txt.isDig = false := by
    rw [List.all_eq_false]
    exact ⟨s[k], by have := List.getElem_mem (l := s.data.toList) (n := k) (by simpa using h); exact this, by rw [hd]; decide⟩
  unfold Txt.dig
  split
  · rfl
  · rw [this]; rfl
theorem dig_yes {s : ByteArray} {m : Nat} (h1 : 1 ≤ s.size) (h2 : s.size ≤ m) (h : s.data.toList.all Txt.isDig = true) : Txt.dig s.data.toList m = Txt.val s.data.toList := by
  unfold Txt.dig
  rw [if_neg (by rw [size_len]; omega), if_pos h]
theorem dig_out {s : ByteArray} {m : Nat} (h : s.size < 1 ∨ m < s.size) : Txt.dig s.data.toList m = -1 := by
  unfold Txt.dig
  rw [if_pos (by rw [size_len]; omega)]
theorem val_le {s : ByteArray} {k : Nat} (hk : k ≤ 4) (h : (s.data.toList.take k).all Txt.isDig = true) : 0 ≤ Txt.val (s.data.toList.take k) ∧ Txt.val (s.data.toList.take k) ≤ 9999 := by
  have h1 := Txt.val_bd _ (s.data.toList.take k) rfl h
  have h2 := Txt.pow_le (s.data.toList.take k).length 4 (by have := List.length_take_le k s.data.toList; omega)
  omega

set_option maxHeartbeats 1000000 in
theorem l2Digits_c (t : ByteArray) (m : Nat) (w : World) (ht : t.size ≤ maxLen) (hm : m ≤ 4) :
    Calls Tryd.prog 63 #[.string t, .int .i64 (m : Int)] w fun e w' => e = .returned (.int .i64 (Txt.dig t.data.toList m)) ∧ w' = w := by
  unfold maxLen at ht
  have hm' : (m : Int) ≤ 4 := by omega
  by_cases ho : t.size < 1 ∨ m < t.size
  · rw [dig_out ho]
    by_cases h1 : t.size < 1
    · have h1' : (t.size : Int) < 1 := by omega
      go_enter Tryd.func63, Tryd.ntmps63
      go_wp2
      go_ret
      exact ⟨rfl, rfl⟩
    · have d1 : decide ((t.size : Int) < 1) = false := decide_eq_false (by omega)
      have h2' : (m : Int) < (t.size : Int) := by omega
      go_enter Tryd.func63, Tryd.ntmps63
      go_wp2
      go_ret
      exact ⟨rfl, rfl⟩
  · have d1 : decide ((t.size : Int) < 1) = false := decide_eq_false (by omega)
    have d2 : decide ((m : Int) < (t.size : Int)) = false := decide_eq_false (by omega)
    go_enter Tryd.func63, Tryd.ntmps63
    go_wp2
    go_loop [5, 6] (fun n i => ∃ k : Nat, k ≤ t.size ∧ i = .int .i64 k ∧ n = .int .i64 (Txt.val (t.data.toList.take k)) ∧ Hid ((t.data.toList.take k).all Txt.isDig = true)) (fun _ i => t.size - (intOf i).toNat)
    case atStart => exact ⟨0, Nat.zero_le _, rfl, rfl, rfl⟩
    case round =>
      obtain ⟨k, hk, rfl, rfl, HA⟩ := hrel
      have hv := val_le (by omega) HA.out
      by_cases hlt : k < t.size
      · by_cases hc : 48 ≤ t[k].toNat ∧ t[k].toNat ≤ 57
        · have HS : Hid (Txt.val (t.data.toList.take (k + 1)) = 10 * Txt.val (t.data.toList.take k) + ((t[k].toNat : Int) - 48)) := by
            show _ = _
            rw [take_snoc t k hlt]; exact Txt.val_snoc _ _
          have HA2 : Hid ((t.data.toList.take (k + 1)).all Txt.isDig = true) := by
            show _ = _
            rw [take_snoc t k hlt, List.all_append, HA.out]
            simp [Txt.isDig, hc]
          have e1 : decide ((t[k].toNat : Int) < 48) = false := decide_eq_false (by omega)
          have e2 : decide (57 < (t[k].toNat : Int)) = false := decide_eq_false (by omega)
          have e3 : 48 ≤ (t[k].toNat : Int) := by omega
          have e4 : (t[k].toNat : Int) ≤ 57 := by omega
          go_wp2
          go_round
          case rel => exact ⟨k + 1, by omega, by go_num, by rw [HS.out], HA2⟩
          case measure => simp [intOf]; omega
        · have HD : Hid (Txt.dig t.data.toList m = -1) := dig_no hlt (by simp [Txt.isDig]; omega)
          by_cases hc1 : t[k].toNat < 48
          · have e1 : (t[k].toNat : Int) < 48 := by omega
            go_wp2
            go_ret
            exact ⟨congrArg (fun x => Ending.returned (Value.int .i64 x)) HD.out.symm, rfl⟩
          · have e1 : decide ((t[k].toNat : Int) < 48) = false := decide_eq_false (by omega)
            have e2 : 57 < (t[k].toNat : Int) := by omega
            go_wp2
            go_ret
            exact ⟨congrArg (fun x => Ending.returned (Value.int .i64 x)) HD.out.symm, rfl⟩
      · have HD : Hid (Txt.val (t.data.toList.take k) = Txt.dig t.data.toList m) := by
          show _ = _
          have h := HA.out
          rw [take_all t k (by omega)] at h ⊢
          exact (dig_yes (by omega) (by omega) h).symm
        go_wp2
        go_ret
        exact ⟨congrArg (fun x => Ending.returned (Value.int .i64 x)) HD.out, rfl⟩
def rdV (q : Int) : Value := .tuple #[.int .i64 (if q < 0 then 0 else q), .bool (decide (0 ≤ q))]
theorem rdV_no : rdV (-1) = .tuple #[.int .i64 0, .bool false] := rfl
theorem rdV_yes {q : Int} (h : 0 ≤ q) : rdV q = .tuple #[.int .i64 q, .bool true] := by unfold rdV; rw [if_neg (by omega), decide_eq_true h]
set_option maxHeartbeats 1000000 in
theorem readDigits_c (t : ByteArray) (m : Nat) (w : World) (ht : t.size ≤ maxLen) (hm : m ≤ 4) :
    Calls Tryd.prog 50 #[.string t, .int .i64 (m : Int)] w fun e w' => e = .returned (rdV (Txt.dig t.data.toList m)) ∧ w' = w := by
  unfold maxLen at ht
  have hm' : (m : Int) ≤ 4 := by omega
  by_cases ho : t.size < 1 ∨ m < t.size
  · rw [dig_out ho, rdV_no]
    by_cases h1 : t.size < 1
    · have h1' : (t.size : Int) < 1 := by omega
      go_enter Tryd.func50, Tryd.ntmps50
      go_wp2
      go_ret2
      exact ⟨rfl, rfl⟩
    · have d1 : decide ((t.size : Int) < 1) = false := decide_eq_false (by omega)
      have h2' : (m : Int) < (t.size : Int) := by omega
      go_enter Tryd.func50, Tryd.ntmps50
      go_wp2
      go_ret2
      exact ⟨rfl, rfl⟩
  · have d1 : decide ((t.size : Int) < 1) = false := decide_eq_false (by omega)
    have d2 : decide ((m : Int) < (t.size : Int)) = false := decide_eq_false (by omega)
    go_enter Tryd.func50, Tryd.ntmps50
    go_wp2
    go_loop [6, 7, 19] (fun n _ i => ∃ k : Nat, k ≤ t.size ∧ i = .int .i64 k ∧ n = .int .i64 (Txt.val (t.data.toList.take k)) ∧ Hid ((t.data.toList.take k).all Txt.isDig = true)) (fun _ _ i => t.size - (intOf i).toNat)
    case atStart => exact ⟨0, Nat.zero_le _, rfl, rfl, rfl⟩
    case round =>
      obtain ⟨k, hk, rfl, rfl, HA⟩ := hrel
      have hv := val_le (by omega) HA.out
      by_cases hlt : k < t.size
      · by_cases hc : 48 ≤ t[k].toNat ∧ t[k].toNat ≤ 57
        · have HS : Hid (Txt.val (t.data.toList.take (k + 1)) = 10 * Txt.val (t.data.toList.take k) + ((t[k].toNat : Int) - 48)) := by
            show _ = _
            rw [take_snoc t k hlt]; exact Txt.val_snoc _ _
          have HA2 : Hid ((t.data.toList.take (k + 1)).all Txt.isDig = true) := by
            show _ = _
            rw [take_snoc t k hlt, List.all_append, HA.out]
            simp [Txt.isDig, hc]
          have e1 : decide ((t[k].toNat : Int) < 48) = false := decide_eq_false (by omega)
          have e2 : decide (57 < (t[k].toNat : Int)) = false := decide_eq_false (by omega)
          have e3 : 48 ≤ (t[k].toNat : Int) := by omega
          have e4 : (t[k].toNat : Int) ≤ 57 := by omega
          go_wp2
          go_round
          case rel => exact ⟨k + 1, by omega, by go_num, by rw [HS.out], HA2⟩
          case measure => simp [intOf]; omega
        · have HD : Hid (.tuple #[.int .i64 0, .bool false] = rdV (Txt.dig t.data.toList m)) := by
            show _ = _
            rw [dig_no hlt (by simp [Txt.isDig]; omega), rdV_no]
          by_cases hc1 : t[k].toNat < 48
          · have e1 : (t[k].toNat : Int) < 48 := by omega
            go_wp2
            go_ret2
            exact ⟨congrArg Ending.returned HD.out, rfl⟩
          · have e1 : decide ((t[k].toNat : Int) < 48) = false := decide_eq_false (by omega)
            have e2 : 57 < (t[k].toNat : Int) := by omega
            go_wp2
            go_ret2
            exact ⟨congrArg Ending.returned HD.out, rfl⟩
      · have HD : Hid (.tuple #[.int .i64 (Txt.val (t.data.toList.take k)), .bool true] = rdV (Txt.dig t.data.toList m)) := by
          show _ = _
          have h := HA.out
          rw [take_all t k (by omega)] at h hv ⊢
          rw [dig_yes (by omega) (by omega) h, rdV_yes hv.1]
        go_wp2
        go_ret2
        exact ⟨congrArg Ending.returned HD.out, rfl⟩
end Go.Proofs.YtpcjgpgjjdlfdaaDoor
