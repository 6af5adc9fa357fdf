/- The contract of the model's l2Number: so many quarters as a text is. Condition: the text is no longer than a text can be. -/
import Derived.Test.YtpcjgpgjjdlfdaaDoorTextWalks
namespace Go.Proofs.YtpcjgpgjjdlfdaaDoor
open Go.ChangeShapes Go.WideShapes Go.ChangeAt Go.RowKit
set_option linter.unusedVariables false

theorem dot_step {t : ByteArray} {k : Nat} (h : k < t.size) (h1 : k ≤ Txt.dot t.data.toList) (h2 : t[k].toNat ≠ 46) : k + 1 ≤ Txt.dot t.data.toList := by
  by_cases e : k = Txt.dot t.data.toList
  · exfalso
    have hl : Txt.dot t.data.toList < t.data.toList.length := by rw [← e, size_len]; exact h
    have := List.findIdx_getElem (w := hl)
    simp only [beq_iff_eq] at this
    apply h2
    have e2 : t.data.toList[Txt.dot t.data.toList] = t[k] := by subst e; rfl
    rw [← e2]
    unfold Txt.dot at *
    rw [this]
    rfl
  · omega
theorem dot_hit {t : ByteArray} {k : Nat} (h : k < t.size) (h1 : k ≤ Txt.dot t.data.toList) (h2 : t[k].toNat = 46) : Txt.dot t.data.toList = k := by
  by_cases e : k < Txt.dot t.data.toList
  · exfalso
    have := List.not_of_lt_findIdx e
    have e2 : t.data.toList[k]'(by rw [size_len]; exact h) = t[k] := rfl
    rw [e2] at this
    have h3 : t[k] = 46 := UInt8.toNat.inj h2
    rw [h3] at this
    cases this
  · omega
theorem ext_head (t : ByteArray) (d : Nat) : (t.extract 0 d).data.toList = t.data.toList.take d := by rw [Lib.extract_data]; simp
theorem ext_tail (t : ByteArray) (d : Nat) : (t.extract d t.size).data.toList = t.data.toList.drop d := Lib.extract_to_end t d
theorem ext_size (t : ByteArray) (a b : Nat) (h : b ≤ t.size) : (t.extract a b).size = b - a := by rw [ByteArray.size_extract]; omega

theorem num_head {l : List UInt8} {d : Nat} {x : Int} (hd : Txt.dot l = d) (hx : Txt.dig (l.take d) 4 = x) (h : x < 0 ∨ d = l.length) : Txt.num l = 4 * x := by
  unfold Txt.num; rw [hd, hx, if_pos h]
theorem num_bad {l : List UInt8} {d : Nat} {x y : Int} (hd : Txt.dot l = d) (hx : Txt.dig (l.take d) 4 = x) (h : ¬ (x < 0 ∨ d = l.length)) (hy : Txt.dig (l.drop (d + 1)) 3 = y) (h2 : y < 0) : Txt.num l = -1 := by
  unfold Txt.num; rw [hd, hx, if_neg h, hy, if_pos h2]
theorem num_no {l : List UInt8} {d : Nat} {x y P : Int} (hd : Txt.dot l = d) (hx : Txt.dig (l.take d) 4 = x) (h : ¬ (x < 0 ∨ d = l.length)) (hy : Txt.dig (l.drop (d + 1)) 3 = y) (h2 : 0 ≤ y) (hP : y * 10 ^ (3 - (l.length - d - 1)) = P) (h3 : ¬ P % 250 = 0) : Txt.num l = -1 := by
  unfold Txt.num; rw [hd, hx, if_neg h, hy, if_neg (by omega), hP, if_neg h3]
theorem num_yes {l : List UInt8} {d : Nat} {x y P : Int} (hd : Txt.dot l = d) (hx : Txt.dig (l.take d) 4 = x) (h : ¬ (x < 0 ∨ d = l.length)) (hy : Txt.dig (l.drop (d + 1)) 3 = y) (h2 : 0 ≤ y) (hP : y * 10 ^ (3 - (l.length - d - 1)) = P) (h3 : P % 250 = 0) : Txt.num l = 4 * x + P / 250 := by
  unfold Txt.num; rw [hd, hx, if_neg h, hy, if_neg (by omega), hP, if_pos h3]

set_option maxHeartbeats 2000000 in
theorem l2Number_c (t : ByteArray) (w : World) (ht : t.size ≤ maxLen) :
    Calls Tryd.prog 53 #[.string t] w fun e w' => e = .returned (.int .i64 (Txt.num t.data.toList)) ∧ w' = w := by
  unfold maxLen at ht
  have hdl := Txt.dot_le t.data.toList
  rw [size_len] at hdl
  go_enter Tryd.func53, Tryd.ntmps53
  go_wp2
  go_loop [3, 4] (fun dd i => ∃ k d : Nat, k ≤ t.size ∧ d ≤ t.size ∧ i = .int .i64 k ∧ dd = .int .i64 d ∧ Hid ((d = t.size ∧ k ≤ Txt.dot t.data.toList) ∨ (d = Txt.dot t.data.toList ∧ Txt.dot t.data.toList < k))) (fun _ i => t.size - (intOf i).toNat)
  case atStart => exact ⟨0, t.size, Nat.zero_le _, Nat.le_refl _, rfl, rfl, .inl ⟨rfl, Nat.zero_le _⟩⟩
  case round =>
    obtain ⟨k, d, hk, hd, rfl, rfl, HR⟩ := hrel
    by_cases hlt : k < t.size
    · by_cases hc : t[k].toNat = 46
      · have e1 : ((t[k].toNat : Int) == 46) = true := by simp; omega
        by_cases hdz : d = t.size
        · have e2 : ((d : Int) == (t.size : Int)) = true := by simp; omega
          have HN : Hid (k = Txt.dot t.data.toList) := by
            rcases HR.out with ⟨_, h⟩ | ⟨h1, h2⟩
            · exact (dot_hit hlt h hc).symm
            · exfalso; omega
          clear hc hdz
          go_wp2
          go_round
          case rel => exact ⟨k + 1, k, by omega, by omega, by go_num, rfl, .inr ⟨HN.out, by have := HN.out; omega⟩⟩
          case measure => simp [intOf]; omega
        · have e2 : ((d : Int) == (t.size : Int)) = false := by simp; omega
          clear hc
          go_wp2
          go_round
          case rel => exact ⟨k + 1, d, by omega, by omega, by go_num, rfl, by rcases HR.out with ⟨h, _⟩ | ⟨h1, h2⟩; exact absurd h hdz; exact .inr ⟨h1, by omega⟩⟩
          case measure => simp [intOf]; omega
      · have e1 : ((t[k].toNat : Int) == 46) = false := by simp; omega
        go_wp2
        go_round
        case rel => exact ⟨k + 1, d, by omega, by omega, by go_num, rfl, by rcases HR.out with ⟨h, h2⟩ | ⟨h1, h2⟩; exact .inl ⟨h, dot_step hlt h2 hc⟩; exact .inr ⟨h1, by omega⟩⟩
        case measure => simp [intOf]; omega
    · have HD : Hid (Txt.dot t.data.toList = d) := by
        show _ = _
        rcases HR.out with ⟨h, h2⟩ | ⟨h1, h2⟩ <;> omega
      obtain ⟨x, hx⟩ : ∃ x, Hid (Txt.dig (t.data.toList.take d) 4 = x) := ⟨_, rfl⟩
      have hxb : -1 ≤ x ∧ x < 10000 := by have := Txt.dig_bd (t.data.toList.take d) 4; rw [hx.out] at this; omega
      have c1 : ∀ w, Calls Tryd.prog 63 #[.string (t.extract 0 d), .int .i64 4] w fun e w' => e = .returned (.int .i64 x) ∧ w' = w := fun w => by
        have h := l2Digits_c (t.extract 0 d) 4 w (by rw [ext_size t 0 d hd]; unfold maxLen; omega) (by omega)
        rw [ext_head, hx.out] at h
        exact h
      by_cases hz : x < 0 ∨ d = t.size
      · have HN : Hid (4 * x = Txt.num t.data.toList) := (num_head HD.out hx.out (by rw [size_len]; exact hz)).symm
        by_cases hx0 : x < 0
        · clear hz
          go_wp2_with (go_at_call 63; refine (c1 _).mono ?_; rintro e w' ⟨rfl, rfl⟩)
          go_ret
          exact ⟨congrArg (fun x => Ending.returned (Value.int .i64 x)) HN.out, rfl⟩
        · have e1 : decide (x < 0) = false := decide_eq_false hx0
          have e2 : ((d : Int) == (t.size : Int)) = true := by simp; omega
          clear hz
          go_wp2_with (go_at_call 63; refine (c1 _).mono ?_; rintro e w' ⟨rfl, rfl⟩)
          go_ret
          exact ⟨congrArg (fun x => Ending.returned (Value.int .i64 x)) HN.out, rfl⟩
      · have e1 : decide (x < 0) = false := decide_eq_false (by omega)
        have e2 : ((d : Int) == (t.size : Int)) = false := by simp; omega
        have hd2 : d + 1 ≤ t.size := by omega
        obtain ⟨y, hy⟩ : ∃ y, Hid (Txt.dig (t.data.toList.drop (d + 1)) 3 = y) := ⟨_, rfl⟩
        have hyb : -1 ≤ y ∧ y < 1000 := by have := Txt.dig_bd (t.data.toList.drop (d + 1)) 3; rw [hy.out] at this; omega
        have c2 : ∀ w, Calls Tryd.prog 63 #[.string (t.extract (d + 1) t.size), .int .i64 3] w fun e w' => e = .returned (.int .i64 y) ∧ w' = w := fun w => by
          have h := l2Digits_c (t.extract (d + 1) t.size) 3 w (by rw [ext_size t _ _ (Nat.le_refl _)]; unfold maxLen; omega) (by omega)
          rw [ext_tail, hy.out] at h
          exact h
        by_cases hy0 : y < 0
        · have HN : Hid (-1 = Txt.num t.data.toList) := (num_bad HD.out hx.out (by rw [size_len]; exact hz) hy.out hy0).symm
          go_wp2_with fail
          refine (c1 _).mono ?_
          rintro e w' ⟨rfl, rfl⟩
          go_wp2_with fail
          refine (c2 _).mono ?_
          rintro e w' ⟨rfl, rfl⟩
          go_wp2
          go_ret
          exact ⟨congrArg (fun x => Ending.returned (Value.int .i64 x)) HN.out, rfl⟩
        · have e3 : decide (y < 0) = false := decide_eq_false hy0
          have hlen : 1 ≤ t.size - d - 1 ∧ t.size - d - 1 ≤ 3 := by
            have h := Txt.dig_len (l := t.data.toList.drop (d + 1)) (most := 3) (by rw [hy.out]; omega)
            rw [List.length_drop, size_len] at h
            omega
          obtain ⟨j0, hj0⟩ : ∃ j0 : Nat, t.size = d + 1 + j0 := ⟨t.size - d - 1, by omega⟩
          obtain ⟨P, hP⟩ : ∃ P : Int, Hid (y * 10 ^ (3 - j0) = P) := ⟨_, rfl⟩
          have hPb : 0 ≤ P ∧ P ≤ 999 := by
            have h := Txt.part_bd (l := t.data.toList.drop (d + 1)) (by rw [hy.out]; omega)
            rw [List.length_drop, size_len, hy.out, show t.size - (d + 1) = j0 from by omega, hP.out] at h
            exact h
          have HZ : Hid (t.size = d + 1 + j0) := hj0
          have hlt2 : j0 ≤ 3 ∧ 1 ≤ j0 := by omega
          have hk0 : (t.size : Int) - (d : Int) - 1 = (j0 : Int) := by omega
          clear hj0
          go_wp2_with fail
          refine (c1 _).mono ?_
          rintro e w' ⟨rfl, rfl⟩
          go_wp2_with fail
          refine (c2 _).mono ?_
          rintro e w' ⟨rfl, rfl⟩
          go_wp2
          go_loop [6, 7] (fun pp i => ∃ j : Nat, ∃ p : Int, j ≤ 3 ∧ pp = .int .i64 p ∧ i = .int .i64 j ∧ 0 ≤ p ∧ p ≤ 999 ∧ Hid (p * 10 ^ (3 - j) = P)) (fun _ i => 3 - (intOf i).toNat)
          case atStart => exact ⟨j0, y, hlt2.1, rfl, rfl, by omega, by omega, hP⟩
          case round =>
            obtain ⟨j, p, hj, rfl, rfl, hp0, hp1, HP⟩ := hrel
            by_cases hj3 : j < 3
            · have hp2 : 10 * p ≤ 999 ∧ Hid (10 * p * 10 ^ (3 - (j + 1)) = P) := by
                have h := HP.out
                have hj' : j = 0 ∨ j = 1 ∨ j = 2 := by omega
                refine ⟨?_, ?_⟩
                · rcases hj' with rfl | rfl | rfl <;> omega
                · show _ = _
                  rcases hj' with rfl | rfl | rfl <;> omega
              go_wp2
              go_round
              case rel => exact ⟨j + 1, 10 * p, by omega, rfl, by go_num, by omega, hp2.1, hp2.2⟩
              case measure => simp [intOf]; omega
            · have hpP : Hid (p = P) := by
                have h := HP.out
                obtain rfl : j = 3 := by omega
                show _ = _
                omega
              have HL : Hid (y * 10 ^ (3 - (t.data.toList.length - d - 1)) = p) := by
                show _ = _
                rw [size_len, HZ.out, show d + 1 + j0 - d - 1 = j0 from by omega, hP.out, hpP.out]
              by_cases hm : p % 250 = 0
              · have HN : Hid (4 * x + p / 250 = Txt.num t.data.toList) := (num_yes HD.out hx.out (by rw [size_len]; exact hz) hy.out (by omega) HL.out hm).symm
                have e5 : (p % 250 != 0) = false := by simpa using hm
                clear hm
                go_wp2
                go_ret
                exact ⟨congrArg (fun x => Ending.returned (Value.int .i64 x)) HN.out, rfl⟩
              · have HN : Hid (-1 = Txt.num t.data.toList) := (num_no HD.out hx.out (by rw [size_len]; exact hz) hy.out (by omega) HL.out hm).symm
                have e5 : (p % 250 != 0) = true := by simpa using hm
                go_wp2
                go_ret
                exact ⟨congrArg (fun x => Ending.returned (Value.int .i64 x)) HN.out, rfl⟩
end Go.Proofs.YtpcjgpgjjdlfdaaDoor
