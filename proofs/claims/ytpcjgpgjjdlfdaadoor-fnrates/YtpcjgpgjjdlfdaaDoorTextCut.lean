/- Contracts of strings.Cut at a point, strings.CutPrefix at a minus, readQuarters, and of RateOf and its model. Condition: the text is no longer than a text can be. -/
import Derived.Test.YtpcjgpgjjdlfdaaDoorTextNum
import Derived.Lib.Bytealg
import Derived.Deep.QuietTactic
import Derived.BigQuiet
namespace Go.Proofs.YtpcjgpgjjdlfdaaDoor
open Go.ChangeShapes Go.WideShapes Go.ChangeAt Go.RowKit
set_option linter.unusedVariables false

theorem index_dot : ∀ l : List UInt8, Lib.indexByte l 46 = if Txt.dot l < l.length then ((Txt.dot l : Nat) : Int) else -1
  | [] => by decide
  | b :: l => by
    have ih := index_dot l
    unfold Txt.dot at *
    rw [show Lib.indexByte (b :: l) 46 = if (b == 46) = true then 0 else if (Lib.indexByte l 46 == -1) = true then -1 else Lib.indexByte l 46 + 1 from rfl, List.findIdx_cons]
    by_cases h : (b == 46) = true
    · simp [h]
    · have h' : (b == 46) = false := by simpa using h
      simp only [h', cond_false, Bool.false_eq_true, if_false, List.length_cons]
      generalize List.findIdx (· == 46) l = f at ih ⊢
      by_cases h2 : f < l.length
      · rw [if_pos h2] at ih
        have hne : (((f : Nat) : Int) == -1) = false := by simp
        rw [ih]
        simp only [hne, Bool.false_eq_true, if_false]
        rw [if_pos (by omega)]; omega
      · rw [if_neg h2] at ih
        rw [ih]
        simp only [show ((-1 : Int) == -1) = true from rfl, if_true]
        rw [if_neg (by omega)]

theorem eq_of_toList {t : ByteArray} {l : List UInt8} (h : (t.toList == l) = true) : t.data.toList = l := by
  rw [Lib.toList_data] at h; simpa using h
theorem eq_of_toList' {t : ByteArray} {l : List UInt8} (h : (l == t.toList) = true) : t.data.toList = l := by
  rw [Lib.toList_data] at h; simpa using (eq_of_beq h).symm

def negB (t : ByteArray) : Bool := if h : 0 < t.size then t[0].toNat == 45 else false
def restT (t : ByteArray) : ByteArray := if negB t then t.extract 1 t.size else t
theorem rest_size (t : ByteArray) : (restT t).size ≤ t.size := by
  unfold restT; split
  · rw [ext_size _ _ _ (Nat.le_refl _)]; omega
  · exact Nat.le_refl _
theorem head_eq {t : ByteArray} (h : 0 < t.size) : ((t.extract 0 1).toList == [45]) = (t[0].toNat == 45) := by
  rw [Lib.toList_data, ext_head, take_snoc t 0 h, List.take_zero, List.nil_append]
  rw [Bool.eq_iff_iff]
  simp only [beq_iff_eq, List.cons.injEq, and_true]
  exact ⟨fun e => by rw [e]; rfl, fun e => UInt8.toNat.inj e⟩

theorem idx_x (s : ByteArray) (c : Int) (w : World) : (callFunc 78 #[.string s, .int .u8 c]).run Tryd.prog w = .ok (.value (.int .i64 (Lib.indexByte s.data.toList c.toNat.toUInt8))) w := by
  rw [run_callFunc_extern Tryd.func78 (by kernel_rfl) (by kernel_rfl) (by kernel_rfl) (show Extern.find _ = some Extern.BytealgIndexByte.indexByte by kernel_rfl), Lib.run_indexByteString]
  rfl
theorem indexDot_c (t : ByteArray) (w : World) :
    Calls Tryd.prog 66 #[.string t, .string ⟨#[46]⟩] w fun e w' => e = .returned (.int .i64 (Lib.indexByte t.data.toList 46)) ∧ w' = w := by
  have x := idx_x
  by_cases h : ([46] == t.toList) = true
  · have HE : Hid ((0 : Int) = Lib.indexByte t.data.toList 46) := by
      show _ = _
      rw [eq_of_toList' h]; rfl
    go_enter Tryd.func66, Tryd.ntmps66
    go_wp2
    go_ret
    exact ⟨congrArg (fun x => Ending.returned (Value.int .i64 x)) HE.out, rfl⟩
  · have h' : ([46] == t.toList) = false := by simpa using h
    go_enter Tryd.func66, Tryd.ntmps66
    go_wp2
    go_ret
    exact ⟨rfl, rfl⟩
theorem lcut_yes (t : ByteArray) (w : World) (ht : t.size ≤ maxLen) (h : Txt.dot t.data.toList < t.size) :
    Calls Tryd.prog 58 #[.string t, .string ⟨#[46]⟩] w fun e w' => e = .returned (.tuple #[.string (t.extract 0 (Txt.dot t.data.toList)), .string (t.extract (Txt.dot t.data.toList + 1) t.size), .bool true]) ∧ ∃ n, w' = w.drewN n := by
  unfold maxLen at ht
  have c := fun w => indexDot_c t w
  have hi := index_dot t.data.toList
  rw [size_len, if_pos h] at hi
  rw [hi] at c
  clear hi
  generalize Txt.dot t.data.toList = d at *
  have hd2 : d + 1 ≤ t.size := by omega
  have hd3 : d ≤ t.size := by omega
  go_enter Tryd.func58, Tryd.ntmps58
  go_wp2_with (first | (go_at_call 66; refine (c _).mono ?_; rintro e w' ⟨rfl, rfl⟩))
  go_quiet (fail)
  go_wp2
  go_ret3
  exact ⟨rfl, _, rfl⟩
theorem lcut_no (t : ByteArray) (w : World) (ht : t.size ≤ maxLen) (h : Txt.dot t.data.toList = t.size) :
    Calls Tryd.prog 58 #[.string t, .string ⟨#[46]⟩] w fun e w' => e = .returned (.tuple #[.string t, .string ⟨#[]⟩, .bool false]) ∧ w' = w := by
  have c := fun w => indexDot_c t w
  have hi := index_dot t.data.toList
  rw [size_len, if_neg (by omega)] at hi
  rw [hi] at c
  clear hi h
  go_enter Tryd.func58, Tryd.ntmps58
  go_wp2_with (first | (go_at_call 66; refine (c _).mono ?_; rintro e w' ⟨rfl, rfl⟩))
  go_ret3
  exact ⟨rfl, rfl⟩
theorem cut_yes (t : ByteArray) (w : World) (ht : t.size ≤ maxLen) (h : Txt.dot t.data.toList < t.size) :
    Calls Tryd.prog 49 #[.string t, .string ⟨#[46]⟩] w fun e w' => e = .returned (.tuple #[.string (t.extract 0 (Txt.dot t.data.toList)), .string (t.extract (Txt.dot t.data.toList + 1) t.size), .bool true]) ∧ ∃ n, w' = w.drewN n := by
  have c := fun w => lcut_yes t w ht h
  go_enter Tryd.func49, Tryd.ntmps49
  go_wp2_with (first | (go_at_call 58; refine (c _).mono ?_; rintro e w' ⟨rfl, n, rfl⟩))
  go_ret3
  exact ⟨rfl, _, rfl⟩
theorem cut_no (t : ByteArray) (w : World) (ht : t.size ≤ maxLen) (h : Txt.dot t.data.toList = t.size) :
    Calls Tryd.prog 49 #[.string t, .string ⟨#[46]⟩] w fun e w' => e = .returned (.tuple #[.string t, .string ⟨#[]⟩, .bool false]) ∧ w' = w := by
  have c := fun w => lcut_no t w ht h
  clear h
  go_enter Tryd.func49, Tryd.ntmps49
  go_wp2_with (first | (go_at_call 58; refine (c _).mono ?_; rintro e w' ⟨rfl, rfl⟩))
  go_ret3
  exact ⟨rfl, rfl⟩
theorem cutPrefix_c (t : ByteArray) (w : World) (ht : t.size ≤ maxLen) :
    Calls Tryd.prog 23 #[.string t, .string ⟨#[45]⟩] w fun e w' => e = .returned (.tuple #[.string (restT t), .bool (negB t)]) ∧ w' = w := by
  unfold maxLen at ht
  by_cases h0 : 0 < t.size
  · have hh := head_eq h0
    have h1 : 1 ≤ (t.size : Int) := by omega
    by_cases hb : (t[0].toNat == 45) = true
    · have hn : negB t = true := by unfold negB; rw [dif_pos h0]; exact hb
      have e : restT t = t.extract 1 t.size := by unfold restT; rw [hn]; rfl
      rw [hn, e]
      rw [hb] at hh
      clear hb hn e
      go_enter Tryd.func23, Tryd.ntmps23
      go_wp2
      go_ret2
      exact ⟨rfl, rfl⟩
    · have hb' : (t[0].toNat == 45) = false := by simpa using hb
      have hn : negB t = false := by unfold negB; rw [dif_pos h0]; exact hb'
      have e : restT t = t := by unfold restT; rw [hn]; rfl
      rw [hn, e]
      rw [hb'] at hh
      clear hb hb' hn e
      go_enter Tryd.func23, Tryd.ntmps23
      go_wp2
      go_ret2
      exact ⟨rfl, rfl⟩
  · have h1 : (t.size : Int) < 1 := by omega
    have hn : negB t = false := by unfold negB; rw [dif_neg h0]
    have e : restT t = t := by unfold restT; rw [hn]; rfl
    rw [hn, e]
    clear hn e h0
    go_enter Tryd.func23, Tryd.ntmps23
    go_wp2
    go_ret2
    exact ⟨rfl, rfl⟩
set_option maxHeartbeats 2000000 in
theorem readQuarters_c (t : ByteArray) (w : World) (ht : t.size ≤ maxLen) :
    Calls Tryd.prog 26 #[.string t] w fun e w' => (∃ v : Int, e = .returned (.tuple #[.int .i64 v, .bool (decide (0 ≤ Txt.num t.data.toList))]) ∧ (0 ≤ Txt.num t.data.toList → v = Txt.num t.data.toList)) ∧ ∃ n, w' = w.drewN n := by
  have hdl := Txt.dot_le t.data.toList
  rw [size_len] at hdl
  obtain ⟨d, HD⟩ : ∃ d, Hid (Txt.dot t.data.toList = d) := ⟨_, rfl⟩
  rw [HD.out] at hdl
  obtain ⟨x, hx⟩ : ∃ x, Hid (Txt.dig (t.data.toList.take d) 4 = x) := ⟨_, rfl⟩
  have hxb : -1 ≤ x ∧ x < 10000 := by have := Txt.dig_bd (t.data.toList.take d) 4; rw [hx.out] at this; omega
  by_cases hd : d = t.size
  · have k1 := cut_no t w ht (by rw [HD.out, hd])
    have HN : Hid (Txt.num t.data.toList = 4 * x) := num_head HD.out hx.out (by rw [size_len]; exact .inr hd)
    have c1 := readDigits_c t 4 w ht (by omega)
    have ex : Txt.dig t.data.toList 4 = x := by rw [← hx.out, hd, take_all t t.size (Nat.le_refl _)]
    rw [ex] at c1
    clear hd ex
    by_cases hx0 : x < 0
    · obtain rfl : x = -1 := by omega
      rw [rdV_no] at c1
      go_enter Tryd.func26, Tryd.ntmps26
      go_wp2_with fail
      refine k1.mono ?_
      rintro e w' ⟨rfl, rfl⟩
      go_wp2_with fail
      refine c1.mono ?_
      rintro e w' ⟨rfl, rfl⟩
      go_wp2
      go_ret2
      exact ⟨⟨0, by rw [HN.out]; rfl, by rw [HN.out]; omega⟩, 0, rfl⟩
    · rw [rdV_yes (by omega)] at c1
      go_enter Tryd.func26, Tryd.ntmps26
      go_wp2_with fail
      refine k1.mono ?_
      rintro e w' ⟨rfl, rfl⟩
      go_wp2_with fail
      refine c1.mono ?_
      rintro e w' ⟨rfl, rfl⟩
      go_wp2
      go_ret2
      exact ⟨⟨4 * x, by rw [HN.out, decide_eq_true (show 0 ≤ 4 * x by omega)]; rfl, by rw [HN.out]; exact fun _ => rfl⟩, 0, rfl⟩
  · have k1 := cut_yes t w ht (by rw [HD.out]; omega)
    rw [HD.out] at k1
    have c1 := fun w => readDigits_c (t.extract 0 d) 4 w (by rw [ext_size t 0 d hdl]; omega) (by omega)
    rw [ext_head, hx.out] at c1
    by_cases hx0 : x < 0
    · have HN : Hid (Txt.num t.data.toList = 4 * x) := num_head HD.out hx.out (.inl hx0)
      obtain rfl : x = -1 := by omega
      rw [rdV_no] at c1
      go_enter Tryd.func26, Tryd.ntmps26
      go_wp2_with fail
      refine k1.mono ?_
      rintro e w' ⟨rfl, nq, rfl⟩
      go_wp2_with fail
      refine (c1 _).mono ?_
      rintro e w' ⟨rfl, rfl⟩
      go_wp2
      go_ret2
      exact ⟨⟨0, by rw [HN.out]; rfl, by rw [HN.out]; omega⟩, nq, rfl⟩
    · have hz : ¬ (x < 0 ∨ d = t.data.toList.length) := by rw [size_len]; omega
      rw [rdV_yes (by omega)] at c1
      obtain ⟨y, hy⟩ : ∃ y, Hid (Txt.dig (t.data.toList.drop (d + 1)) 3 = y) := ⟨_, rfl⟩
      have hyb : -1 ≤ y ∧ y < 1000 := by have := Txt.dig_bd (t.data.toList.drop (d + 1)) 3; rw [hy.out] at this; omega
      have hsz := ext_size t (d + 1) t.size (Nat.le_refl _)
      have c2 := fun w => readDigits_c (t.extract (d + 1) t.size) 3 w (by rw [hsz]; omega) (by omega)
      rw [ext_tail, hy.out] at c2
      obtain ⟨n, hn⟩ : ∃ n : Nat, (t.extract (d + 1) t.size).size = n := ⟨_, rfl⟩
      have hnb : n ≤ maxLen := by rw [← hn, hsz]; omega
      unfold maxLen at hnb
      have HZ : Hid (t.size - d - 1 = n) := by show _ = _; rw [← hn, hsz]; omega
      clear hsz
      by_cases hy0 : y < 0
      · have HN : Hid (Txt.num t.data.toList = -1) := num_bad HD.out hx.out hz hy.out hy0
        obtain rfl : y = -1 := by omega
        rw [rdV_no] at c2
        go_enter Tryd.func26, Tryd.ntmps26
        go_wp2_with fail
        refine k1.mono ?_
        rintro e w' ⟨rfl, nq, rfl⟩
        go_wp2_with fail
        refine (c1 _).mono ?_
        rintro e w' ⟨rfl, rfl⟩
        go_wp2_with fail
        refine (c2 _).mono ?_
        rintro e w' ⟨rfl, rfl⟩
        go_wp2
        go_loop [9, 38] (fun pp i => ∃ j : Int, pp = .int .i64 0 ∧ i = .int .i64 j ∧ 0 ≤ j ∧ j ≤ 3) (fun _ i => (3 - intOf i).toNat)
        case atStart => exact ⟨0, rfl, rfl, by omega, by omega⟩
        case round =>
          obtain ⟨j, rfl, rfl, hj0, hj1⟩ := hrel
          by_cases hlt : j < 3 - (n : Int)
          · go_wp2
            go_round
            case rel => exact ⟨j + 1, rfl, rfl, by omega, by omega⟩
            case measure => simp [intOf]; omega
          · go_wp2
            go_ret2
            exact ⟨⟨4 * x, by rw [HN.out]; first | rfl | go_num, by rw [HN.out]; omega⟩, nq, rfl⟩
      · have hlen : 1 ≤ n ∧ n ≤ 3 := by
          have h := Txt.dig_len (l := t.data.toList.drop (d + 1)) (most := 3) (by rw [hy.out]; omega)
          rw [List.length_drop, size_len] at h
          have := HZ.out
          omega
        obtain ⟨P, hP⟩ : ∃ P : Int, Hid (y * 10 ^ (3 - n) = P) := ⟨_, rfl⟩
        have hPb : 0 ≤ P ∧ P ≤ 999 := by
          have h := Txt.part_bd (l := t.data.toList.drop (d + 1)) (by rw [hy.out]; omega)
          rw [List.length_drop, size_len, hy.out, show t.size - (d + 1) = n from by have := HZ.out; omega, hP.out] at h
          exact h
        have HL : Hid (y * 10 ^ (3 - (t.data.toList.length - d - 1)) = P) := by
          show _ = _
          rw [size_len, HZ.out, hP.out]
        rw [rdV_yes (by omega)] at c2
        go_enter Tryd.func26, Tryd.ntmps26
        go_wp2_with fail
        refine k1.mono ?_
        rintro e w' ⟨rfl, nq, rfl⟩
        go_wp2_with fail
        refine (c1 _).mono ?_
        rintro e w' ⟨rfl, rfl⟩
        go_wp2_with fail
        refine (c2 _).mono ?_
        rintro e w' ⟨rfl, rfl⟩
        go_wp2
        go_loop [9, 38] (fun pp i => ∃ j : Nat, ∃ p : Int, j ≤ 3 - n ∧ pp = .int .i64 p ∧ i = .int .i64 j ∧ 0 ≤ p ∧ p ≤ 999 ∧ Hid (p * 10 ^ (3 - n - j) = P)) (fun _ i => 3 - (intOf i).toNat)
        case atStart => exact ⟨0, y, by omega, rfl, rfl, by omega, by omega, hP⟩
        case round =>
          obtain ⟨j, p, hj, rfl, rfl, hp0, hp1, HP⟩ := hrel
          by_cases hlt : j < 3 - n
          · have hp2 : p * 10 ≤ 999 ∧ Hid (p * 10 * 10 ^ (3 - n - (j + 1)) = P) := by
              have h := HP.out
              have hj' : (3 - n - j = 1 ∧ 3 - n - (j + 1) = 0) ∨ (3 - n - j = 2 ∧ 3 - n - (j + 1) = 1) := by omega
              refine ⟨?_, ?_⟩
              · rcases hj' with ⟨h1, h2⟩ | ⟨h1, h2⟩ <;> rw [h1] at h <;> omega
              · show _ = _
                rcases hj' with ⟨h1, h2⟩ | ⟨h1, h2⟩ <;> rw [h1] at h <;> rw [h2] <;> omega
            have hlt' : (j : Int) < 3 - (n : Int) := by omega
            go_wp2
            go_round
            case rel => exact ⟨j + 1, p * 10, by omega, rfl, by go_num, by omega, hp2.1, hp2.2⟩
            case measure => simp [intOf]; omega
          · have hpP : Hid (p = P) := by
              have h := HP.out
              rw [show 3 - n - j = 0 from by omega] at h
              show _ = _
              omega
            have hlt' : ¬ (j : Int) < 3 - (n : Int) := by omega
            by_cases hm : p % 250 = 0
            · have HN : Hid (Txt.num t.data.toList = 4 * x + p / 250) := num_yes HD.out hx.out hz hy.out (by omega) (by rw [HL.out, hpP.out]) hm
              have e5 : (p % 250 == 0) = true := by simpa using hm
              clear hm
              go_wp2
              go_ret2
              exact ⟨⟨4 * x + p / 250, by rw [HN.out, decide_eq_true (show 0 ≤ 4 * x + p / 250 by omega)]; rfl, by rw [HN.out]; exact fun _ => rfl⟩, nq, rfl⟩
            · have HN : Hid (Txt.num t.data.toList = -1) := num_no HD.out hx.out hz hy.out (by omega) (by rw [HL.out, hpP.out]) hm
              have e5 : (p % 250 == 0) = false := by simpa using hm
              go_wp2
              go_ret2
              exact ⟨⟨4 * x + p / 250, by rw [HN.out]; rfl, by rw [HN.out]; omega⟩, nq, rfl⟩
end Go.Proofs.YtpcjgpgjjdlfdaaDoor
