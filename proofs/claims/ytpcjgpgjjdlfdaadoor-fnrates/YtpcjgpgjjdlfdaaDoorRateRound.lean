/- A rate is read back from its text: plain arithmetic of chapter 2's texts. No condition beside those that each theorem names. -/
import Derived.Test.YtpcjgpgjjdlfdaaDoorGainText
namespace Go.Proofs.YtpcjgpgjjdlfdaaDoor
open Go.ChangeShapes Go.WideShapes Go.ChangeAt Go.RowKit
set_option linter.unusedVariables false

theorem dd_facts : ∀ (k u : Nat), u < 10 ^ (k + 1) → Txt.val (Lib.decDigits u) = (u : Int) ∧ (Lib.decDigits u).all Txt.isDig = true ∧ 1 ≤ (Lib.decDigits u).length
  | 0, u, h => by
    have hu : u < 10 := by omega
    have e : (UInt8.ofNat (48 + u)).toNat = 48 + u := by rw [UInt8.toNat_ofNat']; omega
    rw [Lib.decDigits, dif_pos hu]
    refine ⟨?_, ?_, by simp⟩
    · unfold Txt.val; simp only [List.foldl_cons, List.foldl_nil, e]; omega
    · simp only [List.all_cons, List.all_nil, Txt.isDig, e]; simp; omega
  | k + 1, u, h => by
    rw [Lib.decDigits]
    split
    · rename_i hu
      have e : (UInt8.ofNat (48 + u)).toNat = 48 + u := by rw [UInt8.toNat_ofNat']; omega
      refine ⟨?_, ?_, by simp⟩
      · unfold Txt.val; simp only [List.foldl_cons, List.foldl_nil, e]; omega
      · simp only [List.all_cons, List.all_nil, Txt.isDig, e]; simp; omega
    · obtain ⟨h1, h2, h3⟩ := dd_facts k (u / 10) (by rw [Nat.pow_succ] at h; omega)
      have e : (UInt8.ofNat (48 + u % 10)).toNat = 48 + u % 10 := by rw [UInt8.toNat_ofNat']; omega
      refine ⟨?_, ?_, by simp⟩
      · rw [Txt.val_snoc, h1, e]; omega
      · rw [List.all_append, h2]; simp only [List.all_cons, List.all_nil, Txt.isDig, e]; simp; omega

theorem dot_digits : ∀ (D X : List UInt8), D.all Txt.isDig = true → Txt.dot (D ++ X) = D.length + Txt.dot X
  | [], X, _ => by simp
  | c :: D, X, h => by
    rw [List.all_cons, Bool.and_eq_true] at h
    have hc : (c == 46) = false := by
      have h1 := h.1
      simp [Txt.isDig] at h1
      rw [beq_eq_false_iff_ne]
      intro e
      rw [e] at h1
      revert h1
      decide
    have ih := dot_digits D X h.2
    unfold Txt.dot at *
    rw [List.cons_append, List.findIdx_cons, hc, cond_false, ih, List.length_cons]
    omega
theorem dig_digits {D : List UInt8} {m : Nat} (h : D.all Txt.isDig = true) (h1 : 1 ≤ D.length) (h2 : D.length ≤ m) : Txt.dig D m = Txt.val D := by
  unfold Txt.dig; rw [if_neg (by omega), if_pos h]

theorem num_text {q : Nat} (hq : q ≤ 39999) : Txt.num (Lib.decDigits (q / 4) ++ qtx ((q % 4 : Nat) : Int)) = (q : Int) := by
  obtain ⟨h1, h2, h3⟩ := dd_facts 3 (q / 4) (by omega)
  have h4 := decDigits_len 3 (q / 4) (by omega)
  generalize Lib.decDigits (q / 4) = D at h1 h2 h3 h4
  have hr : q % 4 = 0 ∨ q % 4 = 1 ∨ q % 4 = 2 ∨ q % 4 = 3 := by omega
  have key : ∀ (Y : List UInt8) (y P : Int), Txt.dig Y 3 = y → 0 ≤ y → y * 10 ^ (3 - Y.length) = P → P % 250 = 0 → Txt.num (D ++ 46 :: Y) = 4 * ((q / 4 : Nat) : Int) + P / 250 := by
    intro Y y P hy hy0 hP hP2
    have hd : Txt.dot (D ++ 46 :: Y) = D.length := by rw [dot_digits _ _ h2]; simp [Txt.dot, List.findIdx_cons]
    have ht : (D ++ 46 :: Y).take D.length = D := List.take_left
    have hdr : (D ++ 46 :: Y).drop (D.length + 1) = Y := by rw [List.drop_append]; simp
    refine num_yes hd (by rw [ht]; exact (dig_digits h2 h3 h4).trans h1) ?_ (by rw [hdr]; exact hy) hy0 ?_ hP2
    · simp; omega
    · rw [← hP]; congr 2; simp
  rcases hr with e | e | e | e <;> rw [e]
  · have hx : qtx ((0 : Nat) : Int) = [] := rfl
    rw [hx, List.append_nil]
    have hd : Txt.dot D = D.length := by have := dot_digits D [] h2; simpa [Txt.dot] using this
    have := num_head (x := ((q / 4 : Nat) : Int)) hd (by rw [List.take_length]; exact (dig_digits h2 h3 h4).trans h1) (.inr rfl)
    rw [this]; omega
  · rw [show qtx ((1 : Nat) : Int) = 46 :: [50, 53] from rfl, key [50, 53] 25 250 (by decide) (by omega) (by decide) (by decide)]; omega
  · rw [show qtx ((2 : Nat) : Int) = 46 :: [53] from rfl, key [53] 5 500 (by decide) (by omega) (by decide) (by decide)]; omega
  · rw [show qtx ((3 : Nat) : Int) = 46 :: [55, 53] from rfl, key [55, 53] 75 750 (by decide) (by omega) (by decide) (by decide)]; omega

/-- How a text of bytes begins. -/
theorem rest_minus (l : List UInt8) : negB ⟨(45 :: l).toArray⟩ = true ∧ (restT ⟨(45 :: l).toArray⟩).data.toList = l := by
  have h0 : 0 < (⟨(45 :: l).toArray⟩ : ByteArray).size := by rw [size_mk]; simp
  have hn : negB ⟨(45 :: l).toArray⟩ = true := by unfold negB; rw [dif_pos h0]; rfl
  refine ⟨hn, ?_⟩
  unfold restT
  rw [hn]
  simp only [if_true]
  rw [ext_tail]
  simp
theorem rest_plain {c : UInt8} {l : List UInt8} (h : c.toNat ≠ 45) : negB ⟨(c :: l).toArray⟩ = false ∧ restT ⟨(c :: l).toArray⟩ = ⟨(c :: l).toArray⟩ := by
  have h0 : 0 < (⟨(c :: l).toArray⟩ : ByteArray).size := by rw [size_mk]; simp
  have hn : negB ⟨(c :: l).toArray⟩ = false := by
    unfold negB
    rw [dif_pos h0]
    show (c.toNat == 45) = false
    simpa using h
  exact ⟨hn, by unfold restT; rw [hn]; rfl⟩

theorem of_list {t : ByteArray} {q : Int} (h1 : (t.toList == [110, 97, 110]) = false) (h2 : ((restT t).toList == [105, 110, 102]) = false) (h3 : Txt.num (restT t).data.toList = q) (h4 : 0 ≤ q) : ofC t = 0 ∧ ofV t = sgn (negB t) (Rts.lb q.toNat) := by
  rcases of_cases t with ⟨k, _⟩ | ⟨_, k, _⟩ | ⟨_, _, k, _⟩ | ⟨_, _, _, e1, e2⟩
  · rw [h1] at k; cases k
  · rw [h2] at k; cases k
  · omega
  · exact ⟨e1, by rw [e2, h3]⟩

theorem of_nan {t : ByteArray} (h : (t.toList == [110, 97, 110]) = true) : ofC t = 0 ∧ ofV t = 9221120237041090560 := by
  unfold ofC ofV; rw [if_pos h, if_pos h]; exact ⟨rfl, rfl⟩
theorem of_inf {t : ByteArray} (h1 : (t.toList == [110, 97, 110]) = false) (h2 : ((restT t).toList == [105, 110, 102]) = true) : ofC t = 0 ∧ ofV t = sgn (negB t) 9218868437227405312 := by
  rcases of_cases t with ⟨k, _⟩ | ⟨_, _, e1, e2⟩ | ⟨_, k, _⟩ | ⟨_, k, _⟩
  · rw [h1] at k; cases k
  · exact ⟨e1, e2⟩
  · rw [h2] at k; cases k
  · rw [h2] at k; cases k
/-- The bits that are read back from a text of bits. -/
def canon (b : Int) : Int := if 9218868437227405312 < sz b then 9221120237041090560 else if sz b = 9218868437227405312 then sgn (decide (b < 0)) 9218868437227405312 else sgn (decide (b < 0)) (Rts.lb (Rts.qt (sz b)).toNat)

theorem digit_first {D : List UInt8} (h : D.all Txt.isDig = true) (h1 : 1 ≤ D.length) : ∃ c l, D = c :: l ∧ 48 ≤ c.toNat ∧ c.toNat ≤ 57 := by
  match D, h, h1 with
  | c :: l, h, _ =>
    rw [List.all_cons, Bool.and_eq_true] at h
    have := h.1
    simp [Txt.isDig] at this
    exact ⟨c, l, rfl, this⟩

theorem text_back (b : Int) (hc : rtC b = 0) : ofC (rtS b) = 0 ∧ ofV (rtS b) = canon b := by
  have q1 := Rts.qt_bd (sz b)
  unfold canon rtS
  rcases rt_cases b with ⟨h1, _, e⟩ | ⟨h1, _, e⟩ | ⟨_, _, e, _⟩ | ⟨h1, h2, _, e⟩
  · rw [e, if_pos h1]; exact of_nan (by rw [Lib.toList_data]; rfl)
  · rw [e, if_neg (by omega), if_pos h1]
    rcases sg_cases b with ⟨h, e⟩ | ⟨h, e⟩ <;> rw [e]
    · rw [decide_eq_true h]
      obtain ⟨r1, r2⟩ := rest_minus [105, 110, 102]
      have := of_inf (t := ⟨(45 :: [105, 110, 102]).toArray⟩) (by rw [Lib.toList_data]; rfl) (by rw [Lib.toList_data, r2]; rfl)
      rw [r1] at this
      exact this
    · rw [decide_eq_false h]
      obtain ⟨r1, r2⟩ := rest_plain (c := 105) (l := [110, 102]) (by decide)
      have := of_inf (t := ⟨(105 :: [110, 102]).toArray⟩) (by rw [Lib.toList_data]; rfl) (by rw [r2, Lib.toList_data]; rfl)
      rw [r1] at this
      exact this
  · rw [e] at hc; cases hc
  · rw [e, if_neg (by omega), if_neg (by omega)]
    obtain ⟨q, hq⟩ : ∃ q : Nat, Rts.qt (sz b) = (q : Int) := ⟨(Rts.qt (sz b)).toNat, by omega⟩
    rw [hq, Int.toNat_natCast, show ((q : Int) / 4).toNat = q / 4 from by omega, show (q : Int) % 4 = ((q % 4 : Nat) : Int) from by omega]
    have hn := num_text (q := q) (by omega)
    obtain ⟨d1, d2, d3⟩ := dd_facts 3 (q / 4) (by omega)
    obtain ⟨c, l, hD, hc1, hc2⟩ := digit_first d2 d3
    obtain ⟨L, hL⟩ : ∃ L, Lib.decDigits (q / 4) ++ qtx ((q % 4 : Nat) : Int) = c :: L := ⟨l ++ qtx ((q % 4 : Nat) : Int), by rw [hD]; rfl⟩
    rw [List.append_assoc, hL]
    rw [hL] at hn
    rcases sg_cases b with ⟨h, e⟩ | ⟨h, e⟩ <;> rw [e]
    · obtain ⟨r1, r2⟩ := rest_minus (c :: L)
      have := of_list (t := ⟨([45] ++ c :: L).toArray⟩) (q := (q : Int)) (by rw [Lib.toList_data]; rfl) ?_ (by show Txt.num (restT ⟨(45 :: c :: L).toArray⟩).data.toList = _; rw [r2]; exact hn) (by omega)
      · rw [Int.toNat_natCast] at this
        rw [decide_eq_true h]
        exact ⟨this.1, this.2.trans (by show sgn (negB ⟨(45 :: c :: L).toArray⟩) _ = _; rw [r1])⟩
      · show ((restT ⟨(45 :: c :: L).toArray⟩).toList == [105, 110, 102]) = false
        rw [Lib.toList_data, r2, beq_eq_false_iff_ne]
        intro e
        injection e with e1 _
        rw [e1] at hc2
        revert hc2; decide
    · obtain ⟨r1, r2⟩ := rest_plain (c := c) (l := L) (by omega)
      have := of_list (t := ⟨([] ++ c :: L).toArray⟩) (q := (q : Int)) ?_ ?_ (by show Txt.num (restT ⟨(c :: L).toArray⟩).data.toList = _; rw [r2]; exact hn) (by omega)
      · rw [Int.toNat_natCast] at this
        rw [decide_eq_false h]
        exact ⟨this.1, this.2.trans (by show sgn (negB ⟨(c :: L).toArray⟩) _ = _; rw [r1])⟩
      · rw [Lib.toList_data, beq_eq_false_iff_ne]
        intro e
        injection e with e1 _
        rw [e1] at hc2
        revert hc2; decide
      · show ((restT ⟨(c :: L).toArray⟩).toList == [105, 110, 102]) = false
        rw [r2, Lib.toList_data, beq_eq_false_iff_ne]
        intro e
        injection e with e1 _
        rw [e1] at hc2
        revert hc2; decide

theorem sz_sgn {r : Nat} (m : Bool) (hr : r < 9223372036854775808) : sz (sgn m r) = (r : Int) := by unfold sgn sz; cases m <;> simp <;> omega
theorem neg_sgn {r : Nat} (m : Bool) (hr : r < 9223372036854775808) : decide (sgn m r < 0) = m := by unfold sgn; cases m <;> simp <;> omega

/-- What was read from a text is what is read back from its text. -/
theorem canon_of (t : ByteArray) (h : ofC t = 0) : rtC (ofV t) = 0 ∧ canon (ofV t) = ofV t := by
  have hn := Txt.num_bd (restT t).data.toList
  rcases of_cases t with ⟨_, _, e⟩ | ⟨_, _, _, e⟩ | ⟨_, _, _, k, e⟩ | ⟨_, _, k, _, e⟩
  · rw [e]; exact ⟨by decide, by decide⟩
  · rw [e]
    have s1 := sz_sgn (r := 9218868437227405312) (negB t) (by omega)
    have n1 := neg_sgn (r := 9218868437227405312) (negB t) (by omega)
    unfold rtC canon
    rw [s1, n1]
    exact ⟨rfl, rfl⟩
  · omega
  · obtain ⟨q, hq⟩ : ∃ q : Nat, Txt.num (restT t).data.toList = (q : Int) := ⟨(Txt.num (restT t).data.toList).toNat, by omega⟩
    rw [e, hq, Int.toNat_natCast]
    have hl := Rts.lb_lt (q := q) (by omega)
    have hq2 := Rts.qt_lb (q := q) (by omega)
    unfold rtC canon
    rw [sz_sgn (r := Rts.lb q) (negB t) (by omega), neg_sgn (r := Rts.lb q) (negB t) (by omega), hq2, Int.toNat_natCast, if_neg (by omega), if_neg (by omega), if_neg (by omega), if_neg (by omega)]
    exact ⟨rfl, rfl⟩
/-- The text of what is read back is the text. -/
theorem text_canon (b : Int) (h : rtC b = 0) : rtS (canon b) = rtS b := by
  have q1 := Rts.qt_bd (sz b)
  have sgd : ∀ x : Int, decide (x < 0) = decide (b < 0) → sgx x = sgx b := by
    intro x hx
    rw [decide_eq_decide] at hx
    unfold sgx
    by_cases k : b < 0
    · rw [if_pos k, if_pos (hx.2 k)]
    · rw [if_neg k, if_neg (fun y => k (hx.1 y))]
  unfold rtS
  congr 2
  rcases rt_cases b with ⟨h1, _, e⟩ | ⟨h1, _, e⟩ | ⟨_, _, k, _⟩ | ⟨h1, h2, _, e⟩
  · rw [e]
    have : canon b = 9221120237041090560 := by unfold canon; rw [if_pos h1]
    rw [this]; rfl
  · have hc : canon b = sgn (decide (b < 0)) 9218868437227405312 := by unfold canon; rw [if_neg (by omega), if_pos h1]
    have s1 := sz_sgn (r := 9218868437227405312) (decide (b < 0)) (by omega)
    have n1 := neg_sgn (r := 9218868437227405312) (decide (b < 0)) (by omega)
    rw [← hc] at s1 n1
    rw [e]
    unfold rtT
    rw [s1, if_neg (by omega), if_pos (by omega), sgd _ n1]
  · rw [k] at h; cases h
  · obtain ⟨q, hq⟩ : ∃ q : Nat, Rts.qt (sz b) = (q : Int) := ⟨(Rts.qt (sz b)).toNat, by omega⟩
    have hc : canon b = sgn (decide (b < 0)) (Rts.lb q) := by unfold canon; rw [if_neg (by omega), if_neg (by omega), hq, Int.toNat_natCast]
    have hl := Rts.lb_lt (q := q) (by omega)
    have hq2 := Rts.qt_lb (q := q) (by omega)
    have s1 := sz_sgn (r := Rts.lb q) (decide (b < 0)) (by omega)
    have n1 := neg_sgn (r := Rts.lb q) (decide (b < 0)) (by omega)
    rw [← hc] at s1 n1
    rw [e, hq]
    unfold rtT
    rw [s1, hq2, if_neg (by omega), if_neg (by omega), if_neg (by omega), sgd _ n1]
theorem rtC_canon (b : Int) (h : rtC b = 0) : -9223372036854775808 ≤ canon b ∧ canon b < 9223372036854775808 := by
  rw [← (text_back b h).2]; exact ofV_bd _
theorem parts_back {m : Bool} {wh qu : Int} (h : rbC wh qu = 0) : partsA (rbV m wh qu) = #[.int .i64 0, .bool m, .int .i64 wh, .int .i64 qu] ∧ -9223372036854775808 ≤ rbV m wh qu ∧ rbV m wh qu < 9223372036854775808 := by
  rcases rb_cases m wh qu with ⟨_, k, _⟩ | ⟨_, _, k, _⟩ | ⟨_, _, _, k, _⟩ | ⟨_, _, _, _, k, _⟩ | ⟨h1, h2, h3, h4, _, e⟩
  · rw [k] at h; cases h
  · rw [k] at h; cases h
  · rw [k] at h; cases h
  · rw [k] at h; cases h
  · obtain ⟨q, hq⟩ : ∃ q : Nat, 4 * wh + qu = (q : Int) := ⟨(4 * wh + qu).toNat, by omega⟩
    rw [e, hq, Int.toNat_natCast]
    have hl := Rts.lb_lt (q := q) (by omega)
    have hq2 := Rts.qt_lb (q := q) (by omega)
    refine ⟨?_, sgn_range m (by omega)⟩
    unfold partsA
    rw [sz_sgn (r := Rts.lb q) m (by omega), neg_sgn (r := Rts.lb q) m (by omega), hq2, if_neg (by omega), if_neg (by omega), show (q : Int) / 4 = wh from by omega, show (q : Int) % 4 = qu from by omega]
end Go.Proofs.YtpcjgpgjjdlfdaaDoor
