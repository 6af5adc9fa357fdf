/- Contracts of RateOf and of its model: both answer what one plain function of the text says. Condition: the text is no longer than a text can be. -/
import Derived.Test.YtpcjgpgjjdlfdaaDoorTextCut
import Derived.Below
namespace Go.Proofs.YtpcjgpgjjdlfdaaDoor
open Go.ChangeShapes Go.WideShapes Go.ChangeAt Go.RowKit
set_option linter.unusedVariables false

def ofC (t : ByteArray) : Int := if t.toList == [110, 97, 110] then 0 else if (restT t).toList == [105, 110, 102] then 0 else if Txt.num (restT t).data.toList < 0 then 5 else 0
def ofV (t : ByteArray) : Int := if t.toList == [110, 97, 110] then 9221120237041090560 else if (restT t).toList == [105, 110, 102] then sgn (negB t) 9218868437227405312 else if Txt.num (restT t).data.toList < 0 then 0 else sgn (negB t) (Rts.lb (Txt.num (restT t).data.toList).toNat)
theorem of_cases (t : ByteArray) :
    ((t.toList == [110, 97, 110]) = true ∧ ofC t = 0 ∧ ofV t = 9221120237041090560) ∨
    ((t.toList == [110, 97, 110]) = false ∧ ((restT t).toList == [105, 110, 102]) = true ∧ ofC t = 0 ∧ ofV t = sgn (negB t) 9218868437227405312) ∨
    ((t.toList == [110, 97, 110]) = false ∧ ((restT t).toList == [105, 110, 102]) = false ∧ Txt.num (restT t).data.toList < 0 ∧ ofC t = 5 ∧ ofV t = 0) ∨
    ((t.toList == [110, 97, 110]) = false ∧ ((restT t).toList == [105, 110, 102]) = false ∧ 0 ≤ Txt.num (restT t).data.toList ∧ ofC t = 0 ∧ ofV t = sgn (negB t) (Rts.lb (Txt.num (restT t).data.toList).toNat)) := by
  unfold ofC ofV
  by_cases h1 : (t.toList == [110, 97, 110]) = true
  · exact .inl ⟨h1, by rw [if_pos h1], by rw [if_pos h1]⟩
  · have h1' : (t.toList == [110, 97, 110]) = false := by simpa using h1
    by_cases h2 : ((restT t).toList == [105, 110, 102]) = true
    · exact .inr (.inl ⟨h1', h2, by rw [if_neg h1, if_pos h2], by rw [if_neg h1, if_pos h2]⟩)
    · have h2' : ((restT t).toList == [105, 110, 102]) = false := by simpa using h2
      by_cases h3 : Txt.num (restT t).data.toList < 0
      · exact .inr (.inr (.inl ⟨h1', h2', h3, by rw [if_neg h1, if_neg h2, if_pos h3], by rw [if_neg h1, if_neg h2, if_pos h3]⟩))
      · exact .inr (.inr (.inr ⟨h1', h2', by omega, by rw [if_neg h1, if_neg h2, if_neg h3], by rw [if_neg h1, if_neg h2, if_neg h3]⟩))

/-- Which of the three ways a text begins. -/
theorem neg_cases (t : ByteArray) :
    (∃ h : 0 < t.size, (((t[0].toNat : Nat) : Int) == 45) = true ∧ negB t = true ∧ restT t = t.extract 1 t.size) ∨
    (∃ h : 0 < t.size, (((t[0].toNat : Nat) : Int) == 45) = false ∧ negB t = false ∧ restT t = t) ∨
    (¬ 0 < t.size ∧ negB t = false ∧ restT t = t) := by
  by_cases h0 : 0 < t.size
  · have e : (((t[0].toNat : Nat) : Int) == 45) = (t[0].toNat == 45) := by rw [Bool.eq_iff_iff]; simp; omega
    by_cases hb : (t[0].toNat == 45) = true
    · have hn : negB t = true := by unfold negB; rw [dif_pos h0]; exact hb
      exact .inl ⟨h0, by rw [e]; exact hb, hn, by unfold restT; rw [hn]; rfl⟩
    · have hb' : (t[0].toNat == 45) = false := by simpa using hb
      have hn : negB t = false := by unfold negB; rw [dif_pos h0]; exact hb'
      exact .inr (.inl ⟨h0, by rw [e]; exact hb', hn, by unfold restT; rw [hn]; rfl⟩)
  · have hn : negB t = false := by unfold negB; rw [dif_neg h0]
    exact .inr (.inr ⟨h0, hn, by unfold restT; rw [hn]; rfl⟩)

set_option maxHeartbeats 2000000 in
theorem l2Of_c (t : ByteArray) (w : World) (ht : t.size ≤ maxLen) :
    Calls Tryd.prog 37 #[.string t] w fun e w' => e = .returned (.tuple #[.int .i64 (ofV t), .bool (ofC t == 0)]) ∧ w' = w := by
  have hr := Nat.le_trans (rest_size t) ht
  rcases of_cases t with ⟨h1, e1, e2⟩ | ⟨h1, h2, e1, e2⟩ | ⟨h1, h2, h3, e1, e2⟩ | ⟨h1, h2, h3, e1, e2⟩ <;> rw [e1, e2] <;> clear e1 e2
  · go_enter Tryd.func37, Tryd.ntmps37
    go_wp2
    go_ret2
    exact ⟨rfl, rfl⟩
  · have c1 := fun w => l2Sign_c 9218868437227405312 (negB t) w (by omega)
    rcases neg_cases t with ⟨h0, n1, n2, n3⟩ | ⟨h0, n1, n2, n3⟩ | ⟨h0, n2, n3⟩ <;> rw [n3] at h2 hr <;> rw [n2] at c1 ⊢ <;> clear n2 n3
    all_goals
      unfold maxLen at ht
      go_enter Tryd.func37, Tryd.ntmps37
      go_wp2_with (go_at_call 40; refine (c1 _).mono ?_; rintro e w' ⟨rfl, rfl⟩)
      go_ret2
      exact ⟨rfl, rfl⟩
  · have c1 := fun w => l2Number_c (restT t) w hr
    obtain ⟨q, hq⟩ : ∃ q, Txt.num (restT t).data.toList = q := ⟨_, rfl⟩
    have hqb := Txt.num_bd (restT t).data.toList
    rw [hq] at c1 h3 hqb
    clear hq
    rcases neg_cases t with ⟨h0, n1, n2, n3⟩ | ⟨h0, n1, n2, n3⟩ | ⟨h0, n2, n3⟩ <;> rw [n3] at h2 hr c1 <;> clear n2 n3
    all_goals
      unfold maxLen at ht
      go_enter Tryd.func37, Tryd.ntmps37
      go_wp2_with (go_at_call 53; refine (c1 _).mono ?_; rintro e w' ⟨rfl, rfl⟩)
      go_ret2
      exact ⟨rfl, rfl⟩
  · have c1 := fun w => l2Number_c (restT t) w hr
    obtain ⟨q, hq⟩ : ∃ q : Nat, Txt.num (restT t).data.toList = (q : Int) := ⟨(Txt.num (restT t).data.toList).toNat, by omega⟩
    have hqb := Txt.num_bd (restT t).data.toList
    rw [hq] at c1 h3 hqb ⊢
    clear hq
    rw [Int.toNat_natCast]
    have c2 := fun w => l2Bits_c q w (by omega)
    have hl := Rts.lb_lt (q := q) (by omega)
    have c3 := fun w => l2Sign_c (Rts.lb q) (negB t) w (by omega)
    have d1 : decide ((q : Int) < 0) = false := decide_eq_false (by omega)
    rcases neg_cases t with ⟨h0, n1, n2, n3⟩ | ⟨h0, n1, n2, n3⟩ | ⟨h0, n2, n3⟩ <;> rw [n3] at h2 hr c1 <;> rw [n2] at c3 ⊢ <;> clear n2 n3
    all_goals
      unfold maxLen at ht
      go_enter Tryd.func37, Tryd.ntmps37
      go_wp2_with (first | (go_at_call 53; refine (c1 _).mono ?_; rintro e w' ⟨rfl, rfl⟩) | (go_at_call 41; refine (c2 _).mono ?_; rintro e w' ⟨rfl, rfl⟩) | (go_at_call 40; refine (c3 _).mono ?_; rintro e w' ⟨rfl, rfl⟩))
      go_ret2
      exact ⟨rfl, rfl⟩
theorem ofC_cases (t : ByteArray) : ((ofC t == 0) = true ∧ ofC t = 0) ∨ ((ofC t == 0) = false ∧ ofC t = 5 ∧ ofV t = 0) := by
  rcases of_cases t with ⟨h1, e1, e2⟩ | ⟨h1, h2, e1, e2⟩ | ⟨h1, h2, h3, e1, e2⟩ | ⟨h1, h2, h3, e1, e2⟩ <;> rw [e1]
  · exact .inl ⟨rfl, rfl⟩
  · exact .inl ⟨rfl, rfl⟩
  · exact .inr ⟨rfl, rfl, e2⟩
  · exact .inl ⟨rfl, rfl⟩
theorem specRateOf (t : ByteArray) (w : World) (ht : t.size ≤ maxLen) :
    Calls Tryd.prog 15 #[.string t] w fun e w' => e = .returned (.agg #[.int .i64 (ofC t), .int .i64 (ofV t)]) ∧ w' = w.alloc (.cells #[.int .i64 (ofC t), .int .i64 (ofV t)] 26) := by
  have c1 := fun w => l2Of_c t w ht
  rcases ofC_cases t with ⟨h1, h2⟩ | ⟨h1, h2, h3⟩
  · rw [h1] at c1
    rw [h2]
    clear h1 h2
    go_enter Tryd.func15, Tryd.ntmps15
    go_wp2_with (go_at_call 37; refine (c1 _).mono ?_; rintro e w' ⟨rfl, rfl⟩)
    refine bodyPost_ret ?_ rfl ⟨rfl, rfl⟩
    simp [results, Tryd.results15, go_sem]
  · rw [h1] at c1
    rw [h2, h3]
    clear h1 h2 h3
    go_enter Tryd.func15, Tryd.ntmps15
    go_wp2_with (go_at_call 37; refine (c1 _).mono ?_; rintro e w' ⟨rfl, rfl⟩)
    refine bodyPost_ret ?_ rfl ⟨rfl, rfl⟩
    simp [results, Tryd.results15, go_sem]
theorem rb_ok {q : Nat} (h : q ≤ 39999) (m : Bool) : rbC ((q : Int) / 4) ((q : Int) % 4) = 0 ∧ rbV m ((q : Int) / 4) ((q : Int) % 4) = sgn m (Rts.lb q) := by
  rcases rb_cases m ((q : Int) / 4) ((q : Int) % 4) with ⟨h1, _, _⟩ | ⟨_, h1, _, _⟩ | ⟨_, _, h1, _, _⟩ | ⟨_, _, _, h1, _, _⟩ | ⟨_, _, _, _, e1, e2⟩
  · exfalso; omega
  · exfalso; omega
  · exfalso; omega
  · exfalso; omega
  · refine ⟨e1, ?_⟩
    rw [e2, show (4 * ((q : Int) / 4) + (q : Int) % 4).toNat = q from by omega]
set_option maxHeartbeats 2000000 in
theorem implRateOf (t : ByteArray) (w : World) (ht : t.size ≤ maxLen) :
    Calls Tryd.prog 8 #[.string t] w fun e w' => e = .returned (.agg #[.int .i64 (ofC t), .int .i64 (ofV t)]) ∧ Below w.heap.size w w' := by
  have hr := Nat.le_trans (rest_size t) ht
  have k1 := fun w => cutPrefix_c t w ht
  generalize hR : restT t = R at k1 hr
  rcases of_cases t with ⟨h1, e1, e2⟩ | ⟨h1, h2, e1, e2⟩ | ⟨h1, h2, h3, e1, e2⟩ | ⟨h1, h2, h3, e1, e2⟩ <;> rw [e1, e2] <;> clear e1 e2
  · go_enter Tryd.func8, Tryd.ntmps8
    go_wp2
    refine bodyPost_ret ?_ rfl ⟨rfl, ?_⟩
    · simp [results, Tryd.results8, go_sem]
      done
    · exact (Below.refl _ _).alloc (Nat.le_refl _) _
  · rw [hR] at h2
    clear hR
    have c1 := fun w => signedBits_c 9218868437227405312 (negB t) w (by omega)
    go_enter Tryd.func8, Tryd.ntmps8
    go_wp2_with (first | (go_at_call 23; refine (k1 _).mono ?_; rintro e w' ⟨rfl, rfl⟩) | (go_at_call 25; refine (inf_c _).mono ?_; rintro e w' ⟨rfl, rfl⟩) | (go_at_call 24; refine (c1 _).mono ?_; rintro e w' ⟨rfl, rfl⟩))
    refine bodyPost_ret ?_ rfl ⟨rfl, ?_⟩
    · simp [results, Tryd.results8, go_sem]
      done
    · exact (Below.refl _ _).alloc (Nat.le_refl _) _
  · rw [hR] at h2 h3
    clear hR
    have c1 := fun w => readQuarters_c R w hr
    rw [decide_eq_false (by omega)] at c1
    go_enter Tryd.func8, Tryd.ntmps8
    go_wp2_with (first | (go_at_call 23; refine (k1 _).mono ?_; rintro e w' ⟨rfl, rfl⟩) | (go_at_call 26; refine (c1 _).mono ?_; rintro e w' ⟨⟨v, rfl, hv⟩, nq, rfl⟩))
    refine bodyPost_ret ?_ rfl ⟨rfl, ?_⟩
    · simp [results, Tryd.results8, go_sem]
      done
    · exact ((below_drewN ((Below.refl _ _).alloc (Nat.le_refl _) _) _).setCell (by simp) _).setCell (by simp) _
  · rw [hR] at h2 h3 ⊢
    clear hR
    have c1 := fun w => readQuarters_c R w hr
    rw [decide_eq_true h3] at c1
    obtain ⟨q, hq⟩ : ∃ q : Nat, Txt.num R.data.toList = (q : Int) := ⟨(Txt.num R.data.toList).toNat, by omega⟩
    have hqb := Txt.num_bd R.data.toList
    rw [hq] at c1 h3 hqb ⊢
    clear hq
    rw [Int.toNat_natCast]
    have c2 := fun w => implRateBits (negB t) ((q : Int) / 4) ((q : Int) % 4) w
    rw [(rb_ok (by omega) (negB t)).1, (rb_ok (by omega) (negB t)).2] at c2
    go_enter Tryd.func8, Tryd.ntmps8
    go_wp2_with fail
    refine (k1 _).mono ?_
    rintro e w' ⟨rfl, rfl⟩
    go_wp2_with fail
    refine (c1 _).mono ?_
    rintro e w' ⟨⟨v, rfl, hv⟩, nq, rfl⟩
    obtain rfl := hv h3
    go_wp2_with (go_at_call 12; refine (c2 _).mono ?_; rintro e w' ⟨rfl, rfl⟩)
    refine bodyPost_ret ?_ rfl ⟨rfl, ?_⟩
    · simp [results, Tryd.results8, go_sem]
      done
    · exact (((below_drewN ((Below.refl _ _).alloc (Nat.le_refl _) _) _).setCell (by simp) _).setCell (by simp) _).alloc (by simp) _
end Go.Proofs.YtpcjgpgjjdlfdaaDoor
