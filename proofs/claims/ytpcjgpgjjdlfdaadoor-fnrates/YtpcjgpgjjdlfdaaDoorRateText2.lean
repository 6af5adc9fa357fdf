/- Contracts of RateText and of its model, and of GainText and its model. Conditions: the bits are an int64; for the program's own: its table of texts and the library's table of powers hold what their initialisers lay. -/
import Derived.Test.YtpcjgpgjjdlfdaaDoorRateText
import Derived.BigRegion
namespace Go.Proofs.YtpcjgpgjjdlfdaaDoor
open Go.ChangeShapes Go.WideShapes Go.ChangeAt Go.RowKit
set_option linter.unusedVariables false

theorem rtC_cases (b : Int) : rtC b = 0 ∨ (rtC b = 3 ∧ rtT b = []) := by
  rcases rt_cases b with ⟨_, e, _⟩ | ⟨_, e, _⟩ | ⟨_, _, e, e2⟩ | ⟨_, _, e, _⟩
  · exact .inl e
  · exact .inl e
  · exact .inr ⟨e, e2⟩
  · exact .inl e
theorem specRateText (b : Int) (w : World) :
    Calls Tryd.prog 16 #[.int .i64 b] w fun e w' => e = .returned (.agg #[.int .i64 (rtC b), .string (rtS b)]) ∧ Below w.heap.size w w' := by
  have c1 := fun w => l2Text_c b w
  generalize rtC b = C at c1 ⊢
  generalize rtS b = S at c1 ⊢
  go_enter Tryd.func16, Tryd.ntmps16
  go_wp2_with fail
  refine (c1 _).mono ?_
  rintro e w1 ⟨rfl, hb⟩
  have hz := hb.size
  simp only [size_new] at hz
  have f0 : w1.frozen? ⟨w.heap.size, 0, none⟩ = false := by rw [hb.frozen (by simp only [size_new]; omega)]; simp
  have f1 : w1.frozen? ⟨w.heap.size, 1, none⟩ = false := by rw [hb.frozen (by simp only [size_new]; omega)]; simp
  have k0 : w1.cell? ⟨w.heap.size, 0, none⟩ = some (.int .i64 0) := by rw [hb.cell (by simp only [size_new]; omega)]; exact cell_new _ _ _ _ _ rfl
  have k1 : w1.cell? ⟨w.heap.size, 1, none⟩ = some (.string ⟨#[]⟩) := by rw [hb.cell (by simp only [size_new]; omega)]; exact cell_new _ _ _ _ _ rfl
  have hlt : w.heap.size < w1.heap.size := by omega
  go_wp2
  refine bodyPost_ret (v := .agg #[.int .i64 C, .string S]) ?_ rfl ⟨rfl, ?_⟩
  · simp [results, Tryd.results16, go_sem, k0, k1]
    done
  · exact ((((Below.refl _ _).alloc (Nat.le_refl _) _).trans (hb.mono (by simp only [size_new]; omega))).setCell (Nat.le_refl _) _).setCell (Nat.le_refl _) _
/- What the program's table of texts and the library's table of powers hold. -/
structure LaidAt (w : World) : Prop where
  pow : Lib.TabIs Tryd.prog w "internal/strconv.uint64pow10" .u64 Lib.pow10Tab
  q0 : w.cell? ⟨0, 0, none⟩ = some (.string ⟨#[]⟩)
  q1 : w.cell? ⟨0, 1, none⟩ = some (.string ⟨#[46, 50, 53]⟩)
  q2 : w.cell? ⟨0, 2, none⟩ = some (.string ⟨#[46, 53]⟩)
  q3 : w.cell? ⟨0, 3, none⟩ = some (.string ⟨#[46, 55, 53]⟩)
  lt : 0 < w.heap.size
theorem LaidAt.later {w w' : World} (h : LaidAt w) (hb : Below w.heap.size w w') : LaidAt w' :=
  ⟨(Lib.tabBelow_of_tabIs h.pow) w' hb, by rw [hb.cell h.lt]; exact h.q0, by rw [hb.cell h.lt]; exact h.q1, by rw [hb.cell h.lt]; exact h.q2, by rw [hb.cell h.lt]; exact h.q3, Nat.lt_of_lt_of_le h.lt hb.size⟩
theorem grow_below (w : World) (k : Nat) (os : Array Obj) : Below w.heap.size w (Go.Sort.grow (w.drewN k) os) :=
  ⟨rfl, rfl, rfl, by simp [Go.Sort.grow, World.drewN], fun i hi => by
    show (w.heap ++ os)[i]? = _
    rw [Array.getElem?_append_left hi]⟩
theorem formatInt_c (n : Int) (w : World) (h0 : 0 ≤ n) (h1 : n ≤ 9223372036854775807) (hL : LaidAt w) :
    Calls Tryd.prog 33 #[.int .i64 n, .int .i64 10] w fun e w' => e = .returned (.string ⟨(Lib.decDigits n.toNat).toArray⟩) ∧ Below w.heap.size w w' := by
  have c := Tryd.internal_strconv_FormatInt_10 n (by omega) h1 w hL.pow
  rw [show Lib.itoa n = Lib.decDigits n.toNat from by unfold Lib.itoa; rw [if_neg (by omega)]] at c
  go_enter Tryd.func33, Tryd.ntmps33
  go_wp2_with fail
  refine c.mono ?_
  rintro e w1 ⟨rfl, k, os, rfl⟩
  go_wp2_with fail
  go_ret
  exact ⟨rfl, grow_below w k os⟩
theorem signText_c (m : Bool) (w : World) :
    Calls Tryd.prog 31 #[.bool m] w fun e w' => e = .returned (.string ⟨(if m then [45] else []).toArray⟩) ∧ w' = w := by
  cases m
  all_goals
    go_enter Tryd.func31, Tryd.ntmps31
    go_wp2
    go_ret
    exact ⟨rfl, rfl⟩
set_option maxRecDepth 100000 in
set_option maxHeartbeats 2000000 in
theorem implRateText (b : Int) (hb1 : -9223372036854775808 ≤ b) (hb2 : b < 9223372036854775808) (w : World) (hL : LaidAt w) :
    Calls Tryd.prog 10 #[.int .i64 b] w fun e w' => e = .returned (.agg #[.int .i64 (rtC b), .string (rtS b)]) ∧ Below w.heap.size w w' := by
  have s1 := sz_bd b
  have q1 := Rts.qt_bd (sz b)
  have u1 := uw_lt b
  have u2 := uw_sz b
  have u3 := uw_neg hb1 hb2
  have cP := fun w => implRateParts b hb1 hb2 w
  unfold rtS
  rcases rt_cases b with ⟨h1, e1, e2⟩ | ⟨h1, e1, e2⟩ | ⟨h1, h2, e1, e2⟩ | ⟨h1, h2, e1, e2⟩ <;> rw [e1, e2] <;> clear e1 e2
  · have d1 : decide (9218868437227405312 < uw b % 9223372036854775808) = true := decide_eq_true (by omega)
    clear u2 u3
    go_enter Tryd.func10, Tryd.ntmps10
    go_wp2_with (first | (go_at_call 28; refine (floatOf_u b _).mono ?_; rintro e w' ⟨rfl, rfl⟩) | (go_at_call 29; refine (isNaN_c (uw b) _ u1).mono ?_; rintro e w' ⟨rfl, rfl⟩))
    refine bodyPost_ret ?_ rfl ⟨rfl, ?_⟩
    · simp [results, Tryd.results10, go_sem]
      done
    · exact (Below.refl _ _).alloc (Nat.le_refl _) _
  · have d1 : decide (9218868437227405312 < uw b % 9223372036854775808) = false := decide_eq_false (by omega)
    have d2 : decide (uw b % 9223372036854775808 = 9218868437227405312) = true := decide_eq_true (by omega)
    have e3 : (⟨(if decide (b < 0) then [45] else []).toArray⟩ : ByteArray) = ⟨(sgx b).toArray⟩ := by unfold sgx; by_cases h : b < 0 <;> simp [h]
    have c4 := fun w => signText_c (decide (b < 0)) w
    rw [e3] at c4
    obtain ⟨G, HG⟩ : ∃ G : ByteArray, Hid (G = ⟨(sgx b).toArray⟩) := ⟨_, rfl⟩
    have hG : G.size ≤ 1 := by rw [HG.out, size_mk]; unfold sgx; by_cases h : b < 0 <;> simp [h]
    rw [← HG.out] at c4
    have hadd := fun w => run_string_add_sum (P := Tryd.prog) w G ⟨#[105, 110, 102]⟩ (by rw [show (ByteArray.mk #[105, 110, 102]).size = 3 from rfl]; omega)
    have HE : Hid (G ++ ⟨#[105, 110, 102]⟩ = ⟨(sgx b ++ [105, 110, 102]).toArray⟩) := by show _ = _; rw [HG.out]; exact cat _ [105, 110, 102]
    clear u2 h1 e3
    rw [← HE.out]
    go_enter Tryd.func10, Tryd.ntmps10
    go_wp2_with (first | (go_at_call 28; refine (floatOf_u b _).mono ?_; rintro e w' ⟨rfl, rfl⟩) | (go_at_call 29; refine (isNaN_c (uw b) _ u1).mono ?_; rintro e w' ⟨rfl, rfl⟩) | (go_at_call 30; refine (isInf0_c (uw b) _ u1).mono ?_; rintro e w' ⟨rfl, rfl⟩) | (go_at_call 32; refine (signbit_c (uw b) _ u1).mono ?_; rintro e w' ⟨rfl, rfl⟩) | (go_at_call 31; refine (c4 _).mono ?_; rintro e w' ⟨rfl, rfl⟩))
    refine bodyPost_ret ?_ rfl ⟨rfl, ?_⟩
    · simp [results, Tryd.results10, go_sem]
      done
    · exact (Below.refl _ _).alloc (Nat.le_refl _) _
  · have d1 : decide (9218868437227405312 < uw b % 9223372036854775808) = false := decide_eq_false (by omega)
    have d2 : decide (uw b % 9223372036854775808 = 9218868437227405312) = false := decide_eq_false (by omega)
    have eP : partsA b = #[.int .i64 3, .bool false, .int .i64 0, .int .i64 0] := by unfold partsA; rw [if_neg (by omega), if_pos h2]
    rw [eP] at cP
    clear u2 u3 eP
    go_enter Tryd.func10, Tryd.ntmps10
    go_wp2_with (first | (go_at_call 28; refine (floatOf_u b _).mono ?_; rintro e w' ⟨rfl, rfl⟩) | (go_at_call 29; refine (isNaN_c (uw b) _ u1).mono ?_; rintro e w' ⟨rfl, rfl⟩) | (go_at_call 30; refine (isInf0_c (uw b) _ u1).mono ?_; rintro e w' ⟨rfl, rfl⟩) | (go_at_call 19; refine (cP _).mono ?_; rintro e w' ⟨rfl, rfl⟩))
    refine bodyPost_ret ?_ rfl ⟨rfl, ?_⟩
    · simp [results, Tryd.results10, go_sem]
      done
    · exact (((Below.refl _ _).alloc (Nat.le_refl _) _).alloc (by simp only [size_new]; omega) _).alloc (by simp only [size_new]; omega) _
  · have d1 : decide (9218868437227405312 < uw b % 9223372036854775808) = false := decide_eq_false (by omega)
    have d2 : decide (uw b % 9223372036854775808 = 9218868437227405312) = false := decide_eq_false (by omega)
    have eP : partsA b = #[.int .i64 0, .bool (decide (b < 0)), .int .i64 (Rts.qt (sz b) / 4), .int .i64 (Rts.qt (sz b) % 4)] := by unfold partsA; rw [if_neg (by omega), if_neg (by omega)]
    rw [eP] at cP
    have e3 : (⟨(if decide (b < 0) then [45] else []).toArray⟩ : ByteArray) = ⟨(sgx b).toArray⟩ := by unfold sgx; by_cases h : b < 0 <;> simp [h]
    have c4 := fun w => signText_c (decide (b < 0)) w
    rw [e3] at c4
    generalize decide (b < 0) = m at c4 cP
    clear u2 u3 eP e3
    generalize Rts.qt (sz b) = q at cP q1 h2 ⊢
    have c5 := fun w (hL : LaidAt w) => formatInt_c (q / 4) w (by omega) (by omega) hL
    have hlen := decDigits_len 18 (q / 4).toNat (by omega)
    obtain ⟨D, HD⟩ : ∃ D : ByteArray, Hid (D = ⟨(Lib.decDigits (q / 4).toNat).toArray⟩) := ⟨_, rfl⟩
    have hDs : D.size ≤ 19 := by rw [HD.out, size_mk]; exact hlen
    rw [← HD.out] at c5
    obtain ⟨G, HG⟩ : ∃ G : ByteArray, Hid (G = ⟨(sgx b).toArray⟩) := ⟨_, rfl⟩
    have hG : G.size ≤ 1 := by rw [HG.out, size_mk]; unfold sgx; by_cases h : b < 0 <;> simp [h]
    rw [← HG.out] at c4
    obtain ⟨X, hX⟩ : ∃ X : ByteArray, Hid (X = ⟨(qtx (q % 4)).toArray⟩) := ⟨_, rfl⟩
    have hXs : X.size ≤ 3 := by rw [hX.out, size_mk]; rcases q4_cases q with ⟨_, e⟩ | ⟨_, e⟩ | ⟨_, e⟩ | ⟨_, e⟩ <;> rw [e] <;> simp
    have hadd := fun w => run_string_add_sum (P := Tryd.prog) w G D (by omega)
    have hadd2 := fun w => run_string_add_sum (P := Tryd.prog) w (G ++ D) X (by rw [ByteArray.size_append]; omega)
    have HE : Hid (G ++ D ++ X = ⟨(sgx b ++ Lib.decDigits (q / 4).toNat ++ qtx (q % 4)).toArray⟩) := by
      show _ = _
      rw [HD.out, hX.out, HG.out, cat (sgx b) (Lib.decDigits (q / 4).toNat), cat (sgx b ++ Lib.decDigits (q / 4).toNat) (qtx (q % 4))]
    rw [← HE.out]
    clear HE
    have hq4 : Hid ((q % 4 = 0 ∧ X = ⟨#[]⟩) ∨ (q % 4 = 1 ∧ X = ⟨#[46, 50, 53]⟩) ∨ (q % 4 = 2 ∧ X = ⟨#[46, 53]⟩) ∨ (q % 4 = 3 ∧ X = ⟨#[46, 55, 53]⟩)) := by
      rcases q4_cases q with ⟨r, e⟩ | ⟨r, e⟩ | ⟨r, e⟩ | ⟨r, e⟩
      · exact .inl ⟨r, by rw [hX.out, e]⟩
      · exact .inr (.inl ⟨r, by rw [hX.out, e]⟩)
      · exact .inr (.inr (.inl ⟨r, by rw [hX.out, e]⟩))
      · exact .inr (.inr (.inr ⟨r, by rw [hX.out, e]⟩))
    clear HD HG hX
    generalize hy : q % 4 = y at cP hq4
    clear hy
    go_enter Tryd.func10, Tryd.ntmps10
    go_wp2_with (first | (go_at_call 28; refine (floatOf_u b _).mono ?_; rintro e w' ⟨rfl, rfl⟩) | (go_at_call 29; refine (isNaN_c (uw b) _ u1).mono ?_; rintro e w' ⟨rfl, rfl⟩) | (go_at_call 30; refine (isInf0_c (uw b) _ u1).mono ?_; rintro e w' ⟨rfl, rfl⟩) | (go_at_call 19; refine (cP _).mono ?_; rintro e w' ⟨rfl, rfl⟩))
    have hW : Below w.heap.size w (((w.alloc (.cells #[.int .i64 0, .string ⟨#[]⟩] 30)).alloc (.cells #[.int .i64 0, .bool m, .int .i64 (q / 4), .int .i64 y] 37)).alloc (.cells #[.int .i64 0, .bool m, .int .i64 (q / 4), .int .i64 y] 37)) :=
      (((Below.refl _ _).alloc (Nat.le_refl _) _).alloc (by simp only [size_new]; omega) _).alloc (by simp only [size_new]; omega) _
    refine (c5 _ (hL.later hW)).mono ?_
    rintro e w2 ⟨rfl, hb⟩
    have hz := hb.size
    simp only [size_new] at hz
    have hL2 := (hL.later hW).later hb
    have r0 : w2.cell? ⟨w.heap.size, 0, none⟩ = some (.int .i64 0) := by
      rw [hb.cell (by simp only [size_new]; omega), cell_old _ _ _ _ (by simp only [size_new]; omega), cell_old _ _ _ _ (by simp only [size_new]; omega)]; exact cell_new _ _ _ _ _ rfl
    have r1 : w2.cell? ⟨w.heap.size, 1, none⟩ = some (.string ⟨#[]⟩) := by
      rw [hb.cell (by simp only [size_new]; omega), cell_old _ _ _ _ (by simp only [size_new]; omega), cell_old _ _ _ _ (by simp only [size_new]; omega)]; exact cell_new _ _ _ _ _ rfl
    have f0 : w2.frozen? ⟨w.heap.size, 0, none⟩ = false := by rw [hb.frozen (by simp only [size_new]; omega), frozen_old _ _ _ _ (by simp only [size_new]; omega), frozen_old _ _ _ _ (by simp only [size_new]; omega)]; exact frozen_new _ _ _ _
    have f1 : w2.frozen? ⟨w.heap.size, 1, none⟩ = false := by rw [hb.frozen (by simp only [size_new]; omega), frozen_old _ _ _ _ (by simp only [size_new]; omega), frozen_old _ _ _ _ (by simp only [size_new]; omega)]; exact frozen_new _ _ _ _
    have p1 : w2.cell? ⟨w.heap.size + 1 + 1, 1, none⟩ = some (.bool m) := by
      rw [hb.cell (by simp only [size_new]; omega)]
      have e := cell_new ((w.alloc (.cells #[.int .i64 0, .string ⟨#[]⟩] 30)).alloc (.cells #[.int .i64 0, .bool m, .int .i64 (q / 4), .int .i64 y] 37)) #[.int .i64 0, .bool m, .int .i64 (q / 4), .int .i64 y] 37 1 _ rfl
      rw [size_new, size_new] at e; exact e
    have p3 : w2.cell? ⟨w.heap.size + 1 + 1, 3, none⟩ = some (.int .i64 y) := by
      rw [hb.cell (by simp only [size_new]; omega)]
      have e := cell_new ((w.alloc (.cells #[.int .i64 0, .string ⟨#[]⟩] 30)).alloc (.cells #[.int .i64 0, .bool m, .int .i64 (q / 4), .int .i64 y] 37)) #[.int .i64 0, .bool m, .int .i64 (q / 4), .int .i64 y] 37 3 _ rfl
      rw [size_new, size_new] at e; exact e
    have hlt : w.heap.size < w2.heap.size := by omega
    have hB : Below w.heap.size w w2 := hW.trans (hb.mono (by simp only [size_new]; omega))
    have g0 := hL2.q0
    have g1 := hL2.q1
    have g2 := hL2.q2
    have g3 := hL2.q3
    clear hb hz hL2 hW hL c5 cP
    rcases hq4.out with ⟨rfl, rfl⟩ | ⟨rfl, rfl⟩ | ⟨rfl, rfl⟩ | ⟨rfl, rfl⟩
    all_goals
      clear hq4
      go_wp2_with fail
      go_region_with (go_at_call 31; refine (c4 _).mono ?_; rintro e w' ⟨rfl, rfl⟩)
      all_goals
        go_wp2_with fail
        refine bodyPost_ret (v := .agg #[.int .i64 0, .string _]) ?_ rfl ⟨rfl, ?_⟩
        · simp [results, Tryd.results10, go_sem, r0, r1]
          done
        · exact ((hB.setCell (Nat.le_refl _) _).setCell (Nat.le_refl _) _).drew
end Go.Proofs.YtpcjgpgjjdlfdaaDoor
