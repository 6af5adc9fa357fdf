/- Contracts of GainText and of its model, and the walk of GainText's exact law. Conditions: the text is no longer than a text can be; for the program's own: its table of texts and the library's table of powers hold what their initialisers lay. -/
import Derived.Test.YtpcjgpgjjdlfdaaDoorTextLaws
import Derived.Test.YtpcjgpgjjdlfdaaDoorTextOf
namespace Go.Proofs.YtpcjgpgjjdlfdaaDoor
open Go.ChangeShapes Go.WideShapes Go.ChangeAt Go.RowKit
set_option linter.unusedVariables false

theorem sgn_range {r : Nat} (m : Bool) (hr : r < 9223372036854775808) : -9223372036854775808 ≤ sgn m r ∧ sgn m r < 9223372036854775808 := by
  unfold sgn; split <;> omega
theorem ofV_bd (t : ByteArray) : -9223372036854775808 ≤ ofV t ∧ ofV t < 9223372036854775808 := by
  have hn := Txt.num_bd (restT t).data.toList
  rcases of_cases t with ⟨_, _, e⟩ | ⟨_, _, _, e⟩ | ⟨_, _, _, _, e⟩ | ⟨_, _, h, _, e⟩ <;> rw [e]
  · omega
  · exact sgn_range _ (by omega)
  · omega
  · exact sgn_range _ (by have := Rts.lb_lt (q := (Txt.num (restT t).data.toList).toNat) (by omega); omega)
def gtC (t : ByteArray) : Int := if (ofC t == 0) = true then (if gainB (ofV t) = true then 0 else 3) else 5
def gtS (t : ByteArray) : ByteArray := if (ofC t == 0) = true then (if gainB (ofV t) = true then rtS (sz (ofV t)) else ⟨#[]⟩) else ⟨#[]⟩
theorem gt_cases (t : ByteArray) :
    ((ofC t == 0) = false ∧ ofC t = 5 ∧ gtC t = 5 ∧ gtS t = ⟨#[]⟩) ∨ ((ofC t == 0) = true ∧ ofC t = 0 ∧ gainB (ofV t) = false ∧ gtC t = 3 ∧ gtS t = ⟨#[]⟩) ∨
    ((ofC t == 0) = true ∧ ofC t = 0 ∧ gainB (ofV t) = true ∧ gtC t = 0 ∧ gtS t = rtS (sz (ofV t)) ∧ rtC (sz (ofV t)) = 0) := by
  unfold gtC gtS
  rcases ofC_cases t with ⟨h1, h2⟩ | ⟨h1, h2, h3⟩
  · cases hg : gainB (ofV t)
    · exact .inr (.inl ⟨h1, h2, rfl, by rw [if_pos h1]; rfl, by rw [if_pos h1]; rfl⟩)
    · refine .inr (.inr ⟨h1, h2, rfl, by rw [if_pos h1]; rfl, by rw [if_pos h1]; rfl, ?_⟩)
      have hz : sz (sz (ofV t)) = sz (ofV t) := by unfold sz; omega
      unfold rtC
      rw [hz]
      rcases gain_cases (ofV t) with ⟨_, _, e⟩ | ⟨_, _, e⟩ | ⟨k1, k2, _, _⟩ | ⟨k1, k2, _, _, _⟩ | ⟨_, _, _, _, e⟩
      · rw [e] at hg; cases hg
      · rw [e] at hg; cases hg
      · rw [if_neg (by omega), if_neg (by omega)]
      · rw [if_neg (by omega), if_neg (by omega)]
      · rw [e] at hg; cases hg
  · exact .inl ⟨h1, h2, by rw [h1]; rfl, by rw [h1]; rfl⟩

theorem plainBits_c (b : Int) (w : World) :
    Calls Tryd.prog 24 #[.float .f64 (uw b), .bool false] w fun e w' => e = .returned (.int .i64 (sz b)) ∧ w' = w := by
  have x2 := toBits_x
  have hu := uw_lt b
  have hs := uw_sz b
  have hm : wrap64 ((0 / 9223372036854775808 * 9223372036854775808 + uw b % 9223372036854775808 : Nat) : Int) = sz b := by rw [← hs]; unfold wrap64; omega
  have hm2 : wrap64 ((uw b : Int) % 9223372036854775808) = sz b := by rw [← hs]; unfold wrap64; omega
  have hm3 : (uw b : Int) % 9223372036854775808 = sz b := by rw [← hs]; omega
  clear hs hm
  go_enter Tryd.func24, Tryd.ntmps24
  go_wp2_with (go_at_call 47; refine (copysign_c _ _ _ hu (by omega)).mono ?_; rintro e w' ⟨rfl, rfl⟩)
  go_ret
  exact ⟨rfl, rfl⟩
set_option maxHeartbeats 1000000 in
theorem specGainText (t : ByteArray) (w : World) (ht : t.size ≤ maxLen) :
    Calls Tryd.prog 18 #[.string t] w fun e w' => e = .returned (.agg #[.int .i64 (gtC t), .string (gtS t)]) ∧ Below w.heap.size w w' := by
  have c1 := fun w => l2Of_c t w ht
  have c2 := fun w => l2Gain_c (ofV t) w
  have c3 := fun w => l2Size_c (ofV t) w
  have c4 := fun w => l2Text_c (sz (ofV t)) w
  rcases gt_cases t with ⟨h1, _, e1, e2⟩ | ⟨h1, _, h2, e1, e2⟩ | ⟨h1, _, h2, e1, e2, e3⟩ <;> rw [e1, e2] <;> rw [h1] at c1
  · generalize ofV t = V at c1 c2 c3 c4
    clear h1 e1 e2
    go_enter Tryd.func18, Tryd.ntmps18
    go_wp2_with (go_at_call 37; refine (c1 _).mono ?_; rintro e w' ⟨rfl, rfl⟩)
    refine bodyPost_ret ?_ rfl ⟨rfl, ?_⟩
    · simp [results, Tryd.results18, go_sem]
      done
    · exact (Below.refl _ _).alloc (Nat.le_refl _) _
  · rw [h2] at c2
    generalize ofV t = V at c1 c2 c3 c4
    clear h1 e1 e2 h2
    go_enter Tryd.func18, Tryd.ntmps18
    go_wp2_with (first | (go_at_call 37; refine (c1 _).mono ?_; rintro e w' ⟨rfl, rfl⟩) | (go_at_call 42; refine (c2 _).mono ?_; rintro e w' ⟨rfl, rfl⟩))
    refine bodyPost_ret ?_ rfl ⟨rfl, ?_⟩
    · simp [results, Tryd.results18, go_sem]
      done
    · exact (Below.refl _ _).alloc (Nat.le_refl _) _
  · rw [h2] at c2
    rw [e3] at c4
    clear h1 e1 e2 h2 e3
    generalize rtS (sz (ofV t)) = S at c4 ⊢
    generalize ofV t = V at c1 c2 c3 c4
    go_enter Tryd.func18, Tryd.ntmps18
    go_wp2_with (first | (go_at_call 37; refine (c1 _).mono ?_; rintro e w' ⟨rfl, rfl⟩) | (go_at_call 42; refine (c2 _).mono ?_; rintro e w' ⟨rfl, rfl⟩) | (go_at_call 43; refine (c3 _).mono ?_; rintro e w' ⟨rfl, rfl⟩))
    refine (c4 _).mono ?_
    rintro e w1 ⟨rfl, hb⟩
    have hz := hb.size
    simp only [size_new] at hz
    have f0 : w1.frozen? ⟨w.heap.size, 0, none⟩ = false := by rw [hb.frozen (by simp only [size_new]; omega)]; exact frozen_new _ _ _ _
    have f1 : w1.frozen? ⟨w.heap.size, 1, none⟩ = false := by rw [hb.frozen (by simp only [size_new]; omega)]; exact frozen_new _ _ _ _
    have k0 : w1.cell? ⟨w.heap.size, 0, none⟩ = some (.int .i64 0) := by rw [hb.cell (by simp only [size_new]; omega)]; exact cell_new _ _ _ _ _ rfl
    have k1 : w1.cell? ⟨w.heap.size, 1, none⟩ = some (.string ⟨#[]⟩) := by rw [hb.cell (by simp only [size_new]; omega)]; exact cell_new _ _ _ _ _ rfl
    have hlt : w.heap.size < w1.heap.size := by omega
    go_wp2
    refine bodyPost_ret (v := .agg #[.int .i64 0, .string S]) ?_ rfl ⟨rfl, ?_⟩
    · simp [results, Tryd.results18, go_sem, k0, k1]
      done
    · exact ((((Below.refl _ _).alloc (Nat.le_refl _) _).trans (hb.mono (by simp only [size_new]; omega))).setCell (Nat.le_refl _) _).setCell (Nat.le_refl _) _
theorem Below.of_drew' {w w' : World} (h : w' = w ∨ w' = w.drew) : Below w.heap.size w w' := by
  rcases h with rfl | rfl
  · exact Below.refl _ _
  · exact (Below.refl _ _).drew
theorem two_set {w1 : World} {g : Nat} {a b : Value} (h0 : w1.cell? ⟨g, 0, none⟩ = some a) (h1 : w1.cell? ⟨g, 1, none⟩ = some b) (x y : Value) :
    ((w1.setCell ⟨g, 0, none⟩ x).setCell ⟨g, 1, none⟩ y).cell? ⟨g, 0, none⟩ = some x ∧ ((w1.setCell ⟨g, 0, none⟩ x).setCell ⟨g, 1, none⟩ y).cell? ⟨g, 1, none⟩ = some y := by
  constructor <;> simp [go_sem, h0, h1]
theorem two_set_new {w1 : World} {g : Nat} {a b : Value} (h0 : w1.cell? ⟨g, 0, none⟩ = some a) (h1 : w1.cell? ⟨g, 1, none⟩ = some b) (x y : Value) (o : Obj) :
    (((w1.setCell ⟨g, 0, none⟩ x).setCell ⟨g, 1, none⟩ y).alloc o).cell? ⟨g, 0, none⟩ = some x ∧ (((w1.setCell ⟨g, 0, none⟩ x).setCell ⟨g, 1, none⟩ y).alloc o).cell? ⟨g, 1, none⟩ = some y := by
  obtain ⟨k0, k1⟩ := two_set h0 h1 x y
  have hl := cell_lt' k0
  exact ⟨by rw [cell_old _ _ _ _ hl]; exact k0, by rw [cell_old _ _ _ _ hl]; exact k1⟩
set_option maxHeartbeats 1000000 in
theorem implGainText (t : ByteArray) (w : World) (ht : t.size ≤ maxLen) (hL : LaidAt w) :
    Calls Tryd.prog 14 #[.string t] w fun e w' => e = .returned (.agg #[.int .i64 (gtC t), .string (gtS t)]) ∧ Below w.heap.size w w' := by
  have c1 := fun w => implRateOf t w ht
  have hV := ofV_bd t
  have hsz := sz_bd (ofV t)
  have c2 := fun w => implIsGain (ofV t) hV.1 hV.2 w
  have c3 := fun w => floatOf_u (ofV t) w
  have c4 := fun w => plainBits_c (ofV t) w
  have c5 := fun w hL => implRateText (sz (ofV t)) (by omega) (by omega) w hL
  have hgt : ((ofC t == 0) = false ∧ ofC t = 5 ∧ gtC t = 5 ∧ gtS t = ⟨#[]⟩) ∨ ((ofC t == 0) = true ∧ ofC t = 0 ∧ gainB (ofV t) = false ∧ gtC t = 3 ∧ gtS t = ⟨#[]⟩) ∨
    ((ofC t == 0) = true ∧ ofC t = 0 ∧ gainB (ofV t) = true ∧ gtC t = 0 ∧ gtS t = rtS (sz (ofV t)) ∧ rtC (sz (ofV t)) = 0) := gt_cases t
  go_enter Tryd.func14, Tryd.ntmps14
  go_wp2_with fail
  refine (c1 _).mono ?_
  rintro e w1 ⟨rfl, hb⟩
  have hz := hb.size
  simp only [size_new] at hz
  have f0 : w1.frozen? ⟨w.heap.size, 0, none⟩ = false := by rw [hb.frozen (by simp only [size_new]; omega)]; exact frozen_new _ _ _ _
  have f1 : w1.frozen? ⟨w.heap.size, 1, none⟩ = false := by rw [hb.frozen (by simp only [size_new]; omega)]; exact frozen_new _ _ _ _
  have k0 : w1.cell? ⟨w.heap.size, 0, none⟩ = some (.int .i64 0) := by rw [hb.cell (by simp only [size_new]; omega)]; exact cell_new _ _ _ _ _ rfl
  have k1 : w1.cell? ⟨w.heap.size, 1, none⟩ = some (.string ⟨#[]⟩) := by rw [hb.cell (by simp only [size_new]; omega)]; exact cell_new _ _ _ _ _ rfl
  have hlt : w.heap.size < w1.heap.size := by omega
  have hB : Below w.heap.size w w1 := ((Below.refl _ _).alloc (Nat.le_refl _) _).trans (hb.mono (by simp only [size_new]; omega))
  rcases hgt with ⟨_, h1, e1, e2⟩ | ⟨_, h1, h2, e1, e2⟩ | ⟨_, h1, h2, e1, e2, e3⟩
  · have E : Hid (Ending.returned (.agg #[.int .i64 5, .string ⟨#[]⟩]) = .returned (.agg #[.int .i64 (gtC t), .string (gtS t)])) := by show _ = _; rw [e1, e2]
    clear e1 e2 c5 c4 c3 c2 c1
    rw [h1]
    clear h1
    go_wp2
    refine bodyPost_ret (v := .agg #[.int .i64 5, .string ⟨#[]⟩]) ?_ rfl ⟨E.out, ?_⟩
    · simp [results, Tryd.results14, go_sem, two_set_new k0 k1]
      done
    · exact ((hB.setCell (Nat.le_refl _) _).setCell (Nat.le_refl _) _).alloc (by have := hB.size; simpa using this) _
  · have E : Hid (Ending.returned (.agg #[.int .i64 3, .string ⟨#[]⟩]) = .returned (.agg #[.int .i64 (gtC t), .string (gtS t)])) := by show _ = _; rw [e1, e2]
    clear e1 e2 c5 c4 c3 c1
    rw [h2] at c2
    rw [h1]
    clear h1 h2
    go_wp2_with fail
    refine (c2 _).mono ?_
    rintro e w2 ⟨rfl, hw2⟩
    have hb2 := Below.of_drew' hw2
    have hz2 := hb2.size
    simp only [size_new] at hz2
    have f0' : w2.frozen? ⟨w.heap.size, 0, none⟩ = false := by rw [hb2.frozen (by simp only [size_new]; omega), frozen_old _ _ _ _ hlt]; exact f0
    have f1' : w2.frozen? ⟨w.heap.size, 1, none⟩ = false := by rw [hb2.frozen (by simp only [size_new]; omega), frozen_old _ _ _ _ hlt]; exact f1
    have k0' : w2.cell? ⟨w.heap.size, 0, none⟩ = some (.int .i64 0) := by rw [hb2.cell (by simp only [size_new]; omega), cell_old _ _ _ _ hlt]; exact k0
    have k1' : w2.cell? ⟨w.heap.size, 1, none⟩ = some (.string ⟨#[]⟩) := by rw [hb2.cell (by simp only [size_new]; omega), cell_old _ _ _ _ hlt]; exact k1
    have hB2 : Below w.heap.size w w2 := (hB.alloc hB.size _).trans (hb2.mono (by simp only [size_new]; omega))
    clear hw2
    go_wp2
    refine bodyPost_ret (v := .agg #[.int .i64 3, .string ⟨#[]⟩]) ?_ rfl ⟨E.out, ?_⟩
    · simp [results, Tryd.results14, go_sem, k0', k1']
      done
    · exact (hB2.setCell (Nat.le_refl _) _).setCell (Nat.le_refl _) _
  · have E : Hid (Ending.returned (.agg #[.int .i64 0, .string (rtS (sz (ofV t)))]) = .returned (.agg #[.int .i64 (gtC t), .string (gtS t)])) := by show _ = _; rw [e1, e2]
    clear e1 e2 c1
    rw [h2] at c2
    rw [h1]
    rw [e3] at c5
    clear h1 h2 e3
    generalize rtS (sz (ofV t)) = S at c5 E
    go_wp2_with fail
    refine (c2 _).mono ?_
    rintro e w2 ⟨rfl, hw2⟩
    have hb2 := Below.of_drew' hw2
    have hz2 := hb2.size
    simp only [size_new] at hz2
    have v1 : w2.cell? ⟨w1.heap.size, 1, none⟩ = some (.int .i64 (ofV t)) := by rw [hb2.cell (by simp only [size_new]; omega)]; exact cell_new _ _ _ _ _ rfl
    have f0' : w2.frozen? ⟨w.heap.size, 0, none⟩ = false := by rw [hb2.frozen (by simp only [size_new]; omega), frozen_old _ _ _ _ hlt]; exact f0
    have f1' : w2.frozen? ⟨w.heap.size, 1, none⟩ = false := by rw [hb2.frozen (by simp only [size_new]; omega), frozen_old _ _ _ _ hlt]; exact f1
    have k0' : w2.cell? ⟨w.heap.size, 0, none⟩ = some (.int .i64 0) := by rw [hb2.cell (by simp only [size_new]; omega), cell_old _ _ _ _ hlt]; exact k0
    have k1' : w2.cell? ⟨w.heap.size, 1, none⟩ = some (.string ⟨#[]⟩) := by rw [hb2.cell (by simp only [size_new]; omega), cell_old _ _ _ _ hlt]; exact k1
    have hB2 : Below w.heap.size w w2 := (hB.alloc hB.size _).trans (hb2.mono (by simp only [size_new]; omega))
    clear hw2
    have c5' := c5 _ (hL.later hB2)
    go_wp2_with fail
    refine (c3 _).mono ?_
    rintro e w3 ⟨rfl, rfl⟩
    go_wp2_with fail
    refine (c4 _).mono ?_
    rintro e w3 ⟨rfl, rfl⟩
    go_wp2_with fail
    refine c5'.mono ?_
    rintro e w4 ⟨rfl, hb4⟩
    have hz4 := hb4.size
    have f0'' : w4.frozen? ⟨w.heap.size, 0, none⟩ = false := by rw [hb4.frozen (by show w.heap.size < _; omega)]; exact f0'
    have f1'' : w4.frozen? ⟨w.heap.size, 1, none⟩ = false := by rw [hb4.frozen (by show w.heap.size < _; omega)]; exact f1'
    have k0'' : w4.cell? ⟨w.heap.size, 0, none⟩ = some (.int .i64 0) := by rw [hb4.cell (by show w.heap.size < _; omega)]; exact k0'
    have k1'' : w4.cell? ⟨w.heap.size, 1, none⟩ = some (.string ⟨#[]⟩) := by rw [hb4.cell (by show w.heap.size < _; omega)]; exact k1'
    have hB4 := hB2.trans (hb4.mono hB2.size)
    go_wp2
    refine bodyPost_ret (v := .agg #[.int .i64 0, .string S]) ?_ rfl ⟨E.out, ?_⟩
    · simp [results, Tryd.results14, go_sem, k0'', k1'']
      done
    · exact (hB4.setCell (Nat.le_refl _) _).setCell (Nat.le_refl _) _
set_option maxHeartbeats 1000000 in
theorem walk_fnExactGainText (a0 : ByteArray) (w0 : a0.size ≤ maxLen) (w : World) (hL : LaidAt w) :
    Calls Tryd.prog 5 #[.string a0] w fun e w' => e = .returned (.bool true) ∧ Below w.heap.size w w' := by
  have c1 := fun w => specGainText a0 w w0
  have c2 := fun w hL => implGainText a0 w w0 hL
  generalize gtC a0 = C at c1 c2
  generalize gtS a0 = S at c1 c2
  unfold maxLen at w0
  by_cases hb : 1048576 < a0.size
  · have hb' : 1048576 < (a0.size : Int) := by omega
    go_enter Tryd.func5, Tryd.ntmps5
    go_wp2_with fail
    go_ret
    exact ⟨rfl, Below.refl _ _⟩
  · have hb' : ¬ 1048576 < (a0.size : Int) := by omega
    go_enter Tryd.func5, Tryd.ntmps5
    go_wp2_with fail
    refine (c1 _).mono ?_
    rintro e w1 ⟨rfl, hb1⟩
    go_wp2_with fail
    have hA1 := hb1.alloc hb1.size (.cells #[.int .i64 C, .string S] 30)
    refine (c2 _ (hL.later hA1)).mono ?_
    rintro e w2 ⟨rfl, hb2⟩
    have hz1 := hb1.size
    have hz2 := hb2.size
    simp only [size_new] at hz2
    have hlt : w1.heap.size < w2.heap.size := by omega
    have k0 : w2.cell? ⟨w1.heap.size, 0, none⟩ = some (.int .i64 C) := by rw [hb2.cell (by simp only [size_new]; omega)]; exact cell_new _ _ _ _ _ rfl
    have k1 : w2.cell? ⟨w1.heap.size, 1, none⟩ = some (.string S) := by rw [hb2.cell (by simp only [size_new]; omega)]; exact cell_new _ _ _ _ _ rfl
    go_wp2_with (go_at_call 20; refine (eqText_same _ _ _).mono ?_; rintro e w' ⟨rfl, rfl⟩)
    go_ret
    have hA : Below w.heap.size w w2 := hA1.trans (hb2.mono (by simp only [size_new]; omega))
    exact ⟨rfl, ((hA.alloc hA.size _).alloc (by have := hA.size; simp only [size_new]; omega) _).alloc (by have := hA.size; simp only [size_new]; omega) _⟩
end Go.Proofs.YtpcjgpgjjdlfdaaDoor
