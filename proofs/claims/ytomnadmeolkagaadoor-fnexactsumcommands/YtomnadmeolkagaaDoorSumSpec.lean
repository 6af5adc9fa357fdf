/- The sum of a list of commands: the model. Condition: the list has at most 1048576 commands. -/
import Derived.Test.YtomnadmeolkagaaDoorSumAll
namespace Go.Proofs.YtomnadmeolkagaaDoor
open Go.ChangeShapes Go.WideShapes Go.ChangeAt Go.RowKit
open Cm
set_option linter.unusedVariables false

set_option maxRecDepth 100000 in
set_option maxHeartbeats 4000000 in
theorem specSumCommands (w : World) (g cap m : Nat) (l : List K6) (hl : l.length = m) (hm : m ≤ 1048576) (hg : g < w.heap.size) (h : CAt w g 0 l) :
    Calls Tryd.prog 5 #[.slice (some ⟨g, 0, none⟩) m cap] w fun e w' => e = .returned (.agg #[.int .i64 (scC l), .int .i64 (scV l)]) ∧ Below w.heap.size w w' := by
  by_cases h20 : 20 < m
  · have e1 : Hid (scC l = 2 ∧ scV l = 0) := ⟨by unfold scC; rw [if_pos (by omega)], by unfold scV; rw [if_pos (by omega)]⟩
    have hd : decide ((20 : Int) < (m : Int)) = true := decide_eq_true (by omega)
    have hgt : (20 : Int) < (m : Int) := by omega
    rw [e1.out.1, e1.out.2]
    clear h hl
    go_enter Tryd.func5, Tryd.ntmps5
    go_wp2
    refine bodyPost_ret (v := .agg #[.int .i64 2, .int .i64 0]) ?_ rfl ⟨rfl, ?_⟩
    · simp [results, Tryd.results5, go_sem]
      done
    · exact (Below.refl _ _).alloc (Nat.le_refl _) _
  · have H : Hid (CAt w g 0 l) := h
    have Hl : Hid (l.length = m) := hl
    have Hg : Hid (g < w.heap.size) := hg
    obtain ⟨C, HC⟩ : ∃ C, Hid (C = scC l) := ⟨_, rfl⟩
    obtain ⟨V, HV⟩ : ∃ V, Hid (V = scV l) := ⟨_, rfl⟩
    rw [← HC.out, ← HV.out]
    have HC1 : Hid (C = sf l) := by show _ = _; rw [HC.out]; unfold scC; rw [if_neg (by omega)]
    have HV1 : Hid (V = if sf l = 0 then sm (sb l) else 0) := by show _ = _; rw [HV.out]; unfold scV; rw [if_neg (by omega)]
    have hle : ¬ (20 : Int) < (m : Int) := by omega
    have R0 := Blk.new w #[.int .i64 0, .int .i64 0] 25
    have A0 : Below w.heap.size w (w.alloc (.cells #[.int .i64 0, .int .i64 0] 25)) := (Below.refl _ _).alloc (Nat.le_refl _) _
    clear h hl hg
    go_enter Tryd.func5, Tryd.ntmps5
    go_wp2_with fail
    have O1 : BRow ((w.alloc (.cells #[.int .i64 0, .int .i64 0] 25)).alloc (.cells #[] 5)) w.heap.size (.slice (some ⟨w.heap.size + 1, 0, none⟩) 0 0) [] := by
      have := World.ownsRow_lit (w.alloc (.cells #[.int .i64 0, .int .i64 0] 25)) (base := w.heap.size) (e := 5) (size := 1) #[] 0 (by rw [size_new]; omega) (by unfold maxLen; omega) rfl
      rw [size_new] at this
      exact this
    have A1 := A0.alloc A0.size (.cells #[] 5)
    have R1 := R0.alloc (.cells #[] 5)
    clear R0 A0
    go_loopw [3, 4] (fun v i wr => ∃ k : Nat, k ≤ m ∧ i = .int .i64 k ∧ Hid (C = sf (l.drop k)) ∧ Hid (∀ z ∈ sb (l.take k), 0 ≤ z ∧ z ≤ 255) ∧ (sb (l.take k)).length ≤ 15 * k ∧ BRow wr w.heap.size v (sb (l.take k)) ∧ Below w.heap.size w wr ∧ Blk wr w.heap.size #[.int .i64 0, .int .i64 0] 25) (fun _ i _ => m - (intOf i).toNat)
    case atStart => exact ⟨0, Nat.zero_le _, rfl, HC1, fun z hz => by simp [sb] at hz, Nat.le_refl _, O1, A1, R1⟩
    case round =>
      obtain ⟨k, hk, rfl, Hk, Hb, hbl, O, A, R⟩ := hrel
      clear O1 A1 R1
      by_cases hlt : k < m
      · have hlt' : (k : Int) < (m : Int) := by omega
        obtain ⟨x, hx⟩ : ∃ x, l[k]? = some x := ⟨_, List.getElem?_eq_getElem (by have := Hl.out; omega)⟩
        have c1 := fun W h => l3FaultO_c g (k * 6) x.c0 x.c1 x.c2 x.c3 x.c4 x.c5 W h
        have c2 := fun W h => l3PackO_c g (k * 6) x.c0 x.c1 x.c2 x.c3 x.c4 x.c5 h W
        have HX : Hid (l[k]? = some x) := hx
        have hC1 := (H.out.later Hg.out A).cmdO (Nat.lt_of_lt_of_le Hg.out A.size) hx
        rw [Nat.zero_add] at hC1
        clear hx
        have hft : Hid (flt x.c0 x.c1 x.c2 x.c3 x.c4 x.c5 = ft6 x) := rfl
        cases hz : (ft6 x != 0)
        · have hz0 : ft6 x = 0 := by simpa using hz
          rw [show flt x.c0 x.c1 x.c2 x.c3 x.c4 x.c5 = 0 from hft.out.trans hz0] at c1
          have c2 := fun W hC => l3PackO_c g (k * 6) x.c0 x.c1 x.c2 x.c3 x.c4 x.c5 (hft.out.trans hz0) W hC
          have HE : Hid (C = sf (l.drop (k + 1))) := by show _ = _; rw [Hk.out, sf_yes HX.out hz0]
          have HB' : Hid (∀ z ∈ pk6 x, 0 ≤ z ∧ z ≤ 255) := pk_bd (hft.out.trans hz0)
          have HN : Hid (sb (l.take (k + 1)) = sb (l.take k) ++ pk6 x) := sb_next HX.out
          have hpl := pk6_len x
          have hp15 := pk6_le x
          go_wp2_with fail
          refine (c1 _ hC1).mono ?_
          rintro e w1 ⟨rfl, b1⟩
          have O2 := O.below b1
          have R2 := R.below b1
          have A2 := A.trans (b1.mono A.size)
          have hC2 := hC1.later b1
          clear O R A hC1
          go_wp2_with fail
          refine (c2 _ hC2).mono ?_
          rintro e w2 ⟨g2, cp2, rfl, P2, b2⟩
          have O3 := O2.below b2
          have R3 := R2.below b2
          have A3 := A2.trans (b2.mono A2.size)
          go_wp2_with (at_builtin; refine wpList_pushC rfl _ _ rfl w2 g2 (6 + 3 * pc x.c2) cp2 (pk6 x) w.heap.size _ _ rfl O3 rfl hpl (fun i z hz => P2.cell hz) (by omega) A3.size ?_)
          intro v4 w4 O4 q4 k4
          have A4 := A3.trans q4
          have R4 := R3.keeps k4 (by decide)
          rw [← HN.out] at O4
          go_wp2_with fail
          go_roundw
          case rel => exact ⟨k + 1, by omega, by go_num, HE, fun z hz => by rw [HN.out] at hz; rcases List.mem_append.1 hz with h | h; exact Hb.out z h; exact HB'.out z h, by rw [HN.out, List.length_append]; omega, O4, A4, R4⟩
          case measure => simp [intOf]; omega
        · have HE : Hid (C = ft6 x) := by show _ = _; rw [Hk.out, sf_no HX.out hz]
          have HE0 : Hid (V = 0) := by
            show _ = _
            rw [HV1.out, if_neg]
            rw [← HC1.out, HE.out]; simpa using hz
          have hft' := hft.out
          rw [hft.out] at c1
          go_wp2_with fail
          refine (c1 _ hC1).mono ?_
          rintro e w1 ⟨rfl, b1⟩
          have R2 := R.below b1
          have A2 := A.trans (b1.mono A.size)
          have r0 := R2.cell (i := 0) rfl
          have r1 := R2.cell (i := 1) rfl
          have f0 := R2.frozen 0
          have f1 := R2.frozen 1
          have rl := R2.lt
          clear O R A hC1
          go_wp2
          rw [HE.out, HE0.out]
          refine bodyPost_ret (v := .agg #[.int .i64 (ft6 x), .int .i64 0]) ?_ rfl ⟨rfl, ?_⟩
          · simp [results, Tryd.results5, go_sem, r0, r1]
            done
          · exact (A2.setCell (by show w.heap.size ≤ w.heap.size; omega) _).setCell (by show w.heap.size ≤ w.heap.size; omega) _
      · obtain rfl : k = m := by omega
        have hC0 : C = 0 := by rw [Hk.out, List.drop_of_length_le (by have := Hl.out; omega)]; rfl
        have e : l.take k = l := List.take_of_length_le (by have := Hl.out; omega)
        rw [e] at Hb hbl O
        have HE0 : Hid (V = sm (sb l)) := by show _ = _; rw [HV1.out, if_pos (by rw [← HC1.out, hC0])]
        clear e
        have r0 := R.cell (i := 0) rfl
        have r1 := R.cell (i := 1) rfl
        have f0 := R.frozen 0
        have f1 := R.frozen 1
        have rl := R.lt
        have c3 := l1Sum_row O (by omega) Hb.out
        have HC0 : Hid (C = 0) := hC0
        generalize sm (sb l) = S at c3 HE0
        clear hC0
        go_wp2_with fail
        refine c3.mono ?_
        rintro e w1 ⟨rfl, rfl⟩
        go_wp2
        rw [HC0.out, HE0.out]
        refine bodyPost_ret (v := .agg #[.int .i64 0, .int .i64 S]) ?_ rfl ⟨rfl, ?_⟩
        · simp [results, Tryd.results5, go_sem, r0, r1]
          done
        · exact (A.setCell (by show w.heap.size ≤ w.heap.size; omega) _).setCell (by show w.heap.size ≤ w.heap.size; omega) _
end Go.Proofs.YtomnadmeolkagaaDoor
