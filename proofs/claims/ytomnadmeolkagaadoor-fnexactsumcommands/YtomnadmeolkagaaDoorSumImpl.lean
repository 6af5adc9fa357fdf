/- The sum of a list of commands: the program. Conditions: the list has at most 1048576 commands; the table of counts holds what its initialiser lays. -/
import Derived.Test.YtomnadmeolkagaaDoorSumAll
namespace Go.Proofs.YtomnadmeolkagaaDoor
open Go.ChangeShapes Go.WideShapes Go.ChangeAt Go.RowKit
open Cm
set_option linter.unusedVariables false

set_option maxRecDepth 100000 in
set_option maxHeartbeats 4000000 in
theorem implSumCommands (w : World) (hL : PcAt w) (g cap m : Nat) (l : List K6) (hl : l.length = m) (hm : m ≤ 1048576) (hg : g < w.heap.size) (h : CAt w g 0 l) :
    Calls Tryd.prog 7 #[.slice (some ⟨g, 0, none⟩) m cap] w fun e w' => e = .returned (.agg #[.int .i64 (scC l), .int .i64 (scV l)]) ∧ Below w.heap.size w w' := by
  by_cases h20 : 20 < m
  · have e1 : Hid (scC l = 2 ∧ scV l = 0) := ⟨by unfold scC; rw [if_pos (by omega)], by unfold scV; rw [if_pos (by omega)]⟩
    have hd : decide ((20 : Int) < (m : Int)) = true := decide_eq_true (by omega)
    have hgt : (20 : Int) < (m : Int) := by omega
    rw [e1.out.1, e1.out.2]
    clear h hl
    go_enter Tryd.func7, Tryd.ntmps7
    go_wp2
    refine bodyPost_ret (v := .agg #[.int .i64 2, .int .i64 0]) ?_ rfl ⟨rfl, ?_⟩
    · simp [results, Tryd.results7, go_sem]
      done
    · exact (Below.refl _ _).alloc (Nat.le_refl _) _
  · have H : Hid (CAt w g 0 l) := h
    have Hl : Hid (l.length = m) := hl
    have Hg : Hid (g < w.heap.size) := hg
    obtain ⟨C, HC⟩ : ∃ C, Hid (C = scC l) := ⟨_, rfl⟩
    obtain ⟨V, HV⟩ : ∃ V, Hid (V = scV l) := ⟨_, rfl⟩
    rw [← HC.out, ← HV.out]
    have HC1 : Hid (C = sf l) := by show _ = _; rw [HC.out]; unfold scC; rw [if_neg (by omega)]
    have HV1 : Hid (V = if sf l = 0 then sm (sb l) else 0) := by show _ = _; rw [HV.out]; unfold scV; rw [if_neg (by omega)]
    have hle : ¬ (20 : Int) < (m : Int) := by omega
    have R0 := Blk.new w #[.int .i64 0, .int .i64 0] 25
    have A0 : Below w.heap.size w (w.alloc (.cells #[.int .i64 0, .int .i64 0] 25)) := (Below.refl _ _).alloc (Nat.le_refl _) _
    clear h hl hg
    go_enter Tryd.func7, Tryd.ntmps7
    go_wp2_with fail
    have O1 : BRow (w.alloc (.cells #[.int .i64 0, .int .i64 0] 25)) w.heap.size (.slice none 0 0) [] := ⟨rfl, .inl ⟨rfl, rfl⟩⟩
    have HLw : Hid (PcAt w) := hL
    clear hL
    go_loopw [3, 13] (fun v i wr => ∃ k : Nat, k ≤ m ∧ i = .int .i64 k ∧ Hid (C = sf (l.drop k)) ∧ Hid (∀ z ∈ sb (l.take k), 0 ≤ z ∧ z ≤ 255) ∧ (sb (l.take k)).length ≤ 15 * k ∧ BRow wr w.heap.size v (sb (l.take k)) ∧ Below w.heap.size w wr ∧ Blk wr w.heap.size #[.int .i64 0, .int .i64 0] 25) (fun _ i _ => m - (intOf i).toNat)
    case atStart => exact ⟨0, Nat.zero_le _, rfl, HC1, fun z hz => by simp [sb] at hz, Nat.le_refl _, O1, A0, R0⟩
    case round =>
      obtain ⟨k, hk, rfl, Hk, Hb, hbl, O, A, R⟩ := hrel
      clear O1 A0 R0
      by_cases hlt : k < m
      · have hlt' : (k : Int) < (m : Int) := by omega
        obtain ⟨x, hx⟩ : ∃ x, l[k]? = some x := ⟨_, List.getElem?_eq_getElem (by have := Hl.out; omega)⟩
        have HX : Hid (l[k]? = some x) := hx
        obtain ⟨q0, q1, q2, q3, q4, q5⟩ := (H.out.later Hg.out A).six hx
        rw [Nat.zero_add] at q0 q1 q2 q3 q4 q5
        have hgl := Nat.lt_of_lt_of_le Hg.out A.size
        clear hx
        have A1 := A.alloc A.size (.cells (cmdV x.c0 x.c1 x.c2 x.c3 x.c4 x.c5) 36)
        have R1 := R.alloc (.cells (cmdV x.c0 x.c1 x.c2 x.c3 x.c4 x.c5) 36)
        have O1 := O.alloc (.cells (cmdV x.c0 x.c1 x.c2 x.c3 x.c4 x.c5) 36)
        have C1 := (Blk.new wr (cmdV x.c0 x.c1 x.c2 x.c3 x.c4 x.c5) 36).cmd
        cases hz : (ft6 x != 0)
        · have hz0 : Hid (flt x.c0 x.c1 x.c2 x.c3 x.c4 x.c5 = 0) := by show ft6 x = 0; simpa using hz
          have c1 := fun W hL => implPack_yes x.c0 x.c1 x.c2 x.c3 x.c4 x.c5 hz0.out W hL
          have HE : Hid (C = sf (l.drop (k + 1))) := by show _ = _; rw [Hk.out, sf_yes HX.out hz0.out]
          have HB' : Hid (∀ z ∈ pk6 x, 0 ≤ z ∧ z ≤ 255) := pk_bd hz0.out
          have HN : Hid (sb (l.take (k + 1)) = sb (l.take k) ++ pk6 x) := sb_next HX.out
          have hpl := pk6_len x
          have hp15 := pk6_le x
          clear hz
          go_wp2_with fail
          obtain ⟨e0, e1, e2, e3, e4, e5, el⟩ := C1
          go_wp2_with fail
          refine (c1 _ (HLw.out.later A1)).mono ?_
          rintro e w1 ⟨g2, cp2, rfl, P2, b1⟩
          clear q0 q1 q2 q3 q4 q5 e0 e1 e2 e3 e4 e5
          have O2 := (O1.below b1).alloc (.cells #[.int .i64 0, .slice (some ⟨g2, 0, none⟩) (6 + 3 * pc x.c2) cp2] 42)
          have R2 := (R1.below b1).alloc (.cells #[.int .i64 0, .slice (some ⟨g2, 0, none⟩) (6 + 3 * pc x.c2) cp2] 42)
          have A2 := (A1.trans (b1.mono A1.size))
          have A3 := A2.alloc A2.size (.cells #[.int .i64 0, .slice (some ⟨g2, 0, none⟩) (6 + 3 * pc x.c2) cp2] 42)
          have T2 := Blk.new w1 #[.int .i64 0, .slice (some ⟨g2, 0, none⟩) (6 + 3 * pc x.c2) cp2] 42
          replace P2 := P2.alloc (.cells #[.int .i64 0, .slice (some ⟨g2, 0, none⟩) (6 + 3 * pc x.c2) cp2] 42)
          clear O R A O1 R1 A1
          go_wp2_with (at_builtin; refine wpList_pushC rfl _ _ rfl _ g2 (6 + 3 * pc x.c2) cp2 (pk6 x) w.heap.size _ _ rfl O2 rfl hpl (fun i z hz => P2.cell hz) (by omega) A3.size ?_)
          intro v4 w4 O4 q4 k4
          have A4 := A3.trans q4
          have R4 := R2.keeps k4 (by decide)
          rw [← HN.out] at O4
          go_wp2_with fail
          go_roundw
          case rel => exact ⟨k + 1, by omega, by go_num, HE, fun z hz => by rw [HN.out] at hz; rcases List.mem_append.1 hz with h | h; exact Hb.out z h; exact HB'.out z h, by rw [HN.out, List.length_append]; omega, O4, A4, R4⟩
          case measure => simp [intOf]; omega
        · have HE : Hid (C = ft6 x) := by show _ = _; rw [Hk.out, sf_no HX.out hz]
          have HE0 : Hid (V = 0) := by
            show _ = _
            rw [HV1.out, if_neg]
            rw [← HC1.out, HE.out]; simpa using hz
          have c1 := fun W hL => implPack_no x.c0 x.c1 x.c2 x.c3 x.c4 x.c5 hz W hL
          rw [show flt x.c0 x.c1 x.c2 x.c3 x.c4 x.c5 = ft6 x from rfl] at c1
          generalize ft6 x = Z at c1 hz HE
          go_wp2_with fail
          obtain ⟨e0, e1, e2, e3, e4, e5, el⟩ := C1
          go_wp2_with fail
          refine (c1 _ (HLw.out.later A1)).mono ?_
          rintro e w1 ⟨rfl, b1⟩
          clear q0 q1 q2 q3 q4 q5 e0 e1 e2 e3 e4 e5
          have R2 := (R1.below b1).alloc (.cells #[.int .i64 Z, .slice none 0 0] 42)
          have A2 := (A1.trans (b1.mono A1.size))
          have A3 := A2.alloc A2.size (.cells #[.int .i64 Z, .slice none 0 0] 42)
          have r0 := R2.cell (i := 0) rfl
          have r1 := R2.cell (i := 1) rfl
          have f0 := R2.frozen 0
          have f1 := R2.frozen 1
          have rl := R2.lt
          clear O R A O1 R1 A1
          go_wp2
          rw [HE.out, HE0.out]
          refine bodyPost_ret (v := .agg #[.int .i64 Z, .int .i64 0]) ?_ rfl ⟨rfl, ?_⟩
          · simp [results, Tryd.results7, go_sem, r0, r1]
            done
          · exact (A3.setCell (by show w.heap.size ≤ w.heap.size; omega) _).setCell (by show w.heap.size ≤ w.heap.size; omega) _
      · obtain rfl : k = m := by omega
        have hC0 : C = 0 := by rw [Hk.out, List.drop_of_length_le (by have := Hl.out; omega)]; rfl
        have e : l.take k = l := List.take_of_length_le (by have := Hl.out; omega)
        rw [e] at Hb hbl O
        have HE0 : Hid (V = sm (sb l)) := by show _ = _; rw [HV1.out, if_pos (by rw [← HC1.out, hC0])]
        clear e
        have r0 := R.cell (i := 0) rfl
        have r1 := R.cell (i := 1) rfl
        have f0 := R.frozen 0
        have f1 := R.frozen 1
        have rl := R.lt
        have c3 := sumOf_row O (by omega) Hb.out
        have HC0 : Hid (C = 0) := hC0
        generalize sm (sb l) = S at c3 HE0
        clear hC0
        go_wp2_with fail
        refine c3.mono ?_
        rintro e w1 ⟨rfl, rfl⟩
        go_wp2
        rw [HC0.out, HE0.out]
        refine bodyPost_ret (v := .agg #[.int .i64 0, .int .i64 S]) ?_ rfl ⟨rfl, ?_⟩
        · simp [results, Tryd.results7, go_sem, r0, r1]
          done
        · exact (A.setCell (by show w.heap.size ≤ w.heap.size; omega) _).setCell (by show w.heap.size ≤ w.heap.size; omega) _
end Go.Proofs.YtomnadmeolkagaaDoor
