/- The contract of mustRead at bytes whose kind has 2 numbers. Condition: the table of counts holds what its initialiser lays. -/
import Derived.Test.YtcpgbhjnhahecaaDoorMustRead
namespace Go.Proofs.YtcpgbhjnhahecaaDoor
open Go.ChangeShapes Go.WideShapes Go.ChangeAt Go.RowKit
open Cm
set_option linter.unusedVariables false

set_option maxRecDepth 100000 in
set_option maxHeartbeats 4000000 in
theorem mustRead_2 (g cap m : Nat) (hm0 : m = 12) (hcap : m ≤ cap) (hcm : cap ≤ maxLen) (d0 d1 d2 d3 : Int) (b0 : 0 ≤ d0 ∧ d0 ≤ 255) (b1 : 0 ≤ d1 ∧ d1 ≤ 255) (b2 : 0 ≤ d2 ∧ d2 ≤ 255) (b3 : 0 ≤ d3 ∧ d3 ≤ 255) (x0 y0 z0 x1 y1 z1 s0 s1 : Int) (bx0 : 0 ≤ x0 ∧ x0 ≤ 255) (by0 : 0 ≤ y0 ∧ y0 ≤ 255) (bz0 : 0 ≤ z0 ∧ z0 ≤ 255) (bx1 : 0 ≤ x1 ∧ x1 ≤ 255) (by1 : 0 ≤ y1 ∧ y1 ≤ 255) (bz1 : 0 ≤ z1 ∧ z1 ≤ 255) (bs0 : 0 ≤ s0 ∧ s0 ≤ 255) (bs1 : 0 ≤ s1 ∧ s1 ≤ 255) (hk : inb d1 1 11 = true) (hn : pc d1 = 2) (l : List Int) (hl : l = [d0, d1, d2, d3, x0, y0, z0, x1, y1, z1, s0, s1]) (hb : Byt l) (w : World) (hL : PcAt w) (hg : g < w.heap.size) (hat : BAt w g 0 l) :
    Calls Tryd.prog 26 #[.slice (some ⟨g, 0, none⟩) m cap] w fun e w' => MR ((flt d0 (256 * d2 + d3) d1 (65536 * x0 + 256 * y0 + z0) (65536 * x1 + 256 * y1 + z1) (0) == 0) && decide (pk d0 (256 * d2 + d3) d1 (65536 * x0 + 256 * y0 + z0) (65536 * x1 + 256 * y1 + z1) (0) = l)) (cmdV d0 (256 * d2 + d3) d1 (65536 * x0 + 256 * y0 + z0) (65536 * x1 + 256 * y1 + z1) (0)) e ∧ Below w.heap.size w w' := by
  obtain ⟨B, hB⟩ : ∃ B : Bool, Hid (B = ((flt d0 (256 * d2 + d3) d1 (65536 * x0 + 256 * y0 + z0) (65536 * x1 + 256 * y1 + z1) (0) == 0) && decide (pk d0 (256 * d2 + d3) d1 (65536 * x0 + 256 * y0 + z0) (65536 * x1 + 256 * y1 + z1) (0) = l))) := ⟨_, rfl⟩
  rw [← hB.out]
  subst hm0
  have hlen : l.length = 12 := by rw [hl]; rfl
  have Hat : Hid (BAt w g 0 l) := hat
  have Hb : Hid (Byt l) := hb
  have Hlen : Hid (l.length = 12) := hlen
  have c0 : w.cell? ⟨g, 0, none⟩ = some (.int .u8 d0) := by have h := hat 0 d0 (by rw [hl]; rfl); simpa using h
  have c1 : w.cell? ⟨g, 1, none⟩ = some (.int .u8 d1) := by have h := hat 1 d1 (by rw [hl]; rfl); simpa using h
  have c2 : w.cell? ⟨g, 2, none⟩ = some (.int .u8 d2) := by have h := hat 2 d2 (by rw [hl]; rfl); simpa using h
  have c3 : w.cell? ⟨g, 3, none⟩ = some (.int .u8 d3) := by have h := hat 3 d3 (by rw [hl]; rfl); simpa using h
  have c4 : w.cell? ⟨g, 4, none⟩ = some (.int .u8 x0) := by have h := hat 4 x0 (by rw [hl]; rfl); simpa using h
  have c5 : w.cell? ⟨g, 5, none⟩ = some (.int .u8 y0) := by have h := hat 5 y0 (by rw [hl]; rfl); simpa using h
  have c6 : w.cell? ⟨g, 6, none⟩ = some (.int .u8 z0) := by have h := hat 6 z0 (by rw [hl]; rfl); simpa using h
  have c7 : w.cell? ⟨g, 7, none⟩ = some (.int .u8 x1) := by have h := hat 7 x1 (by rw [hl]; rfl); simpa using h
  have c8 : w.cell? ⟨g, 8, none⟩ = some (.int .u8 y1) := by have h := hat 8 y1 (by rw [hl]; rfl); simpa using h
  have c9 : w.cell? ⟨g, 9, none⟩ = some (.int .u8 z1) := by have h := hat 9 z1 (by rw [hl]; rfl); simpa using h
  have c10 : w.cell? ⟨g, 10, none⟩ = some (.int .u8 s0) := by have h := hat 10 s0 (by rw [hl]; rfl); simpa using h
  have c11 : w.cell? ⟨g, 11, none⟩ = some (.int .u8 s1) := by have h := hat 11 s1 (by rw [hl]; rfl); simpa using h
  have Hl : Hid (l = [d0, d1, d2, d3, x0, y0, z0, x1, y1, z1, s0, s1]) := hl
  clear hl hat hb hlen
  have e0 := i64_byte b0
  have e1 := i64_byte b1
  have hm1 : (0 : Int) < ((12 : Nat) : Int) := by omega
  have hm2 : (1 : Int) < ((12 : Nat) : Int) := by omega
  have hm3 : (4 : Int) ≤ (cap : Int) := by omega
  have hm' : decide (((12 : Nat) : Int) < 4) = false := by decide
  have n2 : ¬ cap = 2 := by omega
  go_enter Tryd.func26, Tryd.ntmps26
  go_upto_region 3 with fail
  go_cut [3] from 8 (fun s3 wx => s3 = .pointer (some ⟨w.heap.size + 1, 0, none⟩) ∧ wx = ((w.alloc (.cells (cmdV 0 0 0 0 0 0) 26)).alloc (.cells (cmdV d0 (256 * d2 + d3) d1 0 0 0) 26)).drew)
  case first =>
    go_region_held3 (fun w' => w'.cell? ⟨g, 0, none⟩ = some (.int .u8 d0) ∧ w'.cell? ⟨g, 1, none⟩ = some (.int .u8 d1) ∧ w'.cell? ⟨g, 2, none⟩ = some (.int .u8 d2) ∧ w'.cell? ⟨g, 3, none⟩ = some (.int .u8 d3)) (go_keep) (first | (go_at_call 42; refine (numberIn_2 g 2 (cap - 2) d2 d3 b2.1 b2.2 b3.1 b3.2 _ (by simp [*]) (by simp [*])).mono ?_; rintro e w' ⟨rfl, rfl⟩))
    all_goals
      go_wp2_with fail
      go_meet
      case rel => exact ⟨rfl, rfl⟩
  case rest =>
    obtain ⟨rfl, rfl⟩ := hcut
    clear e0 e1 hm'
    have A1 : Below w.heap.size w ((w.alloc (.cells (cmdV 0 0 0 0 0 0) 26)).alloc (.cells (cmdV d0 (256 * d2 + d3) d1 0 0 0) 26)).drew := (((Below.refl w.heap.size w).alloc (Nat.le_refl _) _).alloc (by rw [size_new]; omega) _).drew
    have C1 : Blk ((w.alloc (.cells (cmdV 0 0 0 0 0 0) 26)).alloc (.cells (cmdV d0 (256 * d2 + d3) d1 0 0 0) 26)).drew (w.heap.size + 1) (cmdV d0 (256 * d2 + d3) d1 0 0 0) 26 := by have h := Blk.new (w.alloc (.cells (cmdV 0 0 0 0 0 0) 26)) (cmdV d0 (256 * d2 + d3) d1 0 0 0) 26; rw [size_new] at h; exact h
    have R1 : Blk ((w.alloc (.cells (cmdV 0 0 0 0 0 0) 26)).alloc (.cells (cmdV d0 (256 * d2 + d3) d1 0 0 0) 26)).drew w.heap.size (cmdV 0 0 0 0 0 0) 26 := (Blk.new w (cmdV 0 0 0 0 0 0) 26).alloc _
    have cP := implParamsOf d1 _ (hL.later A1)
    rcases po_cases d1 with ⟨h, q1, q2⟩ | ⟨h, q1, q2⟩
    · rw [h] at hk; cases hk
    rw [q1, q2, hn] at cP
    clear q1 q2 h
    have n4 : ¬ cap = 4 := by omega
    have k7 : (7 : Int) ≤ (cap : Int) := by omega
    have n7 : ¬ cap = 7 := by omega
    have k10 : (10 : Int) ≤ (cap : Int) := by omega
    have hf1 : ∀ (s u : Value) (w : World), (Instr.field 32 (.agg #[s, u]) 1).run Tryd.prog w = .ok u w := fun _ _ _ => by kernel_rfl
    go_wp2_with fail
    refine cP.mono ?_
    rintro e w2 ⟨rfl, k2⟩
    have A2 := A1.trans (k2.mono A1.size)
    have C2 := C1.below k2
    have R2 := R1.below k2
    have hw2 : w.heap.size + 1 < w2.heap.size := C2.lt
    have gl : g < w2.heap.size := by omega
    replace c0 := (A2.cell (p := ⟨g, 0, none⟩) hg).trans c0
    replace c1 := (A2.cell (p := ⟨g, 1, none⟩) hg).trans c1
    replace c2 := (A2.cell (p := ⟨g, 2, none⟩) hg).trans c2
    replace c3 := (A2.cell (p := ⟨g, 3, none⟩) hg).trans c3
    replace c4 := (A2.cell (p := ⟨g, 4, none⟩) hg).trans c4
    replace c5 := (A2.cell (p := ⟨g, 5, none⟩) hg).trans c5
    replace c6 := (A2.cell (p := ⟨g, 6, none⟩) hg).trans c6
    replace c7 := (A2.cell (p := ⟨g, 7, none⟩) hg).trans c7
    replace c8 := (A2.cell (p := ⟨g, 8, none⟩) hg).trans c8
    replace c9 := (A2.cell (p := ⟨g, 9, none⟩) hg).trans c9
    have N0 := fun (W : World) (hW : Below w2.heap.size w2 W) => numberIn_3 g 4 (cap - 4) x0 y0 z0 bx0.1 bx0.2 by0.1 by0.2 bz0.1 bz0.2 W (by rw [hW.cell gl]; exact c4) (by rw [hW.cell gl]; exact c5) (by rw [hW.cell gl]; exact c6)
    have N1 := fun (W : World) (hW : Below w2.heap.size w2 W) => numberIn_3 g 7 (cap - 7) x1 y1 z1 bx1.1 bx1.2 by1.1 by1.2 bz1.1 bz1.2 W (by rw [hW.cell gl]; exact c7) (by rw [hW.cell gl]; exact c8) (by rw [hW.cell gl]; exact c9)
    clear cP C1 R1 A1
    go_wp2_with fail
    refine wp_loop_rounds 3 ?_
    rw [rounds_succ]
    go_wp2_with fail
    refine (N0 _ (((Below.refl _ _).alloc (Nat.le_refl _) _).alloc (by rw [size_new]; omega) _)).mono ?_
    rintro e w' ⟨rfl, rfl⟩
    go_wp2_with fail
    rw [rounds_succ]
    go_wp2_with fail
    refine (N1 _ (((Below.refl _ _).alloc (Nat.le_refl _) _).alloc (by rw [size_new]; omega) _)).mono ?_
    rintro e w' ⟨rfl, rfl⟩
    go_wp2_with fail
    rw [rounds_succ]
    go_wp2_with fail
    have C3 := (C2.alloc (.cells #[.int .i64 0, .int .i64 2] 37)).alloc (.cells #[.int .i64 (65536 * x0 + 256 * y0 + z0), .int .i64 (65536 * x1 + 256 * y1 + z1), .int .i64 (0)] 64)
    have R3 := (R2.alloc (.cells #[.int .i64 0, .int .i64 2] 37)).alloc (.cells #[.int .i64 (65536 * x0 + 256 * y0 + z0), .int .i64 (65536 * x1 + 256 * y1 + z1), .int .i64 (0)] 64)
    have q0 := C3.cell (i := 0) rfl
    have q1 := C3.cell (i := 1) rfl
    have q2 := C3.cell (i := 2) rfl
    have q3 := C3.cell (i := 3) rfl
    have q4 := C3.cell (i := 4) rfl
    have q5 := C3.cell (i := 5) rfl
    have fz3 := C3.frozen 3
    have fz4 := C3.frozen 4
    have fz5 := C3.frozen 5
    go_region
    go_wp2_with fail
    clear q0 q1 q2 q3 q4 q5 fz3 fz4 fz5
    have A4 : Below w.heap.size w (((((w2.alloc (.cells #[.int .i64 0, .int .i64 2] 37)).alloc (.cells #[.int .i64 (65536 * x0 + 256 * y0 + z0), .int .i64 (65536 * x1 + 256 * y1 + z1), .int .i64 (0)] 64)).setCell ⟨w.heap.size + 1, 3, none⟩ (.int .i64 (65536 * x0 + 256 * y0 + z0))).setCell ⟨w.heap.size + 1, 4, none⟩ (.int .i64 (65536 * x1 + 256 * y1 + z1))).setCell ⟨w.heap.size + 1, 5, none⟩ (.int .i64 (0))).drew := (((((A2.alloc A2.size _).alloc (by have := A2.size; rw [size_new]; omega) _).setCell (by show w.heap.size ≤ w.heap.size + 1; omega) _).setCell (by show w.heap.size ≤ w.heap.size + 1; omega) _).setCell (by show w.heap.size ≤ w.heap.size + 1; omega) _).drew
    have C4 : Blk (((((w2.alloc (.cells #[.int .i64 0, .int .i64 2] 37)).alloc (.cells #[.int .i64 (65536 * x0 + 256 * y0 + z0), .int .i64 (65536 * x1 + 256 * y1 + z1), .int .i64 (0)] 64)).setCell ⟨w.heap.size + 1, 3, none⟩ (.int .i64 (65536 * x0 + 256 * y0 + z0))).setCell ⟨w.heap.size + 1, 4, none⟩ (.int .i64 (65536 * x1 + 256 * y1 + z1))).setCell ⟨w.heap.size + 1, 5, none⟩ (.int .i64 (0))).drew (w.heap.size + 1) (cmdV d0 (256 * d2 + d3) d1 (65536 * x0 + 256 * y0 + z0) (65536 * x1 + 256 * y1 + z1) (0)) 26 := ((C3.set 3 _).set 4 _).set 5 _
    have R4 : Blk (((((w2.alloc (.cells #[.int .i64 0, .int .i64 2] 37)).alloc (.cells #[.int .i64 (65536 * x0 + 256 * y0 + z0), .int .i64 (65536 * x1 + 256 * y1 + z1), .int .i64 (0)] 64)).setCell ⟨w.heap.size + 1, 3, none⟩ (.int .i64 (65536 * x0 + 256 * y0 + z0))).setCell ⟨w.heap.size + 1, 4, none⟩ (.int .i64 (65536 * x1 + 256 * y1 + z1))).setCell ⟨w.heap.size + 1, 5, none⟩ (.int .i64 (0))).drew w.heap.size (cmdV 0 0 0 0 0 0) 26 := ((R3.setOther (by show w.heap.size ≠ w.heap.size + 1; omega) _).setOther (by show w.heap.size ≠ w.heap.size + 1; omega) _).setOther (by show w.heap.size ≠ w.heap.size + 1; omega) _
    clear C3 R3 A2 C2 R2
    cases hF : (flt d0 (256 * d2 + d3) d1 (65536 * x0 + 256 * y0 + z0) (65536 * x1 + 256 * y1 + z1) (0) == 0)
    · have HD : Hid ((flt d0 (256 * d2 + d3) d1 (65536 * x0 + 256 * y0 + z0) (65536 * x1 + 256 * y1 + z1) (0) == 0) = false) := hF
      have cK := implPack_no d0 (256 * d2 + d3) d1 (65536 * x0 + 256 * y0 + z0) (65536 * x1 + 256 * y1 + z1) (0) (by show (!(flt d0 (256 * d2 + d3) d1 (65536 * x0 + 256 * y0 + z0) (65536 * x1 + 256 * y1 + z1) (0) == 0)) = true; rw [hF]; rfl) _ (hL.later A4)
      refine cK.mono ?_
      clear cK
      rintro e w5 ⟨rfl, k5⟩
      have A5 := A4.trans (k5.mono A4.size)
      have cE := bytesEqual_c (.slice none 0 0) (.slice (some ⟨g, 0, none⟩) 12 cap) (bs []) (bs l) w5 (convN w5) (convB w5 g cap 12 l Hlen.out Hb.out (fun i x hi => by rw [A5.cell hg]; exact Hat.out i x hi))
      rw [bs_eq (fun _ h => by cases h) Hb.out, decide_eq_false (by intro e; have := Hlen.out; rw [← e] at this; cases this)] at cE
      clear A4 C4 R4 k5 hF
      go_wp2_with fail
      refine cE.mono ?_
      rintro e w6 ⟨rfl, rfl⟩
      go_wp2
      refine ⟨rfl, ?_, A5⟩
      exact MR.no (by rw [hB.out, HD.out]; rfl) ⟨_, _, rfl⟩
    · have hF0 : flt d0 (256 * d2 + d3) d1 (65536 * x0 + 256 * y0 + z0) (65536 * x1 + 256 * y1 + z1) (0) = 0 := by simpa using hF
      have cK := implPack_yes d0 (256 * d2 + d3) d1 (65536 * x0 + 256 * y0 + z0) (65536 * x1 + 256 * y1 + z1) (0) hF0 _ (hL.later A4)
      have hpl := pk_len d0 (256 * d2 + d3) d1 (65536 * x0 + 256 * y0 + z0) (65536 * x1 + 256 * y1 + z1) (0)
      have hpb := pk_bd hF0
      refine cK.mono ?_
      clear cK
      rintro e w5 ⟨g5, d5, rfl, O5, k5⟩
      have A5 := A4.trans (k5.mono A4.size)
      have C5 := C4.below k5
      have R5 := R4.below k5
      have cE := bytesEqual_c (.slice (some ⟨g5, 0, none⟩) 12 d5) (.slice (some ⟨g, 0, none⟩) 12 cap) (bs (pk d0 (256 * d2 + d3) d1 (65536 * x0 + 256 * y0 + z0) (65536 * x1 + 256 * y1 + z1) (0))) (bs l) w5 (convB w5 g5 d5 12 _ (by rw [hpl, hn]) hpb O5.at) (convB w5 g cap 12 l Hlen.out Hb.out (fun i x hi => by rw [A5.cell hg]; exact Hat.out i x hi))
      rw [bs_eq hpb Hb.out] at cE
      have HD : Hid ((flt d0 (256 * d2 + d3) d1 (65536 * x0 + 256 * y0 + z0) (65536 * x1 + 256 * y1 + z1) (0) == 0) = true) := hF
      clear A4 C4 R4 k5 hpl hpb O5 hF hF0
      cases hD : decide (pk d0 (256 * d2 + d3) d1 (65536 * x0 + 256 * y0 + z0) (65536 * x1 + 256 * y1 + z1) (0) = l)
      · rw [hD] at cE
        have HE : Hid (decide (pk d0 (256 * d2 + d3) d1 (65536 * x0 + 256 * y0 + z0) (65536 * x1 + 256 * y1 + z1) (0) = l) = false) := hD
        clear hD
        go_wp2_with fail
        refine cE.mono ?_
        rintro e w6 ⟨rfl, rfl⟩
        go_wp2
        refine ⟨rfl, ?_, A5⟩
        exact MR.no (by rw [hB.out, HD.out, HE.out]; rfl) ⟨_, _, rfl⟩
      · rw [hD] at cE
        have HE : Hid (decide (pk d0 (256 * d2 + d3) d1 (65536 * x0 + 256 * y0 + z0) (65536 * x1 + 256 * y1 + z1) (0) = l) = true) := hD
        clear hD
        go_wp2_with fail
        refine cE.mono ?_
        rintro e w6 ⟨rfl, rfl⟩
        have q0 := C5.cell (i := 0) rfl
        have r0 := R5.cell (i := 0) rfl
        have fz0 := R5.frozen 0
        have q1 := C5.cell (i := 1) rfl
        have r1 := R5.cell (i := 1) rfl
        have fz1 := R5.frozen 1
        have q2 := C5.cell (i := 2) rfl
        have r2 := R5.cell (i := 2) rfl
        have fz2 := R5.frozen 2
        have q3 := C5.cell (i := 3) rfl
        have r3 := R5.cell (i := 3) rfl
        have fz3 := R5.frozen 3
        have q4 := C5.cell (i := 4) rfl
        have r4 := R5.cell (i := 4) rfl
        have fz4 := R5.frozen 4
        have q5 := C5.cell (i := 5) rfl
        have r5 := R5.cell (i := 5) rfl
        have fz5 := R5.frozen 5
        have rl := R5.lt
        clear C5 R5 cE
        go_wp2
        refine bodyPost_ret (v := .agg (cmdV d0 (256 * d2 + d3) d1 (65536 * x0 + 256 * y0 + z0) (65536 * x1 + 256 * y1 + z1) (0))) ?_ rfl ⟨?_, ?_⟩
        · simp [results, Tryd.results26, go_sem, r0, r1, r2, r3, r4, r5]
          done
        · exact MR.yes (by rw [hB.out, HD.out, HE.out]; rfl)
        · exact ((((((A5.setCell (Nat.le_refl _) _).setCell (Nat.le_refl _) _).setCell (Nat.le_refl _) _).setCell (Nat.le_refl _) _).setCell (Nat.le_refl _) _).setCell (Nat.le_refl _) _)
end Go.Proofs.YtcpgbhjnhahecaaDoor
