/- The contracts of the model's ReadCommand, of the laws' helpers on bytes, and the walk of the exact law of ReadCommand. Condition: the table of counts holds what its initialiser lays. -/
import Derived.Test.YtcpgbhjnhahecaaDoorL3Read0
import Derived.Test.YtcpgbhjnhahecaaDoorL3Read1
import Derived.Test.YtcpgbhjnhahecaaDoorL3Read2
import Derived.Test.YtcpgbhjnhahecaaDoorL3Read3
import Derived.Test.YtcpgbhjnhahecaaDoorReadCmd
import Derived.Test.YtcpgbhjnhahecaaDoorByteEq
import Derived.Test.YtcpgbhjnhahecaaDoorCmdLaid
namespace Go.Proofs.YtcpgbhjnhahecaaDoor
open Go.ChangeShapes Go.WideShapes Go.ChangeAt Go.RowKit
open Cm
set_option linter.unusedVariables false

theorem l3Read_c (g cap m : Nat) (l : List Int) (hm : l.length = m) (hcap : m ≤ cap) (hb : Byt l) (w : World) (hg : g < w.heap.size) (hat : BAt w g 0 l) :
    Calls Tryd.prog 31 #[.slice (some ⟨g, 0, none⟩) m cap] w fun e w' => LR (rdB l) (rdCmd l) e ∧ Below w.heap.size w w' := by
  cases hr : rlen l
  · have hR : rdB l = false := by unfold rdB; rw [hr]; rfl
    rw [hR]
    have cc : ∀ i, i < l.length → w.cell? ⟨g, i, none⟩ = some (.int .u8 (l.getD i 0)) := fun i hi => by have h := hat i _ (at_some hi); simpa using h
    by_cases hs : m < 6
    · exact (l3Read_short g cap m hs w).mono fun e w' ⟨h1, h2⟩ => ⟨by rw [h1]; exact LR.no rfl, h2⟩
    · have hk : inb (kd l) 1 11 = false ∨ (inb (kd l) 1 11 = true ∧ m ≠ 6 + 3 * pc (kd l)) := by
        rcases rlen_n hr with h | ⟨h1, h2⟩ | ⟨h1, h2, h3⟩
        · omega
        · exact .inl h2
        · exact .inr ⟨h2, by omega⟩
      exact (l3Read_kind g cap m (by omega) (kd l) (getD_bd hb 1) hk w hg (cc 1 (by omega))).mono fun e w' ⟨h1, h2⟩ => ⟨by rw [h1]; exact LR.no rfl, h2⟩
  obtain ⟨q1, q2, q3, q4⟩ := rlen_i hr
  have hk : inb (kd l) 1 11 = true := inb_t q2 q3
  unfold rdCmd
  rcases pc_cases (kd l) with hn | hn | hn | hn <;> rw [hn] at q4
  · obtain ⟨d0, d1, d2, d3, s0, s1, rfl⟩ : ∃ d0 d1 d2 d3 s0 s1 : Int, l = [d0, d1, d2, d3, s0, s1] := by
      match l, (show l.length = 6 by omega) with
      | [d0, d1, d2, d3, s0, s1], _ => exact ⟨d0, d1, d2, d3, s0, s1, rfl⟩
    have hn' : pc d1 = 0 := hn
    have e0 : rpa [d0, d1, d2, d3, s0, s1] 0 = 0 := by unfold rpa; rw [hn]; rfl
    have e1 : rpa [d0, d1, d2, d3, s0, s1] 1 = 0 := by unfold rpa; rw [hn]; rfl
    have e2 : rpa [d0, d1, d2, d3, s0, s1] 2 = 0 := by unfold rpa; rw [hn]; rfl
    have hq := rpk_iff hb hr
    rw [hn] at hq
    have hR : rdB [d0, d1, d2, d3, s0, s1] = ((256 * s0 + s1 == sm ([d0, d1, d2, d3, s0, s1].take 4)) && (rflt [d0, d1, d2, d3, s0, s1] == 0)) := by
      unfold rdB
      rw [hr, Bool.true_and, Bool.and_comm]
      congr 1
      by_cases h : rpk [d0, d1, d2, d3, s0, s1] = [d0, d1, d2, d3, s0, s1]
      · rw [decide_eq_true h]; exact (beq_iff_eq.2 (hq.1 h)).symm
      · rw [decide_eq_false h]; exact (beq_false_of_ne (fun e => h (hq.2 e))).symm
    rw [hR]
    unfold rflt
    rw [e0, e1, e2]
    exact l3Read_0 g cap m (by rw [← hm]; rfl) hcap d0 d1 d2 d3 s0 s1 (hb d0 (by simp)) (hb d1 (by simp)) (hb d2 (by simp)) (hb d3 (by simp)) (hb s0 (by simp)) (hb s1 (by simp)) hk hn' _ rfl hb w hg hat
  · obtain ⟨d0, d1, d2, d3, x0, y0, z0, s0, s1, rfl⟩ : ∃ d0 d1 d2 d3 x0 y0 z0 s0 s1 : Int, l = [d0, d1, d2, d3, x0, y0, z0, s0, s1] := by
      match l, (show l.length = 9 by omega) with
      | [d0, d1, d2, d3, x0, y0, z0, s0, s1], _ => exact ⟨d0, d1, d2, d3, x0, y0, z0, s0, s1, rfl⟩
    have hn' : pc d1 = 1 := hn
    have e0 : rpa [d0, d1, d2, d3, x0, y0, z0, s0, s1] 0 = x0 * 65536 + y0 * 256 + z0 := by unfold rpa; rw [hn]; show 65536 * x0 + 256 * y0 + z0 = _; omega
    have e1 : rpa [d0, d1, d2, d3, x0, y0, z0, s0, s1] 1 = 0 := by unfold rpa; rw [hn]; rfl
    have e2 : rpa [d0, d1, d2, d3, x0, y0, z0, s0, s1] 2 = 0 := by unfold rpa; rw [hn]; rfl
    have hq := rpk_iff hb hr
    rw [hn] at hq
    have hR : rdB [d0, d1, d2, d3, x0, y0, z0, s0, s1] = ((256 * s0 + s1 == sm ([d0, d1, d2, d3, x0, y0, z0, s0, s1].take 7)) && (rflt [d0, d1, d2, d3, x0, y0, z0, s0, s1] == 0)) := by
      unfold rdB
      rw [hr, Bool.true_and, Bool.and_comm]
      congr 1
      by_cases h : rpk [d0, d1, d2, d3, x0, y0, z0, s0, s1] = [d0, d1, d2, d3, x0, y0, z0, s0, s1]
      · rw [decide_eq_true h]; exact (beq_iff_eq.2 (hq.1 h)).symm
      · rw [decide_eq_false h]; exact (beq_false_of_ne (fun e => h (hq.2 e))).symm
    rw [hR]
    unfold rflt
    rw [e0, e1, e2]
    exact l3Read_1 g cap m (by rw [← hm]; rfl) hcap d0 d1 d2 d3 x0 y0 z0 s0 s1 (hb d0 (by simp)) (hb d1 (by simp)) (hb d2 (by simp)) (hb d3 (by simp)) (hb x0 (by simp)) (hb y0 (by simp)) (hb z0 (by simp)) (hb s0 (by simp)) (hb s1 (by simp)) hk hn' _ rfl hb w hg hat
  · obtain ⟨d0, d1, d2, d3, x0, y0, z0, x1, y1, z1, s0, s1, rfl⟩ : ∃ d0 d1 d2 d3 x0 y0 z0 x1 y1 z1 s0 s1 : Int, l = [d0, d1, d2, d3, x0, y0, z0, x1, y1, z1, s0, s1] := by
      match l, (show l.length = 12 by omega) with
      | [d0, d1, d2, d3, x0, y0, z0, x1, y1, z1, s0, s1], _ => exact ⟨d0, d1, d2, d3, x0, y0, z0, x1, y1, z1, s0, s1, rfl⟩
    have hn' : pc d1 = 2 := hn
    have e0 : rpa [d0, d1, d2, d3, x0, y0, z0, x1, y1, z1, s0, s1] 0 = x0 * 65536 + y0 * 256 + z0 := by unfold rpa; rw [hn]; show 65536 * x0 + 256 * y0 + z0 = _; omega
    have e1 : rpa [d0, d1, d2, d3, x0, y0, z0, x1, y1, z1, s0, s1] 1 = x1 * 65536 + y1 * 256 + z1 := by unfold rpa; rw [hn]; show 65536 * x1 + 256 * y1 + z1 = _; omega
    have e2 : rpa [d0, d1, d2, d3, x0, y0, z0, x1, y1, z1, s0, s1] 2 = 0 := by unfold rpa; rw [hn]; rfl
    have hq := rpk_iff hb hr
    rw [hn] at hq
    have hR : rdB [d0, d1, d2, d3, x0, y0, z0, x1, y1, z1, s0, s1] = ((256 * s0 + s1 == sm ([d0, d1, d2, d3, x0, y0, z0, x1, y1, z1, s0, s1].take 10)) && (rflt [d0, d1, d2, d3, x0, y0, z0, x1, y1, z1, s0, s1] == 0)) := by
      unfold rdB
      rw [hr, Bool.true_and, Bool.and_comm]
      congr 1
      by_cases h : rpk [d0, d1, d2, d3, x0, y0, z0, x1, y1, z1, s0, s1] = [d0, d1, d2, d3, x0, y0, z0, x1, y1, z1, s0, s1]
      · rw [decide_eq_true h]; exact (beq_iff_eq.2 (hq.1 h)).symm
      · rw [decide_eq_false h]; exact (beq_false_of_ne (fun e => h (hq.2 e))).symm
    rw [hR]
    unfold rflt
    rw [e0, e1, e2]
    exact l3Read_2 g cap m (by rw [← hm]; rfl) hcap d0 d1 d2 d3 x0 y0 z0 x1 y1 z1 s0 s1 (hb d0 (by simp)) (hb d1 (by simp)) (hb d2 (by simp)) (hb d3 (by simp)) (hb x0 (by simp)) (hb y0 (by simp)) (hb z0 (by simp)) (hb x1 (by simp)) (hb y1 (by simp)) (hb z1 (by simp)) (hb s0 (by simp)) (hb s1 (by simp)) hk hn' _ rfl hb w hg hat
  · obtain ⟨d0, d1, d2, d3, x0, y0, z0, x1, y1, z1, x2, y2, z2, s0, s1, rfl⟩ : ∃ d0 d1 d2 d3 x0 y0 z0 x1 y1 z1 x2 y2 z2 s0 s1 : Int, l = [d0, d1, d2, d3, x0, y0, z0, x1, y1, z1, x2, y2, z2, s0, s1] := by
      match l, (show l.length = 15 by omega) with
      | [d0, d1, d2, d3, x0, y0, z0, x1, y1, z1, x2, y2, z2, s0, s1], _ => exact ⟨d0, d1, d2, d3, x0, y0, z0, x1, y1, z1, x2, y2, z2, s0, s1, rfl⟩
    have hn' : pc d1 = 3 := hn
    have e0 : rpa [d0, d1, d2, d3, x0, y0, z0, x1, y1, z1, x2, y2, z2, s0, s1] 0 = x0 * 65536 + y0 * 256 + z0 := by unfold rpa; rw [hn]; show 65536 * x0 + 256 * y0 + z0 = _; omega
    have e1 : rpa [d0, d1, d2, d3, x0, y0, z0, x1, y1, z1, x2, y2, z2, s0, s1] 1 = x1 * 65536 + y1 * 256 + z1 := by unfold rpa; rw [hn]; show 65536 * x1 + 256 * y1 + z1 = _; omega
    have e2 : rpa [d0, d1, d2, d3, x0, y0, z0, x1, y1, z1, x2, y2, z2, s0, s1] 2 = x2 * 65536 + y2 * 256 + z2 := by unfold rpa; rw [hn]; show 65536 * x2 + 256 * y2 + z2 = _; omega
    have hq := rpk_iff hb hr
    rw [hn] at hq
    have hR : rdB [d0, d1, d2, d3, x0, y0, z0, x1, y1, z1, x2, y2, z2, s0, s1] = ((256 * s0 + s1 == sm ([d0, d1, d2, d3, x0, y0, z0, x1, y1, z1, x2, y2, z2, s0, s1].take 13)) && (rflt [d0, d1, d2, d3, x0, y0, z0, x1, y1, z1, x2, y2, z2, s0, s1] == 0)) := by
      unfold rdB
      rw [hr, Bool.true_and, Bool.and_comm]
      congr 1
      by_cases h : rpk [d0, d1, d2, d3, x0, y0, z0, x1, y1, z1, x2, y2, z2, s0, s1] = [d0, d1, d2, d3, x0, y0, z0, x1, y1, z1, x2, y2, z2, s0, s1]
      · rw [decide_eq_true h]; exact (beq_iff_eq.2 (hq.1 h)).symm
      · rw [decide_eq_false h]; exact (beq_false_of_ne (fun e => h (hq.2 e))).symm
    rw [hR]
    unfold rflt
    rw [e0, e1, e2]
    exact l3Read_3 g cap m (by rw [← hm]; rfl) hcap d0 d1 d2 d3 x0 y0 z0 x1 y1 z1 x2 y2 z2 s0 s1 (hb d0 (by simp)) (hb d1 (by simp)) (hb d2 (by simp)) (hb d3 (by simp)) (hb x0 (by simp)) (hb y0 (by simp)) (hb z0 (by simp)) (hb x1 (by simp)) (hb y1 (by simp)) (hb z1 (by simp)) (hb x2 (by simp)) (hb y2 (by simp)) (hb z2 (by simp)) (hb s0 (by simp)) (hb s1 (by simp)) hk hn' _ rfl hb w hg hat

theorem result7s {w : World} {p : Nat} {x0 x1 x2 x3 x4 x5 x6 : Int} (h : Blk w p #[.int .i64 x0, .int .i64 x1, .int .i64 x2, .int .i64 x3, .int .i64 x4, .int .i64 x5, .int .i64 x6] 28) (T : Array Value) (hT : T[2]?.getD undef = .pointer (some ⟨p, 0, none⟩)) :
    (results Tryd.f11 T).run Tryd.prog w = .ok (.agg #[.int .i64 x0, .int .i64 x1, .int .i64 x2, .int .i64 x3, .int .i64 x4, .int .i64 x5, .int .i64 x6]) w := by
  have c0 := h.cell (i := 0) rfl
  have c1 := h.cell (i := 1) rfl
  have c2 := h.cell (i := 2) rfl
  have c3 := h.cell (i := 3) rfl
  have c4 := h.cell (i := 4) rfl
  have c5 := h.cell (i := 5) rfl
  have c6 := h.cell (i := 6) rfl
  simp [results, Tryd.results11, go_sem, hT, c0, c1, c2, c3, c4, c5, c6]
set_option maxHeartbeats 2000000 in
theorem specReadCommand (g cap m : Nat) (l : List Int) (hm : l.length = m) (hcap : m ≤ cap) (hb : Byt l) (w : World) (hg : g < w.heap.size) (hat : BAt w g 0 l) :
    Calls Tryd.prog 11 #[.slice (some ⟨g, 0, none⟩) m cap] w fun e w' => e = .returned (.agg (rdV l)) ∧ Below w.heap.size w w' := by
  have A0 := (Below.refl w.heap.size w).alloc (Nat.le_refl _) (.cells Z7 28)
  have R0 := Blk.new w Z7 28
  have cM := l3Read_c g cap m l hm hcap hb (w.alloc (.cells Z7 28)) (by rw [size_new]; omega) (fun i x hi => by rw [A0.cell hg]; exact hat i x hi)
  unfold rdV
  cases hr : rdB l
  · rw [hr] at cM
    rw [if_neg (by decide)]
    have cM' := cM.mono (R' := fun e w' => (∃ y0 y1 y2 y3 y4 y5 : Int, e = .returned (.tuple #[.agg (cmdV y0 y1 y2 y3 y4 y5), .bool false])) ∧ Below (w.alloc (.cells Z7 28)).heap.size (w.alloc (.cells Z7 28)) w') (fun e w' ⟨h1, h2⟩ => ⟨by unfold LR at h1; rw [if_neg (by decide)] at h1; exact h1, h2⟩)
    clear cM hm hb hat hr
    go_enter Tryd.func11, Tryd.ntmps11
    go_wp2_with fail
    refine cM'.mono ?_
    rintro e w1 ⟨⟨y0, y1, y2, y3, y4, y5, rfl⟩, k1⟩
    have A1 := A0.trans (k1.mono A0.size)
    have R1 := R0.below k1
    have rl := R1.lt
    have c0 := R1.cell (i := 0) rfl
    have z0 := R1.frozen 0
    have c1 := R1.cell (i := 1) rfl
    have z1 := R1.frozen 1
    have c2 := R1.cell (i := 2) rfl
    have z2 := R1.frozen 2
    have c3 := R1.cell (i := 3) rfl
    have z3 := R1.frozen 3
    have c4 := R1.cell (i := 4) rfl
    have z4 := R1.frozen 4
    have c5 := R1.cell (i := 5) rfl
    have z5 := R1.frozen 5
    have c6 := R1.cell (i := 6) rfl
    have z6 := R1.frozen 6
    go_wp2_with fail
    have R2 : Blk ((((((((w1.setCell ⟨w.heap.size, 0, none⟩ (.int .i64 5)).setCell ⟨w.heap.size, 1, none⟩ (.int .i64 0)).setCell ⟨w.heap.size, 2, none⟩ (.int .i64 0)).setCell ⟨w.heap.size, 3, none⟩ (.int .i64 0)).setCell ⟨w.heap.size, 4, none⟩ (.int .i64 0)).setCell ⟨w.heap.size, 5, none⟩ (.int .i64 0)).setCell ⟨w.heap.size, 6, none⟩ (.int .i64 0)).alloc (.cells (cmdV y0 y1 y2 y3 y4 y5) 26)) w.heap.size #[.int .i64 5, .int .i64 0, .int .i64 0, .int .i64 0, .int .i64 0, .int .i64 0, .int .i64 0] 28 := Blk.alloc (((((((R1.set 0 _).set 1 _).set 2 _).set 3 _).set 4 _).set 5 _).set 6 _) _
    have A2 : Below w.heap.size w (((((((w1.setCell ⟨w.heap.size, 0, none⟩ (.int .i64 5)).setCell ⟨w.heap.size, 1, none⟩ (.int .i64 0)).setCell ⟨w.heap.size, 2, none⟩ (.int .i64 0)).setCell ⟨w.heap.size, 3, none⟩ (.int .i64 0)).setCell ⟨w.heap.size, 4, none⟩ (.int .i64 0)).setCell ⟨w.heap.size, 5, none⟩ (.int .i64 0)).setCell ⟨w.heap.size, 6, none⟩ (.int .i64 0)) := (((((((A1.setCell (Nat.le_refl _) _).setCell (Nat.le_refl _) _).setCell (Nat.le_refl _) _).setCell (Nat.le_refl _) _).setCell (Nat.le_refl _) _).setCell (Nat.le_refl _) _).setCell (Nat.le_refl _) _)
    have A3 : Below w.heap.size w ((((((((w1.setCell ⟨w.heap.size, 0, none⟩ (.int .i64 5)).setCell ⟨w.heap.size, 1, none⟩ (.int .i64 0)).setCell ⟨w.heap.size, 2, none⟩ (.int .i64 0)).setCell ⟨w.heap.size, 3, none⟩ (.int .i64 0)).setCell ⟨w.heap.size, 4, none⟩ (.int .i64 0)).setCell ⟨w.heap.size, 5, none⟩ (.int .i64 0)).setCell ⟨w.heap.size, 6, none⟩ (.int .i64 0)).alloc (.cells (cmdV y0 y1 y2 y3 y4 y5) 26)) := A2.alloc A2.size _
    exact bodyPost_ret (v := .agg #[.int .i64 5, .int .i64 0, .int .i64 0, .int .i64 0, .int .i64 0, .int .i64 0, .int .i64 0]) (result7s R2 _ rfl) rfl ⟨rfl, A3⟩
  · rw [hr] at cM
    rw [if_pos rfl]
    have cM' := cM.mono (R' := fun e w' => e = .returned (.tuple #[.agg (cmdV (rcl l) (rsq l) (kd l) (rpa l 0) (rpa l 1) (rpa l 2)), .bool true]) ∧ Below (w.alloc (.cells Z7 28)).heap.size (w.alloc (.cells Z7 28)) w') (fun e w' ⟨h1, h2⟩ => ⟨by unfold LR at h1; rw [if_pos rfl] at h1; exact h1, h2⟩)
    clear cM hm hb hat hr
    generalize rcl l = y0 at cM' ⊢
    generalize rsq l = y1 at cM' ⊢
    generalize kd l = y2 at cM' ⊢
    generalize rpa l 0 = y3 at cM' ⊢
    generalize rpa l 1 = y4 at cM' ⊢
    generalize rpa l 2 = y5 at cM' ⊢
    go_enter Tryd.func11, Tryd.ntmps11
    go_wp2_with fail
    refine cM'.mono ?_
    rintro e w1 ⟨rfl, k1⟩
    have A1 := A0.trans (k1.mono A0.size)
    have R1 := R0.below k1
    have rl := R1.lt
    have c0 := R1.cell (i := 0) rfl
    have z0 := R1.frozen 0
    have c1 := R1.cell (i := 1) rfl
    have z1 := R1.frozen 1
    have c2 := R1.cell (i := 2) rfl
    have z2 := R1.frozen 2
    have c3 := R1.cell (i := 3) rfl
    have z3 := R1.frozen 3
    have c4 := R1.cell (i := 4) rfl
    have z4 := R1.frozen 4
    have c5 := R1.cell (i := 5) rfl
    have z5 := R1.frozen 5
    have c6 := R1.cell (i := 6) rfl
    have z6 := R1.frozen 6
    go_wp2_with fail
    have R2 : Blk ((((((((w1.setCell ⟨w.heap.size, 0, none⟩ (.int .i64 0)).setCell ⟨w.heap.size, 1, none⟩ (.int .i64 y0)).setCell ⟨w.heap.size, 2, none⟩ (.int .i64 y1)).setCell ⟨w.heap.size, 3, none⟩ (.int .i64 y2)).setCell ⟨w.heap.size, 4, none⟩ (.int .i64 y3)).setCell ⟨w.heap.size, 5, none⟩ (.int .i64 y4)).setCell ⟨w.heap.size, 6, none⟩ (.int .i64 y5)).alloc (.cells (cmdV y0 y1 y2 y3 y4 y5) 26)) w.heap.size #[.int .i64 0, .int .i64 y0, .int .i64 y1, .int .i64 y2, .int .i64 y3, .int .i64 y4, .int .i64 y5] 28 := Blk.alloc (((((((R1.set 0 _).set 1 _).set 2 _).set 3 _).set 4 _).set 5 _).set 6 _) _
    have A2 : Below w.heap.size w (((((((w1.setCell ⟨w.heap.size, 0, none⟩ (.int .i64 0)).setCell ⟨w.heap.size, 1, none⟩ (.int .i64 y0)).setCell ⟨w.heap.size, 2, none⟩ (.int .i64 y1)).setCell ⟨w.heap.size, 3, none⟩ (.int .i64 y2)).setCell ⟨w.heap.size, 4, none⟩ (.int .i64 y3)).setCell ⟨w.heap.size, 5, none⟩ (.int .i64 y4)).setCell ⟨w.heap.size, 6, none⟩ (.int .i64 y5)) := (((((((A1.setCell (Nat.le_refl _) _).setCell (Nat.le_refl _) _).setCell (Nat.le_refl _) _).setCell (Nat.le_refl _) _).setCell (Nat.le_refl _) _).setCell (Nat.le_refl _) _).setCell (Nat.le_refl _) _)
    have A3 : Below w.heap.size w ((((((((w1.setCell ⟨w.heap.size, 0, none⟩ (.int .i64 0)).setCell ⟨w.heap.size, 1, none⟩ (.int .i64 y0)).setCell ⟨w.heap.size, 2, none⟩ (.int .i64 y1)).setCell ⟨w.heap.size, 3, none⟩ (.int .i64 y2)).setCell ⟨w.heap.size, 4, none⟩ (.int .i64 y3)).setCell ⟨w.heap.size, 5, none⟩ (.int .i64 y4)).setCell ⟨w.heap.size, 6, none⟩ (.int .i64 y5)).alloc (.cells (cmdV y0 y1 y2 y3 y4 y5) 26)) := A2.alloc A2.size _
    exact bodyPost_ret (v := .agg #[.int .i64 0, .int .i64 y0, .int .i64 y1, .int .i64 y2, .int .i64 y3, .int .i64 y4, .int .i64 y5]) (result7s R2 _ rfl) rfl ⟨rfl, A3⟩
end Go.Proofs.YtcpgbhjnhahecaaDoor
