/- DrawReadCommand: a row of bytes, packed, with a byte turned or cut short. -/
import Derived.Test.YtcpgbhjnhahecaaDoorCmdDraws2
import Derived.Test.YtcpgbhjnhahecaaDoorCmdRound
namespace Go.Proofs.YtcpgbhjnhahecaaDoor
open Go.ChangeShapes Go.WideShapes Go.ChangeAt Go.RowKit
open Cm
set_option linter.unusedVariables false

theorem BRow.caps {w : World} {base g n cap : Nat} {l : List Int} (h : BRow w base (.slice (some ⟨g, 0, none⟩) n cap) l) : n ≤ cap ∧ cap ≤ maxLen := by
  obtain ⟨h1, ⟨h2, _⟩ | ⟨g', cap', cur, hv, _, _, h3, h4, _⟩⟩ := h
  · cases h2
  · simp only [Value.slice.injEq] at hv
    obtain ⟨_, e1, e2⟩ := hv
    exact ⟨by omega, by omega⟩
theorem BRow.cut {w : World} {base g n cap : Nat} {l : List Int} (h : BRow w base (.slice (some ⟨g, 0, none⟩) n cap) l) (j : Nat) (hj : j ≤ n) : BRow w base (.slice (some ⟨g, 0, none⟩) j cap) (l.take j) := by
  have hl := h.len
  obtain ⟨h1, ⟨h2, _⟩ | ⟨g', cap', cur, hv, hbg, hc, h3, h4, h5, h6⟩⟩ := h
  · cases h2
  · simp only [Value.slice.injEq] at hv
    obtain ⟨e0, e1, e2⟩ := hv
    subst e2
    cases e0
    have hlj : (l.take j).length = j := by rw [List.length_take]; omega
    refine ⟨by simp, .inr ⟨g, cap, cur, by rw [hlj], hbg, hc, by omega, h4, h5, ?_⟩⟩
    rw [hlj, Nat.mul_one, List.map_take, ← h6, List.take_take]
    congr 1
    omega
theorem byt_take {l : List Int} (h : Byt l) (j : Nat) : Byt (l.take j) := fun x hx => h x (List.mem_of_mem_take hx)
set_option maxHeartbeats 2000000 in
theorem drawReadCommand (w : World) (a : Option Addr) (len cap : Nat) (hb : Bytes w a len w.heap.size) (hl : len ≤ 1048576) :
    Calls Tryd.prog 5 #[.slice a len cap] w fun e w' => ∃ (g m cp : Nat) (l : List Int), e = .returned (.slice (some ⟨g, 0, none⟩) m cp) ∧ BRow w' w.heap.size (.slice (some ⟨g, 0, none⟩) m cp) l ∧ Byt l ∧ m ≤ 40 ∧ Below w.heap.size w w' := by
  go_enter Tryd.func5, Tryd.ntmps5
  go_wp2_with fail
  refine (source w a len cap).mono ?_
  rintro e w1 ⟨rfl, st1⟩
  go_wp2_with fail
  refine (l3DrawSt st1 hb hl (by omega) (by omega)).mono ?_
  rintro e w2 ⟨cl, sq, k, x, y, z, rfl, hf, st2, g2⟩
  have C2 := Blk.new w2 (cmdV cl sq k x y z) 26
  replace st2 := st2.alloc (.cells (cmdV cl sq k x y z) 26)
  have HB : Hid (Byt (pk cl sq k x y z)) := pk_bd hf
  have cP := l3Pack_c w2.heap.size cl sq k x y z 26 hf _ C2 (by decide)
  have hple := pc_le k
  have hmm : 6 + 3 * pc k ≤ 40 := by omega
  have hm6 : 0 < 6 + 3 * pc k := by omega
  clear st1 g2 hf
  generalize pk cl sq k x y z = L at cP HB
  generalize 6 + 3 * pc k = m at cP hmm hm6
  go_wp2_with fail
  refine cP.mono ?_
  rintro e w3 ⟨g, cp, rfl, B3, bel3⟩
  have hne : some g ≠ some w.heap.size := by have h1 := B3.lt.1; have h2 := st2.src.lt; simp; omega
  have hgw : w.heap.size ≤ g := by have h1 := B3.lt.1; have h2 := st2.src.lt; omega
  replace B3 := B3.mono (Nat.le_of_lt st2.src.lt)
  have st3 := st2.later bel3
  clear cP C2 st2 bel3 hple
  go_wp2_with fail
  refine (drawsB st3 hb hl (by omega) (by omega) (by omega) (by omega)).mono ?_
  rintro e w4 ⟨r, rfl, r0, r1, st4, g4⟩
  have B4 := B3.grown g4 hne
  clear B3 st3 g4
  have hr : r = 0 ∨ r = 1 ∨ ((r == 0) = false ∧ (r == 1) = false) := by
    by_cases e0 : r = 0
    · exact .inl e0
    by_cases e1 : r = 1
    · exact .inr (.inl e1)
    exact .inr (.inr ⟨beq_false_of_ne e0, beq_false_of_ne e1⟩)
  rcases hr with rfl | rfl | ⟨e0, e1⟩
  · clear r0 r1
    go_wp2_with fail
    refine (drawsB st4 hb hl (by omega) (by omega) (by omega) (by omega)).mono ?_
    rintro e w5 ⟨i, rfl, i0, i1, st5, g5⟩
    have B5 := B4.grown g5 hne
    clear B4 st4 g5
    go_wp2_with fail
    refine (pickN PByte rfl st5 hb hl (by omega) (by omega) (by omega) (by omega) (by simp [IntRow, PByte]) (by rfl)).mono ?_
    rintro e w6 ⟨v, rfl, hv, st6, g6⟩
    have B6 := B5.grown g6 hne
    clear B5 st5 g6
    obtain ⟨v0, v1⟩ := hv
    have hil : i.toNat < L.length := by rw [B6.len]; omega
    have qc := B6.cell (List.getElem?_eq_getElem hil)
    have qf := B6.frozen i.toNat
    have qw : IntKind.u8.wrap v = v := by rw [IntKind.wrap_u8]; omega
    go_wp2_with fail
    go_ret
    exact ⟨g, m, cp, L.set i.toNat v, rfl, B6.set i.toNat v, set_byt HB v0 v1, hmm, st6.bel.setCell hgw _⟩
  · clear r0 r1
    go_wp2_with fail
    refine (drawsB st4 hb hl (by omega) (by omega) (by omega) (by omega)).mono ?_
    rintro e w5 ⟨i, rfl, i0, i1, st5, g5⟩
    have B5 := B4.grown g5 hne
    clear B4 st4 g5
    have hc := B5.caps.1
    have hic : i.toNat ≤ cp := by omega
    go_wp2_with fail
    go_ret
    exact ⟨g, i.toNat, cp, L.take i.toNat, rfl, B5.cut i.toNat (by omega), byt_take HB _, by omega, st5.bel⟩
  · clear r0 r1
    go_wp2_with fail
    go_ret
    exact ⟨g, m, cp, L, rfl, B4, HB, hmm, st4.bel⟩
end Go.Proofs.YtcpgbhjnhahecaaDoor
