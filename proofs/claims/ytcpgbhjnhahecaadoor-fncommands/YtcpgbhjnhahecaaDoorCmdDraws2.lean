/- Contracts of the draws of a bent command and of a kind: each hands back six numbers or one, and nothing that was there turns. -/
import Derived.Test.YtcpgbhjnhahecaaDoorCmdDraws
namespace Go.Proofs.YtcpgbhjnhahecaaDoor
open Go.ChangeShapes Go.WideShapes Go.ChangeAt Go.RowKit
open Cm
set_option linter.unusedVariables false

theorem fillB {w W : World} (A : Below w.heap.size w W) (R : Blk W w.heap.size (cmdV 0 0 0 0 0 0) 26) (x0 x1 x2 x3 x4 x5 : Int) :
    Below w.heap.size w ((((((W.setCell ⟨w.heap.size, 0, none⟩ (.int .i64 x0)).setCell ⟨w.heap.size, 1, none⟩ (.int .i64 x1)).setCell ⟨w.heap.size, 2, none⟩ (.int .i64 x2)).setCell ⟨w.heap.size, 3, none⟩ (.int .i64 x3)).setCell ⟨w.heap.size, 4, none⟩ (.int .i64 x4)).setCell ⟨w.heap.size, 5, none⟩ (.int .i64 x5)) ∧
    Blk ((((((W.setCell ⟨w.heap.size, 0, none⟩ (.int .i64 x0)).setCell ⟨w.heap.size, 1, none⟩ (.int .i64 x1)).setCell ⟨w.heap.size, 2, none⟩ (.int .i64 x2)).setCell ⟨w.heap.size, 3, none⟩ (.int .i64 x3)).setCell ⟨w.heap.size, 4, none⟩ (.int .i64 x4)).setCell ⟨w.heap.size, 5, none⟩ (.int .i64 x5)) w.heap.size (cmdV x0 x1 x2 x3 x4 x5) 26 :=
  ⟨(((((A.setCell (Nat.le_refl _) _).setCell (Nat.le_refl _) _).setCell (Nat.le_refl _) _).setCell (Nat.le_refl _) _).setCell (Nat.le_refl _) _).setCell (Nat.le_refl _) _,
    (((((R.set 0 (.int .i64 x0)).set 1 (.int .i64 x1)).set 2 (.int .i64 x2)).set 3 (.int .i64 x3)).set 4 (.int .i64 x4)).set 5 (.int .i64 x5)⟩
set_option maxHeartbeats 4000000 in
theorem l3BentC {w0 w : World} {a : Option Addr} {len cap : Nat} {t : Int} (st : St w0 w a len cap t) (hb : Bytes w0 a len w0.heap.size)
    (hl : len ≤ 1048576) (h0 : 0 ≤ t) (h1 : t ≤ 990000) :
    Calls Tryd.prog 27 #[.pointer (some ⟨w0.heap.size, 0, none⟩)] w fun e w' => ∃ cl sq k x y z : Int, e = .returned (.agg (cmdV cl sq k x y z)) ∧ Below w0.heap.size w0 w' := by
  have R0 := Blk.new w (cmdV 0 0 0 0 0 0) 26
  have hne : some w.heap.size ≠ some w0.heap.size := by have := st.src.lt; simp; omega
  have hlt := st.src.lt
  have G0 : w.grownBy (w.alloc (.cells (cmdV 0 0 0 0 0 0) 26)) (some w0.heap.size) := World.grownBy_alloc w _ _
  have stA := st.alloc (.cells (cmdV 0 0 0 0 0 0) 26)
  clear st
  go_enter Tryd.func27, Tryd.ntmps27
  go_wp2_with fail
  refine (l3DrawSt stA hb hl (by omega) (by omega)).mono ?_
  rintro e w1 ⟨cl, sq, k, x, y, z, rfl, _, st1, g1⟩
  have R1 := (R0.grown g1 hne).alloc (.cells (cmdV cl sq k x y z) 26)
  have hRC : w.heap.size < w1.heap.size := (R0.grown g1 hne).lt
  have G1 := grown_trans (grown_trans G0 g1) (World.grownBy_alloc w1 (.cells (cmdV cl sq k x y z) 26) _)
  have C1 := Blk.new w1 (cmdV cl sq k x y z) 26
  have hne1 : some w1.heap.size ≠ some w0.heap.size := by have := st1.src.lt; simp; omega
  replace st1 := st1.alloc (.cells (cmdV cl sq k x y z) 26)
  clear R0 G0 stA g1
  go_wp2_with fail
  refine (drawsB st1 hb hl (by omega) (by omega) (by omega) (by omega)).mono ?_
  rintro e w2 ⟨r, rfl, r0, r1, st2, g2⟩
  have R2 := R1.grown g2 hne
  have C2 := C1.grown g2 hne1
  have G2 := grown_trans G1 g2
  have hRC2 : w.heap.size ≠ w1.heap.size := by omega
  clear R1 C1 G1 st1 g2
  have hr : r = 0 ∨ r = 1 ∨ r = 2 ∨ ((r == 0) = false ∧ (r == 1) = false ∧ (r == 2) = false) := by
    by_cases e0 : r = 0
    · exact .inl e0
    by_cases e1 : r = 1
    · exact .inr (.inl e1)
    by_cases e2 : r = 2
    · exact .inr (.inr (.inl e2))
    exact .inr (.inr (.inr ⟨beq_false_of_ne e0, beq_false_of_ne e1, beq_false_of_ne e2⟩))
  rcases hr with rfl | rfl | rfl | ⟨e0, e1, e2⟩
  · clear r0 r1
    go_wp2_with fail
    refine (pickN PAny rfl st2 hb hl (by omega) (by omega) (by omega) (by omega) (by simp [IntRow, PAny]) (by rfl)).mono ?_
    rintro e w3 ⟨v, rfl, _, st3, g3⟩
    have R3 := R2.grown g3 hne
    have C3 := C2.grown g3 hne1
    have G3 := grown_trans G2 g3
    clear R2 C2 G2 st2 g3
    obtain ⟨q0, q1, q2, q3, q4, q5, ql⟩ := C3.cmd
    obtain ⟨u0, u1, u2, u3, u4, u5, ul⟩ := R3.cmd
    have y0 := C3.frozen 0
    have y2 := C3.frozen 2
    have y5 := C3.frozen 5
    have z0 := R3.frozen 0
    have z1 := R3.frozen 1
    have z2 := R3.frozen 2
    have z3 := R3.frozen 3
    have z4 := R3.frozen 4
    have z5 := R3.frozen 5
    go_wp2_with fail
    obtain ⟨D8, R8⟩ := DS.fill ((⟨hlt, st3, G3⟩ : DS w0 w w3 _ _ _ _).set (p := ⟨w1.heap.size, 2, none⟩) (Nat.le_of_lt hRC) (.int .i64 v)) (R3.setOther (a := ⟨w1.heap.size, 2, none⟩) hRC2 (.int .i64 v)) cl sq v x y z
    exact bodyPost_ret (v := .agg (cmdV cl sq v x y z)) (result6 Tryd.results27 R8 _ rfl) rfl ⟨cl, sq, v, x, y, z, rfl, D8.st.bel⟩
  · clear r0 r1
    go_wp2_with fail
    refine (pickN PAny rfl st2 hb hl (by omega) (by omega) (by omega) (by omega) (by simp [IntRow, PAny]) (by rfl)).mono ?_
    rintro e w3 ⟨v, rfl, _, st3, g3⟩
    have R3 := R2.grown g3 hne
    have C3 := C2.grown g3 hne1
    have G3 := grown_trans G2 g3
    clear R2 C2 G2 st2 g3
    obtain ⟨q0, q1, q2, q3, q4, q5, ql⟩ := C3.cmd
    obtain ⟨u0, u1, u2, u3, u4, u5, ul⟩ := R3.cmd
    have y0 := C3.frozen 0
    have y2 := C3.frozen 2
    have y5 := C3.frozen 5
    have z0 := R3.frozen 0
    have z1 := R3.frozen 1
    have z2 := R3.frozen 2
    have z3 := R3.frozen 3
    have z4 := R3.frozen 4
    have z5 := R3.frozen 5
    go_wp2_with fail
    obtain ⟨D8, R8⟩ := DS.fill ((⟨hlt, st3, G3⟩ : DS w0 w w3 _ _ _ _).set (p := ⟨w1.heap.size, 0, none⟩) (Nat.le_of_lt hRC) (.int .i64 v)) (R3.setOther (a := ⟨w1.heap.size, 0, none⟩) hRC2 (.int .i64 v)) v sq k x y z
    exact bodyPost_ret (v := .agg (cmdV v sq k x y z)) (result6 Tryd.results27 R8 _ rfl) rfl ⟨v, sq, k, x, y, z, rfl, D8.st.bel⟩
  · clear r0 r1
    go_wp2_with fail
    refine (pickN PAny rfl st2 hb hl (by omega) (by omega) (by omega) (by omega) (by simp [IntRow, PAny]) (by rfl)).mono ?_
    rintro e w3 ⟨v, rfl, _, st3, g3⟩
    have R3 := R2.grown g3 hne
    have C3 := C2.grown g3 hne1
    have G3 := grown_trans G2 g3
    clear R2 C2 G2 st2 g3
    obtain ⟨q0, q1, q2, q3, q4, q5, ql⟩ := C3.cmd
    obtain ⟨u0, u1, u2, u3, u4, u5, ul⟩ := R3.cmd
    have y0 := C3.frozen 0
    have y2 := C3.frozen 2
    have y5 := C3.frozen 5
    have z0 := R3.frozen 0
    have z1 := R3.frozen 1
    have z2 := R3.frozen 2
    have z3 := R3.frozen 3
    have z4 := R3.frozen 4
    have z5 := R3.frozen 5
    go_wp2_with fail
    obtain ⟨D8, R8⟩ := DS.fill ((⟨hlt, st3, G3⟩ : DS w0 w w3 _ _ _ _).set (p := ⟨w1.heap.size, 5, none⟩) (Nat.le_of_lt hRC) (.int .i64 v)) (R3.setOther (a := ⟨w1.heap.size, 5, none⟩) hRC2 (.int .i64 v)) cl sq k x y v
    exact bodyPost_ret (v := .agg (cmdV cl sq k x y v)) (result6 Tryd.results27 R8 _ rfl) rfl ⟨cl, sq, k, x, y, v, rfl, D8.st.bel⟩
  · clear r0 r1
    obtain ⟨q0, q1, q2, q3, q4, q5, ql⟩ := C2.cmd
    obtain ⟨u0, u1, u2, u3, u4, u5, ul⟩ := R2.cmd
    have y0 := C2.frozen 0
    have y2 := C2.frozen 2
    have y5 := C2.frozen 5
    have z0 := R2.frozen 0
    have z1 := R2.frozen 1
    have z2 := R2.frozen 2
    have z3 := R2.frozen 3
    have z4 := R2.frozen 4
    have z5 := R2.frozen 5
    go_wp2_with fail
    obtain ⟨D8, R8⟩ := DS.fill (⟨hlt, st2, G2⟩ : DS w0 w w2 _ _ _ _) R2 cl sq k x y z
    exact bodyPost_ret (v := .agg (cmdV cl sq k x y z)) (result6 Tryd.results27 R8 _ rfl) rfl ⟨cl, sq, k, x, y, z, rfl, D8.st.bel⟩
set_option maxHeartbeats 2000000 in
theorem drawPackCommand (w : World) (a : Option Addr) (len cap : Nat) (hb : Bytes w a len w.heap.size) (hl : len ≤ 1048576) :
    Calls Tryd.prog 7 #[.slice a len cap] w fun e w' => ∃ cl sq k x y z : Int, e = .returned (.agg (cmdV cl sq k x y z)) ∧ Below w.heap.size w w' := by
  have A0 := (Below.refl w.heap.size w).alloc (Nat.le_refl _) (.cells (cmdV 0 0 0 0 0 0) 26)
  have R0 := Blk.new w (cmdV 0 0 0 0 0 0) 26
  have hb1 := hb.later A0
  obtain ⟨W0, hW⟩ : ∃ W0, Hid (W0 = w.alloc (.cells (cmdV 0 0 0 0 0 0) 26)) := ⟨_, rfl⟩
  have hW' : W0 = w.alloc (.cells (cmdV 0 0 0 0 0 0) 26) := hW
  rw [← hW'] at A0 R0 hb1
  clear hW'
  have hlt := R0.lt
  go_enter Tryd.func7, Tryd.ntmps7
  go_wp2_with fail
  show Calls _ _ _ (w.alloc (.cells (cmdV 0 0 0 0 0 0) 26)) _
  have hW' : W0 = w.alloc (.cells (cmdV 0 0 0 0 0 0) 26) := hW
  rw [← hW']
  clear hW hW'
  refine (source W0 a len cap).mono ?_
  rintro e w1 ⟨rfl, st1⟩
  go_wp2_with fail
  refine (l3BentC st1 hb1 hl (by omega) (by omega)).mono ?_
  rintro e w2 ⟨cl, sq, k, x, y, z, rfl, B2⟩
  have R2 := R0.below B2
  have A2 := A0.trans (B2.mono (Nat.le_of_lt hlt))
  clear R0 A0 hb1 st1 B2
  obtain ⟨u0, u1, u2, u3, u4, u5, ul⟩ := R2.cmd
  have z0 := R2.frozen 0
  have z1 := R2.frozen 1
  have z2 := R2.frozen 2
  have z3 := R2.frozen 3
  have z4 := R2.frozen 4
  have z5 := R2.frozen 5
  go_wp2_with fail
  obtain ⟨A8, R8⟩ := fillB A2 R2 cl sq k x y z
  exact bodyPost_ret (v := .agg (cmdV cl sq k x y z)) (result6 Tryd.results7 R8 _ rfl) rfl ⟨cl, sq, k, x, y, z, rfl, A8⟩
set_option maxHeartbeats 2000000 in
theorem drawCommandText (w : World) (a : Option Addr) (len cap : Nat) (hb : Bytes w a len w.heap.size) (hl : len ≤ 1048576) :
    Calls Tryd.prog 10 #[.slice a len cap] w fun e w' => ∃ cl sq k x y z : Int, e = .returned (.agg (cmdV cl sq k x y z)) ∧ Below w.heap.size w w' := by
  have A0 := (Below.refl w.heap.size w).alloc (Nat.le_refl _) (.cells (cmdV 0 0 0 0 0 0) 26)
  have R0 := Blk.new w (cmdV 0 0 0 0 0 0) 26
  have hb1 := hb.later A0
  obtain ⟨W0, hW⟩ : ∃ W0, Hid (W0 = w.alloc (.cells (cmdV 0 0 0 0 0 0) 26)) := ⟨_, rfl⟩
  have hW' : W0 = w.alloc (.cells (cmdV 0 0 0 0 0 0) 26) := hW
  rw [← hW'] at A0 R0 hb1
  clear hW'
  have hlt := R0.lt
  go_enter Tryd.func10, Tryd.ntmps10
  go_wp2_with fail
  show Calls _ _ _ (w.alloc (.cells (cmdV 0 0 0 0 0 0) 26)) _
  have hW' : W0 = w.alloc (.cells (cmdV 0 0 0 0 0 0) 26) := hW
  rw [← hW']
  clear hW hW'
  refine (source W0 a len cap).mono ?_
  rintro e w1 ⟨rfl, st1⟩
  go_wp2_with fail
  refine (l3BentC st1 hb1 hl (by omega) (by omega)).mono ?_
  rintro e w2 ⟨cl, sq, k, x, y, z, rfl, B2⟩
  have R2 := R0.below B2
  have A2 := A0.trans (B2.mono (Nat.le_of_lt hlt))
  clear R0 A0 hb1 st1 B2
  obtain ⟨u0, u1, u2, u3, u4, u5, ul⟩ := R2.cmd
  have z0 := R2.frozen 0
  have z1 := R2.frozen 1
  have z2 := R2.frozen 2
  have z3 := R2.frozen 3
  have z4 := R2.frozen 4
  have z5 := R2.frozen 5
  go_wp2_with fail
  obtain ⟨A8, R8⟩ := fillB A2 R2 cl sq k x y z
  exact bodyPost_ret (v := .agg (cmdV cl sq k x y z)) (result6 Tryd.results10 R8 _ rfl) rfl ⟨cl, sq, k, x, y, z, rfl, A8⟩
set_option maxHeartbeats 1000000 in
theorem drawParamsOf (w : World) (a : Option Addr) (len cap : Nat) (hb : Bytes w a len w.heap.size) (hl : len ≤ 1048576) :
    Calls Tryd.prog 9 #[.slice a len cap] w fun e w' => ∃ k : Int, e = .returned (.int .i64 k) ∧ Below w.heap.size w w' := by
  go_enter Tryd.func9, Tryd.ntmps9
  go_wp2_with fail
  refine (source _ a len cap).mono ?_
  rintro e w1 ⟨rfl, st1⟩
  go_wp2_with fail
  refine (drawsSt st1 hb hl (by omega) (by omega) (by omega) (by omega)).mono ?_
  rintro e w2 ⟨r, rfl, r0, r1, st2⟩
  clear st1
  go_wp2_with fail
  go_ret
  exact ⟨_, rfl, st2.bel⟩
end Go.Proofs.YtcpgbhjnhahecaaDoor
