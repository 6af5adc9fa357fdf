/- Contracts of the draws of chapter 3: each hands back a command, bytes or a number, and nothing that was there turns. Condition: the code has at most 1048576 bytes, which can be read. -/
import Derived.Test.YtcpgbhjnhahecaaDoorDraws
import Derived.Test.YtcpgbhjnhahecaaDoorSpecPack2
import Derived.Test.YtcpgbhjnhahecaaDoorMustRead
import Derived.Test.YtcpgbhjnhahecaaDoorByteEq
namespace Go.Proofs.YtcpgbhjnhahecaaDoor
open Go.ChangeShapes Go.WideShapes Go.ChangeAt Go.RowKit
open Cm
set_option linter.unusedVariables false

def PSm (x : Int) : Prop := 0 ≤ x ∧ x ≤ 100
def PKd (x : Int) : Prop := 1 ≤ x ∧ x ≤ 11
def PAny (x : Int) : Prop := True
def PByte (x : Int) : Prop := 0 ≤ x ∧ x ≤ 255
theorem St.later {w0 w w' : World} {a : Option Addr} {len cap : Nat} {t : Int} (h : St w0 w a len cap t) (hb : Below w.heap.size w w') : St w0 w' a len cap t :=
  ⟨by unfold Src; rw [hb.block _ h.src.lt]; exact h.src, h.bel.trans (hb.mono (Nat.le_of_lt h.src.lt))⟩
theorem flt_draw {cl sq k a b c : Int} (h1 : 0 ≤ cl) (h2 : cl ≤ 5) (h3 : 1 ≤ sq) (h4 : sq ≤ 999) (h5 : 1 ≤ k) (h6 : k ≤ 11) (ha : PSm a) (hb : PSm b) (hc : PSm c) :
    flt cl sq k (if 0 < pc k then a else 0) (if 1 < pc k then b else 0) (if 2 < pc k then c else 0) = 0 := by
  obtain ⟨a0, a1⟩ := ha
  obtain ⟨b0, b1⟩ := hb
  obtain ⟨c0, c1⟩ := hc
  have hz : inb 0 0 1000000 = true := inb_t (by omega) (by omega)
  have ia : inb a 0 1000000 = true := inb_t (by omega) (by omega)
  have ib : inb b 0 1000000 = true := inb_t (by omega) (by omega)
  have ic : inb c 0 1000000 = true := inb_t (by omega) (by omega)
  rw [flt_fl (inb_t h1 h2) (inb_t h3 h4) (inb_t h5 h6) rfl]
  rcases pc_cases k with hn | hn | hn | hn <;> rw [hn] <;> simp [fl, hz, ia, ib, ic]
theorem drawsB {w0 w : World} {n : Int} {a : Option Addr} {len cap : Nat} {t : Int} (st : St w0 w a len cap t) (hb : Bytes w0 a len w0.heap.size)
    (hl : len ≤ 1048576) (h0 : 0 ≤ t) (h1 : t ≤ 1000000) (hm : 1 ≤ n) (hm2 : n ≤ 1000000000) :
    Calls Tryd.prog 23 #[.pointer (some ⟨w0.heap.size, 0, none⟩), .int .i64 n] w fun e w' => ∃ r : Int, e = .returned (.int .i64 r) ∧ 0 ≤ r ∧ r < n ∧ St w0 w' a len cap (t + 1) ∧ w.grownBy w' (some w0.heap.size) := by
  refine (draws w w0.heap.size a len cap t n st.src (hb.kept st.bel) hl h0 h1 hm hm2).mono ?_
  rintro e w' ⟨r, rfl, hp, hp2, hs, hg⟩
  exact ⟨r, rfl, hp, hp2, ⟨hs, st.bel.trans (grown_below hg (Nat.le_of_lt st.src.lt))⟩, hg⟩
theorem pickB (P : Int → Prop) {w0 w : World} {q m m' : Nat} {a : Option Addr} {len cap : Nat} {t : Int} (st : St w0 w a len cap t) (hb : Bytes w0 a len w0.heap.size)
    (hl : len ≤ 1048576) (h0 : 0 ≤ t) (h1 : t ≤ 1000000) (hm : 1 ≤ m) (hm2 : m ≤ 1000000) (hq : w0.heap.size < q) (hr : Row P w q m) :
    Calls Tryd.prog 24 #[.pointer (some ⟨w0.heap.size, 0, none⟩), .slice (some ⟨q, 0, none⟩) m m'] w fun e w' => ∃ r : Int, e = .returned (.int .i64 r) ∧ P r ∧ St w0 w' a len cap (t + 1) ∧ w.grownBy w' (some w0.heap.size) := by
  refine (pick P w w0.heap.size q m m' a len cap t st.src (hb.kept st.bel) hl h0 h1 hm hm2 (by omega) hr).mono ?_
  rintro e w' ⟨r, rfl, hp, hs, hg⟩
  exact ⟨r, rfl, hp, ⟨hs, st.bel.trans (grown_below hg (Nat.le_of_lt st.src.lt))⟩, hg⟩
theorem pickN (P : Int → Prop) {w0 W : World} {l : List Value} {T : TypeId} {q m m' : Nat} {a : Option Addr} {len cap : Nat} {t : Int} (hq : W.heap.size = q) (st : St w0 W a len cap t) (hb : Bytes w0 a len w0.heap.size)
    (hl : len ≤ 1048576) (h0 : 0 ≤ t) (h1 : t ≤ 1000000) (hm : 1 ≤ m) (hm2 : m ≤ 1000000) (hr : IntRow P l) (hlm : l.length = m) :
    Calls Tryd.prog 24 #[.pointer (some ⟨w0.heap.size, 0, none⟩), .slice (some ⟨q, 0, none⟩) m m'] (W.alloc (.cells l.toArray T)) fun e w' => ∃ r : Int, e = .returned (.int .i64 r) ∧ P r ∧ St w0 w' a len cap (t + 1) ∧ W.grownBy w' (some w0.heap.size) := by
  subst hq
  refine (pickB P (st.alloc _) hb hl h0 h1 hm hm2 st.src.lt (row_new hr _ _ _ hlm.symm)).mono ?_
  rintro e w' ⟨r, rfl, hp, hs, hg⟩
  exact ⟨r, rfl, hp, hs, grown_trans (World.grownBy_alloc W _ _) hg⟩
theorem result6 {w : World} {p : Nat} {x0 x1 x2 x3 x4 x5 : Int} {f : Func} (hf : f.results = #[.cell 2 26]) (h : Blk w p (cmdV x0 x1 x2 x3 x4 x5) 26) (T : Array Value) (hT : T[2]?.getD undef = .pointer (some ⟨p, 0, none⟩)) :
    (results f T).run Tryd.prog w = .ok (.agg (cmdV x0 x1 x2 x3 x4 x5)) w := by
  obtain ⟨c0, c1, c2, c3, c4, c5, _⟩ := h.cmd
  simp [results, hf, go_sem, hT, c0, c1, c2, c3, c4, c5]
theorem grown_at {w W : World} {row : Option Nat} (h : w.grownBy W row) {a : Addr} (ha : w.heap.size ≤ a.block) (v : Value) : w.grownBy (W.setCell a v) row := by
  obtain ⟨h1, h2, h3, h4, h5⟩ := h
  exact ⟨h1, h2, h3, by simpa [World.setCell] using h4, fun i hi hn => by rw [Below.heap_setCell _ _ _ _ (by omega)]; exact h5 i hi hn⟩
/-- What a draw keeps: the source has drawn so often; nothing below `w` turned but the source. -/
structure DS (w0 w W : World) (a : Option Addr) (len cap : Nat) (t : Int) : Prop where
  lt : w0.heap.size < w.heap.size
  st : St w0 W a len cap t
  gr : w.grownBy W (some w0.heap.size)
theorem DS.set {w0 w W : World} {a : Option Addr} {len cap : Nat} {t : Int} (h : DS w0 w W a len cap t) {p : Addr} (hp : w.heap.size ≤ p.block) (v : Value) : DS w0 w (W.setCell p v) a len cap t :=
  ⟨h.lt, ⟨by have := h.lt; unfold Src; rw [Below.heap_setCell _ _ _ _ (by omega)]; exact h.st.src, h.st.bel.setCell (by have := h.lt; omega) v⟩, grown_at h.gr hp v⟩
theorem DS.fill {w0 w W : World} {a : Option Addr} {len cap : Nat} {t : Int} (h : DS w0 w W a len cap t) (R : Blk W w.heap.size (cmdV 0 0 0 0 0 0) 26) (x0 x1 x2 x3 x4 x5 : Int) :
    DS w0 w ((((((W.setCell ⟨w.heap.size, 0, none⟩ (.int .i64 x0)).setCell ⟨w.heap.size, 1, none⟩ (.int .i64 x1)).setCell ⟨w.heap.size, 2, none⟩ (.int .i64 x2)).setCell ⟨w.heap.size, 3, none⟩ (.int .i64 x3)).setCell ⟨w.heap.size, 4, none⟩ (.int .i64 x4)).setCell ⟨w.heap.size, 5, none⟩ (.int .i64 x5)) a len cap t ∧
    Blk ((((((W.setCell ⟨w.heap.size, 0, none⟩ (.int .i64 x0)).setCell ⟨w.heap.size, 1, none⟩ (.int .i64 x1)).setCell ⟨w.heap.size, 2, none⟩ (.int .i64 x2)).setCell ⟨w.heap.size, 3, none⟩ (.int .i64 x3)).setCell ⟨w.heap.size, 4, none⟩ (.int .i64 x4)).setCell ⟨w.heap.size, 5, none⟩ (.int .i64 x5)) w.heap.size (cmdV x0 x1 x2 x3 x4 x5) 26 :=
  ⟨(((((h.set (Nat.le_refl _) _).set (Nat.le_refl _) _).set (Nat.le_refl _) _).set (Nat.le_refl _) _).set (Nat.le_refl _) _).set (Nat.le_refl _) _,
    (((((R.set 0 (.int .i64 x0)).set 1 (.int .i64 x1)).set 2 (.int .i64 x2)).set 3 (.int .i64 x3)).set 4 (.int .i64 x4)).set 5 (.int .i64 x5)⟩
set_option maxHeartbeats 4000000 in
theorem l3DrawSt {w0 w : World} {a : Option Addr} {len cap : Nat} {t : Int} (st : St w0 w a len cap t) (hb : Bytes w0 a len w0.heap.size)
    (hl : len ≤ 1048576) (h0 : 0 ≤ t) (h1 : t ≤ 999000) :
    Calls Tryd.prog 21 #[.pointer (some ⟨w0.heap.size, 0, none⟩)] w fun e w' => ∃ cl sq k x y z : Int, e = .returned (.agg (cmdV cl sq k x y z)) ∧ flt cl sq k x y z = 0 ∧ St w0 w' a len cap (t + 1 + 1 + 1 + 1 + 1 + 1) ∧ w.grownBy w' (some w0.heap.size) := by
  have R0 := Blk.new w (cmdV 0 0 0 0 0 0) 26
  have hne : some w.heap.size ≠ some w0.heap.size := by have := st.src.lt; simp; omega
  have G0 : w.grownBy (w.alloc (.cells (cmdV 0 0 0 0 0 0) 26)) (some w0.heap.size) := World.grownBy_alloc w _ _
  have stA := st.alloc (.cells (cmdV 0 0 0 0 0 0) 26)
  go_enter Tryd.func21, Tryd.ntmps21
  go_wp2_with fail
  refine (drawsB stA hb hl (by omega) (by omega) (by omega) (by omega)).mono ?_
  rintro e w1 ⟨cl, rfl, cl0, cl1, st1, g1⟩
  have R1 := R0.grown g1 hne
  have G1 := grown_trans G0 g1
  go_wp2_with fail
  refine (drawsB st1 hb hl (by omega) (by omega) (by omega) (by omega)).mono ?_
  rintro e w2 ⟨sq, rfl, sq0, sq1, st2, g2⟩
  have R2 := R1.grown g2 hne
  have G2 := grown_trans G1 g2
  clear R0 R1 G0 G1 stA st1 g1 g2
  go_wp2_with fail
  refine (pickN PKd rfl st2 hb hl (by omega) (by omega) (by omega) (by omega) (by simp [IntRow, PKd]) (by rfl)).mono ?_
  rintro e w3 ⟨k, rfl, hk, st3, g3⟩
  have R3 := (R2.grown g3 hne).alloc (.cells (cmdV cl (1 + sq) k 0 0 0) 26)
  have G3 := grown_trans (grown_trans G2 g3) (World.grownBy_alloc w3 (.cells (cmdV cl (1 + sq) k 0 0 0) 26) _)
  have C3 := Blk.new w3 (cmdV cl (1 + sq) k 0 0 0) 26
  have hne3 : some w3.heap.size ≠ some w0.heap.size := by have := st3.src.lt; simp; omega
  have hRC : w.heap.size < w3.heap.size := R2.grown g3 hne |>.lt
  replace st3 := st3.alloc (.cells (cmdV cl (1 + sq) k 0 0 0) 26)
  clear R2 G2 st2 g3
  go_wp2_with fail
  refine (pickN PSm (size_new w3 (.cells (cmdV cl (1 + sq) k 0 0 0) 26)) st3 hb hl (by omega) (by omega) (by omega) (by omega) (by simp [IntRow, PSm]) (by rfl)).mono ?_
  rintro e w4 ⟨x, rfl, hx, st4, g4⟩
  have R4 := R3.grown g4 hne
  have C4 := C3.grown g4 hne3
  have G4 := grown_trans G3 g4
  clear R3 C3 G3 st3 g4
  go_wp2_with fail
  refine (pickN PSm rfl st4 hb hl (by omega) (by omega) (by omega) (by omega) (by simp [IntRow, PSm]) (by rfl)).mono ?_
  rintro e w5 ⟨y, rfl, hy, st5, g5⟩
  have R5 := R4.grown g5 hne
  have C5 := C4.grown g5 hne3
  have G5 := grown_trans G4 g5
  clear R4 C4 G4 st4 g5
  go_wp2_with fail
  refine (pickN PSm rfl st5 hb hl (by omega) (by omega) (by omega) (by omega) (by simp [IntRow, PSm]) (by rfl)).mono ?_
  rintro e w6 ⟨z, rfl, hz, st6, g6⟩
  have R6 := R5.grown g6 hne
  have C6 := C5.grown g6 hne3
  have G6 := grown_trans G5 g6
  clear R5 C5 G5 st5 g6
  have HF : Hid (flt cl (1 + sq) k (if 0 < pc k then x else 0) (if 1 < pc k then y else 0) (if 2 < pc k then z else 0) = 0) := flt_draw (by omega) (by omega) (by omega) (by omega) hk.1 hk.2 hx hy hz
  have q2 := C6.cell (i := 2) rfl
  have ql := C6.lt
  go_wp2_with fail
  refine (l3Params_c k hk.1 hk.2 _).mono ?_
  rintro e w' ⟨rfl, rfl⟩
  clear q2 ql
  obtain ⟨W, hW⟩ : ∃ W, W = (w6.alloc (.cells #[.int .i64 x, .int .i64 y, .int .i64 z] 2)).alloc pcO := ⟨_, rfl⟩
  have R7 := (R6.alloc (.cells #[.int .i64 x, .int .i64 y, .int .i64 z] 2)).alloc pcO
  have C7 := (C6.alloc (.cells #[.int .i64 x, .int .i64 y, .int .i64 z] 2)).alloc pcO
  have L7 := (Blk.new w6 #[.int .i64 x, .int .i64 y, .int .i64 z] 2).alloc pcO
  have st7 := (st6.alloc (.cells #[.int .i64 x, .int .i64 y, .int .i64 z] 2)).alloc pcO
  have G7 := grown_trans (grown_trans G6 (World.grownBy_alloc w6 (.cells #[.int .i64 x, .int .i64 y, .int .i64 z] 2) _)) (World.grownBy_alloc _ pcO _)
  clear R6 C6 st6 G6
  rw [← hW] at R7 C7 L7 st7 G7 ⊢
  clear hW
  have hRC2 : w.heap.size ≠ w3.heap.size := by omega
  have D7 : DS w0 w W a len cap (t + 1 + 1 + 1 + 1 + 1 + 1) := ⟨by have h1 := st.src.lt; exact h1, st7, G7⟩
  rcases pc_cases k with hn | hn | hn | hn
  all_goals
    rw [hn] at HF ⊢
    have u0 := L7.cell (i := 0) rfl
    have u1 := L7.cell (i := 1) rfl
    have u2 := L7.cell (i := 2) rfl
    obtain ⟨q0, q1, q2, q3, q4, q5, ql⟩ := C7.cmd
    obtain ⟨r0, r1, r2, r3, r4, r5, rl⟩ := R7.cmd
    have y0 := C7.frozen 3
    have y1 := C7.frozen 4
    have y2 := C7.frozen 5
    have z0 := R7.frozen 0
    have z1 := R7.frozen 1
    have z2 := R7.frozen 2
    have z3 := R7.frozen 3
    have z4 := R7.frozen 4
    have z5 := R7.frozen 5
    go_wp2_with fail
  · have HG : flt cl (1 + sq) k 0 0 0 = 0 := HF
    obtain ⟨D8, R8⟩ := DS.fill D7 R7 cl (1 + sq) k 0 0 0
    exact bodyPost_ret (v := .agg (cmdV cl (1 + sq) k 0 0 0)) (result6 Tryd.results21 R8 _ rfl) rfl ⟨cl, 1 + sq, k, 0, 0, 0, rfl, HG, D8.st, D8.gr⟩
  · have HG : flt cl (1 + sq) k x 0 0 = 0 := HF
    obtain ⟨D8, R8⟩ := DS.fill (D7.set (p := ⟨w3.heap.size, 3, none⟩) (Nat.le_of_lt hRC) (.int .i64 x)) (R7.setOther (a := ⟨w3.heap.size, 3, none⟩) hRC2 (.int .i64 x)) cl (1 + sq) k x 0 0
    exact bodyPost_ret (v := .agg (cmdV cl (1 + sq) k x 0 0)) (result6 Tryd.results21 R8 _ rfl) rfl ⟨cl, 1 + sq, k, x, 0, 0, rfl, HG, D8.st, D8.gr⟩
  · have HG : flt cl (1 + sq) k x y 0 = 0 := HF
    obtain ⟨D8, R8⟩ := DS.fill ((D7.set (p := ⟨w3.heap.size, 3, none⟩) (Nat.le_of_lt hRC) (.int .i64 x)).set (p := ⟨w3.heap.size, 4, none⟩) (Nat.le_of_lt hRC) (.int .i64 y)) ((R7.setOther (a := ⟨w3.heap.size, 3, none⟩) hRC2 (.int .i64 x)).setOther (a := ⟨w3.heap.size, 4, none⟩) hRC2 (.int .i64 y)) cl (1 + sq) k x y 0
    exact bodyPost_ret (v := .agg (cmdV cl (1 + sq) k x y 0)) (result6 Tryd.results21 R8 _ rfl) rfl ⟨cl, 1 + sq, k, x, y, 0, rfl, HG, D8.st, D8.gr⟩
  · have HG : flt cl (1 + sq) k x y z = 0 := HF
    obtain ⟨D8, R8⟩ := DS.fill (((D7.set (p := ⟨w3.heap.size, 3, none⟩) (Nat.le_of_lt hRC) (.int .i64 x)).set (p := ⟨w3.heap.size, 4, none⟩) (Nat.le_of_lt hRC) (.int .i64 y)).set (p := ⟨w3.heap.size, 5, none⟩) (Nat.le_of_lt hRC) (.int .i64 z)) (((R7.setOther (a := ⟨w3.heap.size, 3, none⟩) hRC2 (.int .i64 x)).setOther (a := ⟨w3.heap.size, 4, none⟩) hRC2 (.int .i64 y)).setOther (a := ⟨w3.heap.size, 5, none⟩) hRC2 (.int .i64 z)) cl (1 + sq) k x y z
    exact bodyPost_ret (v := .agg (cmdV cl (1 + sq) k x y z)) (result6 Tryd.results21 R8 _ rfl) rfl ⟨cl, 1 + sq, k, x, y, z, rfl, HG, D8.st, D8.gr⟩
end Go.Proofs.YtcpgbhjnhahecaaDoor
