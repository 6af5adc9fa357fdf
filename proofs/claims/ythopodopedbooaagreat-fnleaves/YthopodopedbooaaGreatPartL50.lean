/- Texts of mine put together (a claim holds at most 60 files): WldDraws6, WfSame, SameBI. -/
import Derived.Test.YthopodopedbooaaGreatPartL47
import Derived.Deep.CutRange
import Derived.Test.YthopodopedbooaaGreatPartL12
import Derived.Test.YthopodopedbooaaGreatPartL14
import Derived.Test.YthopodopedbooaaGreatPartL08
import Derived.Test.YthopodopedbooaaGreatPartL15

/- WldDraws6 -/
/- Contracts of the draws of pacts and gifts. Condition: the code has at most 1048576 bytes, which can be read. -/
section
namespace Go.Proofs.YthopodopedbooaaGreat
open Go.ChangeShapes Go.WideShapes Go.ChangeAt Go.RowKit
open Bd
set_option linter.unusedVariables false

abbrev st7 (W : World) (rb : Nat) (p : WP) (x : KW) : World := set7 W rb (.int .i64 x.t) (.int .i64 x.s) (.slice p.u x.us.length p.uc) (.slice p.f x.fs.length p.fc) (.slice p.a x.fa.length p.ac) (.slice p.s x.se.length p.sc) (.slice p.o x.oo.length p.oc)
theorem fill7 {W : World} {rb base : Nat} {p : WP} {x : KW} (R : Blk W rb zW 32) (h : OwW W base p x) {n0 : Nat} {v : World} (hb : Below n0 v W) (hn : n0 ≤ rb) (hn2 : n0 ≤ base) : Blk (st7 W rb p x) rb (p.v x) 32 ∧ OwW (st7 W rb p x) n0 p x ∧ Below n0 v (st7 W rb p x) :=
  ⟨set7_blk R _ _ _ _ _ _ _, (h.of_block R (by decide) (by decide) (by decide) (by decide) (by decide) (set7_other _ _ _ _ _ _ _)).mono hn2, set7_below hb hn _ _ _ _ _ _ _⟩
set_option maxRecDepth 20000 in
set_option maxHeartbeats 8000000 in
theorem drawAcceptPact_c (w : World) (a0 : Option Addr) (len cap : Nat) (hb : Bytes w a0 len w.heap.size) (hl : len ≤ 1048576) :
    Calls Tryz.prog 8 #[.slice a0 len cap] w fun e w' => ∃ p x i j, e = .returned (.tuple #[.agg (WP.v p x), .int .i64 i, .int .i64 j]) ∧ OwW w' w.heap.size p x ∧ DW x ∧ Below w.heap.size w w' := by
  obtain ⟨W1, HW1⟩ : ∃ W1, Hid (W1 = w.alloc (.cells zW 32)) := ⟨_, rfl⟩
  have A0 : Below w.heap.size w W1 := by rw [HW1.out]; exact (Below.refl _ _).alloc (Nat.le_refl _) _
  have R0 : Blk W1 w.heap.size zW 32 := by rw [HW1.out]; exact Blk.new w zW 32
  have cD := l7Draw_c W1 a0 len cap (hb.later A0) hl
  have hs1 := A0.size
  clear hb hl
  go_enter Tryz.func8, Tryz.ntmps8
  go_upto_region 1 with fail
  rw [← HW1.out]
  go_wp2_with fail
  refine cD.mono ?_
  rintro e w2 ⟨p, x, i, j, rfl, O2, dw, B2⟩
  have R2 := R0.below B2
  obtain ⟨F1, F2, F3⟩ := fill7 (v := w) (n0 := w.heap.size) R2 O2 (A0.trans (B2.mono hs1)) (Nat.le_refl _) hs1
  obtain ⟨t, s, us, fs, fa, se, oo⟩ := x
  obtain ⟨u, uc, f, fc, a, ac, q, qc, r, rc⟩ := p
  obtain ⟨y0, y1, y2, y3, y4, y5, y6, z0, z1, z2, z3, z4, z5, z6, rl⟩ := R2.z7
  go_wp2_with fail
  obtain ⟨c0, c1, c2, c3, c4, c5, c6, cl⟩ := F1.c7
  refine bodyPost_ret (v := .tuple #[.agg (wv t s u us.length uc f fs.length fc a fa.length ac q se.length qc r oo.length rc), .int .i64 i, .int .i64 j]) ?_ rfl ⟨⟨u, uc, f, fc, a, ac, q, qc, r, rc⟩, ⟨t, s, us, fs, fa, se, oo⟩, i, j, rfl, F2, dw, F3⟩
  simp [results, Tryz.results8, go_sem, c0, c1, c2, c3, c4, c5, c6]
  done
set_option maxRecDepth 20000 in
set_option maxHeartbeats 8000000 in
theorem drawBreakPact_c (w : World) (a0 : Option Addr) (len cap : Nat) (hb : Bytes w a0 len w.heap.size) (hl : len ≤ 1048576) :
    Calls Tryz.prog 10 #[.slice a0 len cap] w fun e w' => ∃ p x i j, e = .returned (.tuple #[.agg (WP.v p x), .int .i64 i, .int .i64 j]) ∧ OwW w' w.heap.size p x ∧ DW x ∧ Below w.heap.size w w' := by
  obtain ⟨W1, HW1⟩ : ∃ W1, Hid (W1 = w.alloc (.cells zW 32)) := ⟨_, rfl⟩
  have A0 : Below w.heap.size w W1 := by rw [HW1.out]; exact (Below.refl _ _).alloc (Nat.le_refl _) _
  have R0 : Blk W1 w.heap.size zW 32 := by rw [HW1.out]; exact Blk.new w zW 32
  have cD := l7Draw_c W1 a0 len cap (hb.later A0) hl
  have hs1 := A0.size
  clear hb hl
  go_enter Tryz.func10, Tryz.ntmps10
  go_upto_region 1 with fail
  rw [← HW1.out]
  go_wp2_with fail
  refine cD.mono ?_
  rintro e w2 ⟨p, x, i, j, rfl, O2, dw, B2⟩
  have R2 := R0.below B2
  obtain ⟨F1, F2, F3⟩ := fill7 (v := w) (n0 := w.heap.size) R2 O2 (A0.trans (B2.mono hs1)) (Nat.le_refl _) hs1
  obtain ⟨t, s, us, fs, fa, se, oo⟩ := x
  obtain ⟨u, uc, f, fc, a, ac, q, qc, r, rc⟩ := p
  obtain ⟨y0, y1, y2, y3, y4, y5, y6, z0, z1, z2, z3, z4, z5, z6, rl⟩ := R2.z7
  go_wp2_with fail
  obtain ⟨c0, c1, c2, c3, c4, c5, c6, cl⟩ := F1.c7
  refine bodyPost_ret (v := .tuple #[.agg (wv t s u us.length uc f fs.length fc a fa.length ac q se.length qc r oo.length rc), .int .i64 i, .int .i64 j]) ?_ rfl ⟨⟨u, uc, f, fc, a, ac, q, qc, r, rc⟩, ⟨t, s, us, fs, fa, se, oo⟩, i, j, rfl, F2, dw, F3⟩
  simp [results, Tryz.results10, go_sem, c0, c1, c2, c3, c4, c5, c6]
  done
set_option maxRecDepth 20000 in
set_option maxHeartbeats 8000000 in
theorem drawOfferPact_c (w : World) (a0 : Option Addr) (len cap : Nat) (hb : Bytes w a0 len w.heap.size) (hl : len ≤ 1048576) :
    Calls Tryz.prog 19 #[.slice a0 len cap] w fun e w' => ∃ p x i j, e = .returned (.tuple #[.agg (WP.v p x), .int .i64 i, .int .i64 j]) ∧ OwW w' w.heap.size p x ∧ DW x ∧ Below w.heap.size w w' := by
  obtain ⟨W1, HW1⟩ : ∃ W1, Hid (W1 = w.alloc (.cells zW 32)) := ⟨_, rfl⟩
  have A0 : Below w.heap.size w W1 := by rw [HW1.out]; exact (Below.refl _ _).alloc (Nat.le_refl _) _
  have R0 : Blk W1 w.heap.size zW 32 := by rw [HW1.out]; exact Blk.new w zW 32
  have cD := l7Draw_c W1 a0 len cap (hb.later A0) hl
  have hs1 := A0.size
  clear hb hl
  go_enter Tryz.func19, Tryz.ntmps19
  go_upto_region 1 with fail
  rw [← HW1.out]
  go_wp2_with fail
  refine cD.mono ?_
  rintro e w2 ⟨p, x, i, j, rfl, O2, dw, B2⟩
  have R2 := R0.below B2
  obtain ⟨F1, F2, F3⟩ := fill7 (v := w) (n0 := w.heap.size) R2 O2 (A0.trans (B2.mono hs1)) (Nat.le_refl _) hs1
  obtain ⟨t, s, us, fs, fa, se, oo⟩ := x
  obtain ⟨u, uc, f, fc, a, ac, q, qc, r, rc⟩ := p
  obtain ⟨y0, y1, y2, y3, y4, y5, y6, z0, z1, z2, z3, z4, z5, z6, rl⟩ := R2.z7
  go_wp2_with fail
  obtain ⟨c0, c1, c2, c3, c4, c5, c6, cl⟩ := F1.c7
  refine bodyPost_ret (v := .tuple #[.agg (wv t s u us.length uc f fs.length fc a fa.length ac q se.length qc r oo.length rc), .int .i64 i, .int .i64 j]) ?_ rfl ⟨⟨u, uc, f, fc, a, ac, q, qc, r, rc⟩, ⟨t, s, us, fs, fa, se, oo⟩, i, j, rfl, F2, dw, F3⟩
  simp [results, Tryz.results19, go_sem, c0, c1, c2, c3, c4, c5, c6]
  done
set_option maxRecDepth 20000 in
set_option maxHeartbeats 8000000 in
theorem drawAlliesOf_c (w : World) (a0 : Option Addr) (len cap : Nat) (hb : Bytes w a0 len w.heap.size) (hl : len ≤ 1048576) :
    Calls Tryz.prog 74 #[.slice a0 len cap] w fun e w' => ∃ p x i, e = .returned (.tuple #[.agg (WP.v p x), .int .i64 i]) ∧ OwW w' w.heap.size p x ∧ DW x ∧ Below w.heap.size w w' := by
  obtain ⟨W1, HW1⟩ : ∃ W1, Hid (W1 = w.alloc (.cells zW 32)) := ⟨_, rfl⟩
  have A0 : Below w.heap.size w W1 := by rw [HW1.out]; exact (Below.refl _ _).alloc (Nat.le_refl _) _
  have R0 : Blk W1 w.heap.size zW 32 := by rw [HW1.out]; exact Blk.new w zW 32
  have cD := l7Draw_c W1 a0 len cap (hb.later A0) hl
  have hs1 := A0.size
  clear hb hl
  go_enter Tryz.func74, Tryz.ntmps74
  go_upto_region 1 with fail
  rw [← HW1.out]
  go_wp2_with fail
  refine cD.mono ?_
  rintro e w2 ⟨p, x, i, j, rfl, O2, dw, B2⟩
  obtain ⟨t, s, us, fs, fa, se, oo⟩ := x
  obtain ⟨u, uc, f, fc, a, ac, q, qc, r, rc⟩ := p
  obtain ⟨W3, HW3⟩ : ∃ W3, Hid (W3 = w2.alloc (.cells (wv t s u us.length uc f fs.length fc a fa.length ac q se.length qc r oo.length rc) 32)) := ⟨_, rfl⟩
  have B3 : Below w2.heap.size w2 W3 := by rw [HW3.out]; exact (Below.refl _ _).alloc (Nat.le_refl _) _
  have G3 : Blk W3 w2.heap.size (wv t s u us.length uc f fs.length fc a fa.length ac q se.length qc r oo.length rc) 32 := by rw [HW3.out]; exact Blk.new w2 _ _
  have R2 := (R0.below B2).below B3
  obtain ⟨F1, F2, F3⟩ := fill7 (v := w) (n0 := w.heap.size) R2 (O2.later B3) (A0.trans ((B2.trans (B3.mono B2.size)).mono hs1)) (Nat.le_refl _) hs1
  obtain ⟨y0, y1, y2, y3, y4, y5, y6, z0, z1, z2, z3, z4, z5, z6, rl⟩ := R2.z7
  obtain ⟨q0, q1, q2, q3, q4, q5, q6, ql⟩ := G3.c7
  go_upto_region 2 with fail
  rw [← HW3.out]
  go_wp2_with fail
  obtain ⟨c0, c1, c2, c3, c4, c5, c6, cl⟩ := F1.c7
  refine bodyPost_ret (v := .tuple #[.agg (wv t s u us.length uc f fs.length fc a fa.length ac q se.length qc r oo.length rc), .int .i64 i]) ?_ rfl ⟨⟨u, uc, f, fc, a, ac, q, qc, r, rc⟩, ⟨t, s, us, fs, fa, se, oo⟩, i, rfl, F2, dw, F3⟩
  simp [results, Tryz.results74, go_sem, c0, c1, c2, c3, c4, c5, c6]
  done
set_option maxRecDepth 20000 in
set_option maxHeartbeats 8000000 in
theorem drawLeaveSide_c (w : World) (a0 : Option Addr) (len cap : Nat) (hb : Bytes w a0 len w.heap.size) (hl : len ≤ 1048576) :
    Calls Tryz.prog 28 #[.slice a0 len cap] w fun e w' => ∃ p x i, e = .returned (.tuple #[.agg (WP.v p x), .int .i64 i]) ∧ OwW w' w.heap.size p x ∧ DW x ∧ Below w.heap.size w w' := by
  obtain ⟨W1, HW1⟩ : ∃ W1, Hid (W1 = w.alloc (.cells zW 32)) := ⟨_, rfl⟩
  have A0 : Below w.heap.size w W1 := by rw [HW1.out]; exact (Below.refl _ _).alloc (Nat.le_refl _) _
  have R0 : Blk W1 w.heap.size zW 32 := by rw [HW1.out]; exact Blk.new w zW 32
  have cD := l7Draw_c W1 a0 len cap (hb.later A0) hl
  have hs1 := A0.size
  clear hb hl
  go_enter Tryz.func28, Tryz.ntmps28
  go_upto_region 1 with fail
  rw [← HW1.out]
  go_wp2_with fail
  refine cD.mono ?_
  rintro e w2 ⟨p, x, i, j, rfl, O2, dw, B2⟩
  obtain ⟨t, s, us, fs, fa, se, oo⟩ := x
  obtain ⟨u, uc, f, fc, a, ac, q, qc, r, rc⟩ := p
  obtain ⟨W3, HW3⟩ : ∃ W3, Hid (W3 = w2.alloc (.cells (wv t s u us.length uc f fs.length fc a fa.length ac q se.length qc r oo.length rc) 32)) := ⟨_, rfl⟩
  have B3 : Below w2.heap.size w2 W3 := by rw [HW3.out]; exact (Below.refl _ _).alloc (Nat.le_refl _) _
  have G3 : Blk W3 w2.heap.size (wv t s u us.length uc f fs.length fc a fa.length ac q se.length qc r oo.length rc) 32 := by rw [HW3.out]; exact Blk.new w2 _ _
  have R2 := (R0.below B2).below B3
  obtain ⟨F1, F2, F3⟩ := fill7 (v := w) (n0 := w.heap.size) R2 (O2.later B3) (A0.trans ((B2.trans (B3.mono B2.size)).mono hs1)) (Nat.le_refl _) hs1
  obtain ⟨y0, y1, y2, y3, y4, y5, y6, z0, z1, z2, z3, z4, z5, z6, rl⟩ := R2.z7
  obtain ⟨q0, q1, q2, q3, q4, q5, q6, ql⟩ := G3.c7
  go_upto_region 2 with fail
  rw [← HW3.out]
  go_wp2_with fail
  obtain ⟨c0, c1, c2, c3, c4, c5, c6, cl⟩ := F1.c7
  refine bodyPost_ret (v := .tuple #[.agg (wv t s u us.length uc f fs.length fc a fa.length ac q se.length qc r oo.length rc), .int .i64 i]) ?_ rfl ⟨⟨u, uc, f, fc, a, ac, q, qc, r, rc⟩, ⟨t, s, us, fs, fa, se, oo⟩, i, rfl, F2, dw, F3⟩
  simp [results, Tryz.results28, go_sem, c0, c1, c2, c3, c4, c5, c6]
  done
set_option maxRecDepth 20000 in
set_option maxHeartbeats 8000000 in
theorem drawLeaveSeat_c (w : World) (a0 : Option Addr) (len cap : Nat) (hb : Bytes w a0 len w.heap.size) (hl : len ≤ 1048576) :
    Calls Tryz.prog 35 #[.slice a0 len cap] w fun e w' => ∃ p x i, e = .returned (.tuple #[.agg (WP.v p x), .int .i64 i]) ∧ OwW w' w.heap.size p x ∧ DW x ∧ Below w.heap.size w w' := by
  obtain ⟨W1, HW1⟩ : ∃ W1, Hid (W1 = w.alloc (.cells zW 32)) := ⟨_, rfl⟩
  have A0 : Below w.heap.size w W1 := by rw [HW1.out]; exact (Below.refl _ _).alloc (Nat.le_refl _) _
  have R0 : Blk W1 w.heap.size zW 32 := by rw [HW1.out]; exact Blk.new w zW 32
  have cD := l7Draw_c W1 a0 len cap (hb.later A0) hl
  have hs1 := A0.size
  clear hb hl
  go_enter Tryz.func35, Tryz.ntmps35
  go_upto_region 1 with fail
  rw [← HW1.out]
  go_wp2_with fail
  refine cD.mono ?_
  rintro e w2 ⟨p, x, i, j, rfl, O2, dw, B2⟩
  obtain ⟨t, s, us, fs, fa, se, oo⟩ := x
  obtain ⟨u, uc, f, fc, a, ac, q, qc, r, rc⟩ := p
  obtain ⟨W3, HW3⟩ : ∃ W3, Hid (W3 = w2.alloc (.cells (wv t s u us.length uc f fs.length fc a fa.length ac q se.length qc r oo.length rc) 32)) := ⟨_, rfl⟩
  have B3 : Below w2.heap.size w2 W3 := by rw [HW3.out]; exact (Below.refl _ _).alloc (Nat.le_refl _) _
  have G3 : Blk W3 w2.heap.size (wv t s u us.length uc f fs.length fc a fa.length ac q se.length qc r oo.length rc) 32 := by rw [HW3.out]; exact Blk.new w2 _ _
  have R2 := (R0.below B2).below B3
  obtain ⟨F1, F2, F3⟩ := fill7 (v := w) (n0 := w.heap.size) R2 (O2.later B3) (A0.trans ((B2.trans (B3.mono B2.size)).mono hs1)) (Nat.le_refl _) hs1
  obtain ⟨y0, y1, y2, y3, y4, y5, y6, z0, z1, z2, z3, z4, z5, z6, rl⟩ := R2.z7
  obtain ⟨q0, q1, q2, q3, q4, q5, q6, ql⟩ := G3.c7
  go_upto_region 2 with fail
  rw [← HW3.out]
  go_wp2_with fail
  obtain ⟨c0, c1, c2, c3, c4, c5, c6, cl⟩ := F1.c7
  refine bodyPost_ret (v := .tuple #[.agg (wv t s u us.length uc f fs.length fc a fa.length ac q se.length qc r oo.length rc), .int .i64 i]) ?_ rfl ⟨⟨u, uc, f, fc, a, ac, q, qc, r, rc⟩, ⟨t, s, us, fs, fa, se, oo⟩, i, rfl, F2, dw, F3⟩
  simp [results, Tryz.results35, go_sem, c0, c1, c2, c3, c4, c5, c6]
  done
set_option maxRecDepth 20000 in
set_option maxHeartbeats 8000000 in
theorem drawOffersTo_c (w : World) (a0 : Option Addr) (len cap : Nat) (hb : Bytes w a0 len w.heap.size) (hl : len ≤ 1048576) :
    Calls Tryz.prog 21 #[.slice a0 len cap] w fun e w' => ∃ p x i, e = .returned (.tuple #[.agg (WP.v p x), .int .i64 i]) ∧ OwW w' w.heap.size p x ∧ DW x ∧ Below w.heap.size w w' := by
  obtain ⟨W1, HW1⟩ : ∃ W1, Hid (W1 = w.alloc (.cells zW 32)) := ⟨_, rfl⟩
  have A0 : Below w.heap.size w W1 := by rw [HW1.out]; exact (Below.refl _ _).alloc (Nat.le_refl _) _
  have R0 : Blk W1 w.heap.size zW 32 := by rw [HW1.out]; exact Blk.new w zW 32
  have cD := drawAlliesOf_c W1 a0 len cap (hb.later A0) hl
  have hs1 := A0.size
  clear hb hl
  go_enter Tryz.func21, Tryz.ntmps21
  go_upto_region 1 with fail
  rw [← HW1.out]
  go_wp2_with fail
  refine cD.mono ?_
  rintro e w2 ⟨p, x, i, rfl, O2, dw, B2⟩
  have R2 := R0.below B2
  obtain ⟨F1, F2, F3⟩ := fill7 (v := w) (n0 := w.heap.size) R2 O2 (A0.trans (B2.mono hs1)) (Nat.le_refl _) hs1
  obtain ⟨t, s, us, fs, fa, se, oo⟩ := x
  obtain ⟨u, uc, f, fc, a, ac, q, qc, r, rc⟩ := p
  obtain ⟨y0, y1, y2, y3, y4, y5, y6, z0, z1, z2, z3, z4, z5, z6, rl⟩ := R2.z7
  go_wp2_with fail
  obtain ⟨c0, c1, c2, c3, c4, c5, c6, cl⟩ := F1.c7
  refine bodyPost_ret (v := .tuple #[.agg (wv t s u us.length uc f fs.length fc a fa.length ac q se.length qc r oo.length rc), .int .i64 i]) ?_ rfl ⟨⟨u, uc, f, fc, a, ac, q, qc, r, rc⟩, ⟨t, s, us, fs, fa, se, oo⟩, i, rfl, F2, dw, F3⟩
  simp [results, Tryz.results21, go_sem, c0, c1, c2, c3, c4, c5, c6]
  done
theorem src_at (w : World) (c : Value) (n : Int) : Src (w.alloc (.cells #[c, .int .i64 n] 124)) w.heap.size c n := by
  unfold Src
  exact heap_new _ _
theorem Dn.begin {w0 w1 : World} {a : Option Addr} {len cap : Nat} {t : Int} (h0 : 0 ≤ t) (st : St w0 w1 a len cap t) : Dn w0 w1 w1 a len cap t := ⟨st.src.lt, ⟨t, h0, Int.le_refl _, st⟩, grown_refl _ _⟩
end Go.Proofs.YthopodopedbooaaGreat
end

/- WfSame -/
/- Plain facts: the program and the model tell the same of a world whose Allies are from 0 to 31. No condition. -/
section
namespace Go.Proofs.YthopodopedbooaaGreat
open Bd
set_option linter.unusedVariables false

theorem has32 {m : Int} (h0 : 0 ≤ m) (h1 : m < 32) (b : Int) : hasI m b = hasS m b := has_eq m b h0 (by omega)
theorem alB32 {m i : Int} (m0 : 0 ≤ m) (m1 : m < 32) : ∀ {k : Int} {l : List KA}, (∀ g ∈ l, 0 ≤ g.c2 ∧ g.c2 < 32) → alB hasI m i k l = alB hasS m i k l
  | _, [], _ => rfl
  | k, g :: l, h => by
    have hg := h g (by simp)
    unfold alB
    rw [has32 m0 m1, has32 hg.1 hg.2, alB32 m0 m1 (fun x hx => h x (List.mem_cons_of_mem _ hx))]
theorem faF32 {fa : List KA} (hfa : ∀ f ∈ fa, 0 ≤ f.c2 ∧ f.c2 < 32) : ∀ {l : List KA} {i : Int}, (∀ f ∈ l, 0 ≤ f.c2 ∧ f.c2 < 32) → faF hasI fa i l = faF hasS fa i l
  | [], _, _ => rfl
  | a :: l, i, h => by
    have ha := h a (by simp)
    have e : faC hasI fa i a = faC hasS fa i a := by unfold faC; rw [alB32 ha.1 ha.2 hfa]
    unfold faF
    rw [e, faF32 hfa (fun x hx => h x (List.mem_cons_of_mem _ hx))]
theorem ally32 {fa : List KA} (hfa : ∀ f ∈ fa, 0 ≤ f.c2 ∧ f.c2 < 32) (i : Int) : 0 ≤ allyA fa i ∧ allyA fa i < 32 := by
  unfold allyA
  rw [List.getD_eq_getElem?_getD]
  cases hh : fa[i.toNat]? with
  | none => exact ⟨by decide, by decide⟩
  | some g => exact hfa g (List.mem_of_getElem? hh)
theorem ofF32 {fa : List KA} (hfa : ∀ f ∈ fa, 0 ≤ f.c2 ∧ f.c2 < 32) : ∀ {l q : List K2}, ofF hasI fa q l = ofF hasS fa q l
  | [], _ => rfl
  | x :: l, q => by
    have hx := ally32 hfa x.c0
    have e : ofB hasI fa q x = ofB hasS fa q x := by unfold ofB; rw [has32 hx.1 hx.2]
    unfold ofF
    rw [e, ofF32 hfa]
theorem wf32 {x : KW} (hfa : ∀ f ∈ x.fa, 0 ≤ f.c2 ∧ f.c2 < 32) : wf hasI x = wf hasS x := by
  unfold wf
  rw [faF32 hfa hfa, ofF32 hfa]
theorem DW.wf {x : KW} (h : DW x) : Go.Proofs.YthopodopedbooaaGreat.wf hasI x = Go.Proofs.YthopodopedbooaaGreat.wf hasS x := wf32 h.a.p
theorem DW.prF {x : KW} (h : DW x) (a b : Int) : Go.Proofs.YthopodopedbooaaGreat.prF hasI x a b = Go.Proofs.YthopodopedbooaaGreat.prF hasS x a b := by unfold Go.Proofs.YthopodopedbooaaGreat.prF; rw [h.wf]
theorem DW.payC {x : KW} (h : DW x) (a b n : Int) : Go.Proofs.YthopodopedbooaaGreat.payC hasI x a b n = Go.Proofs.YthopodopedbooaaGreat.payC hasS x a b n := by unfold Go.Proofs.YthopodopedbooaaGreat.payC; rw [h.prF]
theorem DW.payX {x : KW} (h : DW x) (a b n : Int) : Go.Proofs.YthopodopedbooaaGreat.payX hasI x a b n = Go.Proofs.YthopodopedbooaaGreat.payX hasS x a b n := by unfold Go.Proofs.YthopodopedbooaaGreat.payX; rw [h.payC]
end Go.Proofs.YthopodopedbooaaGreat
end

/- SameBI -/
/- The contract of SameBoards at two boards that have the same, whose lists may be nil. Condition: the lists are short. -/
section
namespace Go.Proofs.YthopodopedbooaaGreat
open Go.ChangeShapes Go.WideShapes Go.ChangeAt Go.RowKit
open Bd
set_option linter.unusedVariables false

theorem ArgU.drewN' {w : World} {a : Option Addr} {l : List K10} (h : ArgU w a l) (n : Nat) : ArgU (w.drewN n) a l := h.later (below_drewN _ _)
theorem ArgF.drewN' {w : World} {a : Option Addr} {l : List K3} (h : ArgF w a l) (n : Nat) : ArgF (w.drewN n) a l := h.later (below_drewN _ _)
set_option maxHeartbeats 2000000 in
theorem eqU_same (w : World) (a1 a2 : Option Addr) (m c1 c2 : Nat) (l : List K10) (hl : l.length = m) (hm : m ≤ 1000) (h1 : ArgU w a1 l) (h2 : ArgU w a2 l) :
    Calls Tryz.prog 116 #[.slice a1 m c1, .slice a2 m c2] w fun e w' => e = .returned (.bool true) ∧ ∃ nq, w' = w.drewN nq := by
  have H1 : Hid (ArgU w a1 l) := h1
  have H2 : Hid (ArgU w a2 l) := h2
  have Hl : Hid (l.length = m) := hl
  clear h1 h2 hl
  go_enter Tryz.func116, Tryz.ntmps116
  go_wp2
  go_loopw [13] (fun i wr => ∃ k : Nat, k ≤ m ∧ i = .int .i64 k ∧ ∃ nq, wr = w.drewN nq) (fun i _ => m - (intOf i).toNat)
  case atStart => exact ⟨0, Nat.zero_le _, rfl, 0, rfl⟩
  case round =>
    obtain ⟨k, hk, rfl, nq0, rfl⟩ := hrel
    by_cases hlt : k < m
    · have hlt' : (k : Int) < (m : Int) := by omega
      obtain ⟨x, hx⟩ : ∃ x, l[k]? = some x := ⟨_, List.getElem?_eq_getElem (by have := Hl.out; omega)⟩
      obtain ⟨b, off, rfl, hb, hat⟩ := H1.out.at hx
      obtain ⟨b', off', rfl, hb', hat'⟩ := H2.out.at hx
      obtain ⟨a0, a1, a2, a3, a4, a5, a6, a7, a8, a9⟩ := hat.all hx
      obtain ⟨b0, b1, b2, b3, b4, b5, b6, b7, b8, b9⟩ := hat'.all hx
      have hne := neqU x x
      rw [K10.b_self] at hne
      clear hx hat hat'
      go_wp2
      go_quiet (fail)
      go_wp2
      go_roundw
      case rel => first | exact ⟨k + 1, by omega, by go_num, _, rfl⟩ | exact ⟨k + 1, by omega, by go_num, _, drewN_trans _ _ _⟩
      case measure => simp [intOf]; omega
    · obtain rfl : k = m := by omega
      go_wp2
      go_ret
      exact ⟨rfl, nq0, rfl⟩
set_option maxHeartbeats 2000000 in
theorem eqF_same (w : World) (a1 a2 : Option Addr) (m c1 c2 : Nat) (l : List K3) (hl : l.length = m) (hm : m ≤ 1000) (h1 : ArgF w a1 l) (h2 : ArgF w a2 l) :
    Calls Tryz.prog 117 #[.slice a1 m c1, .slice a2 m c2] w fun e w' => e = .returned (.bool true) ∧ ∃ nq, w' = w.drewN nq := by
  have H1 : Hid (ArgF w a1 l) := h1
  have H2 : Hid (ArgF w a2 l) := h2
  have Hl : Hid (l.length = m) := hl
  clear h1 h2 hl
  go_enter Tryz.func117, Tryz.ntmps117
  go_wp2
  go_loopw [13] (fun i wr => ∃ k : Nat, k ≤ m ∧ i = .int .i64 k ∧ ∃ nq, wr = w.drewN nq) (fun i _ => m - (intOf i).toNat)
  case atStart => exact ⟨0, Nat.zero_le _, rfl, 0, rfl⟩
  case round =>
    obtain ⟨k, hk, rfl, nq0, rfl⟩ := hrel
    by_cases hlt : k < m
    · have hlt' : (k : Int) < (m : Int) := by omega
      obtain ⟨x, hx⟩ : ∃ x, l[k]? = some x := ⟨_, List.getElem?_eq_getElem (by have := Hl.out; omega)⟩
      obtain ⟨b, off, rfl, hb, hat⟩ := H1.out.at hx
      obtain ⟨b', off', rfl, hb', hat'⟩ := H2.out.at hx
      obtain ⟨a0, a1, a2⟩ := hat.all hx
      obtain ⟨b0, b1, b2⟩ := hat'.all hx
      have hne := neqF x x
      rw [K3.b_self] at hne
      clear hx hat hat'
      go_wp2
      go_quiet (fail)
      go_wp2
      go_roundw
      case rel => first | exact ⟨k + 1, by omega, by go_num, _, rfl⟩ | exact ⟨k + 1, by omega, by go_num, _, drewN_trans _ _ _⟩
      case measure => simp [intOf]; omega
    · obtain rfl : k = m := by omega
      go_wp2
      go_ret
      exact ⟨rfl, nq0, rfl⟩
set_option maxHeartbeats 4000000 in
theorem sameB_in (w : World) (a1 a1' a2 a2' : Option Addr) (m m' c1 c1' c2 c2' : Nat) (us : List K10) (fs : List K3) (hl : us.length = m) (hl' : fs.length = m') (hm : m ≤ 1000) (hm' : m' ≤ 1000) (u1 : ArgU w a1 us) (f1 : ArgF w a1' fs) (u2 : ArgU w a2 us) (f2 : ArgF w a2' fs) :
    Calls Tryz.prog 70 #[.agg (brdV a1 m c1 a1' m' c1'), .agg (brdV a2 m c2 a2' m' c2')] w fun e w' => e = .returned (.bool true) ∧ Below w.heap.size w w' := by
  have B1 : Below w.heap.size w (w.alloc (.cells (brdV a1 m c1 a1' m' c1') 27)) := (Below.refl _ _).alloc (Nat.le_refl _) _
  obtain ⟨W2, HW2⟩ : ∃ W2, Hid (W2 = (w.alloc (.cells (brdV a1 m c1 a1' m' c1') 27)).alloc (.cells (brdV a2 m c2 a2' m' c2') 27)) := ⟨_, rfl⟩
  have B2 : Below w.heap.size w W2 := by rw [HW2.out]; exact B1.alloc (by rw [size_new]; omega) _
  have r0 : W2.rowIs w.heap.size 27 2 (fun i => if i = 0 then .slice a1 m c1 else .slice a1' m' c1') := by
    rw [HW2.out]
    have r := rowTwo w (.slice a1 m c1) (.slice a1' m' c1') 27
    exact r.of_block (((Below.refl _ _).alloc (Nat.le_refl _) _).block _ r.lt)
  have r1 : W2.rowIs (w.heap.size + 1) 27 2 (fun i => if i = 0 then .slice a2 m c2 else .slice a2' m' c2') := by
    rw [HW2.out]
    have r := rowTwo (w.alloc (.cells (brdV a1 m c1 a1' m' c1') 27)) (.slice a2 m c2) (.slice a2' m' c2') 27
    rw [size_new] at r
    exact r
  have cU := eqU_same W2 a1 a2 m c1 c2 us hl hm (u1.later B2) (u2.later B2)
  have cF := fun nq => eqF_same (W2.drewN nq) a1' a2' m' c1' c2' fs hl' hm' ((f1.later B2).drewN' nq) ((f2.later B2).drewN' nq)
  obtain ⟨p0, p1, pl⟩ := row_brd r0
  obtain ⟨q0, q1, ql⟩ := row_brd r1
  clear u1 f1 u2 f2 B1
  go_enter Tryz.func70, Tryz.ntmps70
  go_upto_region 1 with fail
  rw [← HW2.out]
  go_wp2_with fail
  refine cU.mono ?_
  rintro e w1 ⟨rfl, nq, rfl⟩
  go_wp2_with fail
  refine (cF nq).mono ?_
  rintro e w1 ⟨rfl, nq2, rfl⟩
  go_wp2
  go_ret
  exact ⟨rfl, B2.trans ((below_drewN _ (nq + nq2)).mono B2.size)⟩
end Go.Proofs.YthopodopedbooaaGreat
end
