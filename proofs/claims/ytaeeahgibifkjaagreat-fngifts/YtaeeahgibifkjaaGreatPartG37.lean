/- Texts of mine put together (a claim holds at most 60 files): WldDraws6. -/
import Derived.Test.YtaeeahgibifkjaaGreatPartG36
import Derived.Deep.CutRange

/- WldDraws6 -/
/- Contracts of the draws of pacts and gifts. Condition: the code has at most 1048576 bytes, which can be read. -/
section
namespace Go.Proofs.YtaeeahgibifkjaaGreat
open Go.ChangeShapes Go.WideShapes Go.ChangeAt Go.RowKit
open Bd
set_option linter.unusedVariables false

abbrev st7 (W : World) (rb : Nat) (p : WP) (x : KW) : World := set7 W rb (.int .i64 x.t) (.int .i64 x.s) (.slice p.u x.us.length p.uc) (.slice p.f x.fs.length p.fc) (.slice p.a x.fa.length p.ac) (.slice p.s x.se.length p.sc) (.slice p.o x.oo.length p.oc)
theorem fill7 {W : World} {rb base : Nat} {p : WP} {x : KW} (R : Blk W rb zW 32) (h : OwW W base p x) {n0 : Nat} {v : World} (hb : Below n0 v W) (hn : n0 ≤ rb) (hn2 : n0 ≤ base) : Blk (st7 W rb p x) rb (p.v x) 32 ∧ OwW (st7 W rb p x) n0 p x ∧ Below n0 v (st7 W rb p x) :=
  ⟨set7_blk R _ _ _ _ _ _ _, (h.of_block R (by decide) (by decide) (by decide) (by decide) (by decide) (set7_other _ _ _ _ _ _ _)).mono hn2, set7_below hb hn _ _ _ _ _ _ _⟩
set_option maxRecDepth 20000 in
set_option maxHeartbeats 8000000 in
theorem drawAcceptPact_c (w : World) (a0 : Option Addr) (len cap : Nat) (hb : Bytes w a0 len w.heap.size) (hl : len ≤ 1048576) :
    Calls Tryz.prog 9 #[.slice a0 len cap] w fun e w' => ∃ p x i j, e = .returned (.tuple #[.agg (WP.v p x), .int .i64 i, .int .i64 j]) ∧ OwW w' w.heap.size p x ∧ DW x ∧ Below w.heap.size w w' := by
  obtain ⟨W1, HW1⟩ : ∃ W1, Hid (W1 = w.alloc (.cells zW 32)) := ⟨_, rfl⟩
  have A0 : Below w.heap.size w W1 := by rw [HW1.out]; exact (Below.refl _ _).alloc (Nat.le_refl _) _
  have R0 : Blk W1 w.heap.size zW 32 := by rw [HW1.out]; exact Blk.new w zW 32
  have cD := l7Draw_c W1 a0 len cap (hb.later A0) hl
  have hs1 := A0.size
  clear hb hl
  go_enter Tryz.func9, Tryz.ntmps9
  go_upto_region 1 with fail
  rw [← HW1.out]
  go_wp2_with fail
  refine cD.mono ?_
  rintro e w2 ⟨p, x, i, j, rfl, O2, dw, B2⟩
  have R2 := R0.below B2
  obtain ⟨F1, F2, F3⟩ := fill7 (v := w) (n0 := w.heap.size) R2 O2 (A0.trans (B2.mono hs1)) (Nat.le_refl _) hs1
  obtain ⟨t, s, us, fs, fa, se, oo⟩ := x
  obtain ⟨u, uc, f, fc, a, ac, q, qc, r, rc⟩ := p
  obtain ⟨y0, y1, y2, y3, y4, y5, y6, z0, z1, z2, z3, z4, z5, z6, rl⟩ := R2.z7
  go_wp2_with fail
  obtain ⟨c0, c1, c2, c3, c4, c5, c6, cl⟩ := F1.c7
  refine bodyPost_ret (v := .tuple #[.agg (wv t s u us.length uc f fs.length fc a fa.length ac q se.length qc r oo.length rc), .int .i64 i, .int .i64 j]) ?_ rfl ⟨⟨u, uc, f, fc, a, ac, q, qc, r, rc⟩, ⟨t, s, us, fs, fa, se, oo⟩, i, j, rfl, F2, dw, F3⟩
  simp [results, Tryz.results9, go_sem, c0, c1, c2, c3, c4, c5, c6]
  done
set_option maxRecDepth 20000 in
set_option maxHeartbeats 8000000 in
theorem drawBreakPact_c (w : World) (a0 : Option Addr) (len cap : Nat) (hb : Bytes w a0 len w.heap.size) (hl : len ≤ 1048576) :
    Calls Tryz.prog 11 #[.slice a0 len cap] w fun e w' => ∃ p x i j, e = .returned (.tuple #[.agg (WP.v p x), .int .i64 i, .int .i64 j]) ∧ OwW w' w.heap.size p x ∧ DW x ∧ Below w.heap.size w w' := by
  obtain ⟨W1, HW1⟩ : ∃ W1, Hid (W1 = w.alloc (.cells zW 32)) := ⟨_, rfl⟩
  have A0 : Below w.heap.size w W1 := by rw [HW1.out]; exact (Below.refl _ _).alloc (Nat.le_refl _) _
  have R0 : Blk W1 w.heap.size zW 32 := by rw [HW1.out]; exact Blk.new w zW 32
  have cD := l7Draw_c W1 a0 len cap (hb.later A0) hl
  have hs1 := A0.size
  clear hb hl
  go_enter Tryz.func11, Tryz.ntmps11
  go_upto_region 1 with fail
  rw [← HW1.out]
  go_wp2_with fail
  refine cD.mono ?_
  rintro e w2 ⟨p, x, i, j, rfl, O2, dw, B2⟩
  have R2 := R0.below B2
  obtain ⟨F1, F2, F3⟩ := fill7 (v := w) (n0 := w.heap.size) R2 O2 (A0.trans (B2.mono hs1)) (Nat.le_refl _) hs1
  obtain ⟨t, s, us, fs, fa, se, oo⟩ := x
  obtain ⟨u, uc, f, fc, a, ac, q, qc, r, rc⟩ := p
  obtain ⟨y0, y1, y2, y3, y4, y5, y6, z0, z1, z2, z3, z4, z5, z6, rl⟩ := R2.z7
  go_wp2_with fail
  obtain ⟨c0, c1, c2, c3, c4, c5, c6, cl⟩ := F1.c7
  refine bodyPost_ret (v := .tuple #[.agg (wv t s u us.length uc f fs.length fc a fa.length ac q se.length qc r oo.length rc), .int .i64 i, .int .i64 j]) ?_ rfl ⟨⟨u, uc, f, fc, a, ac, q, qc, r, rc⟩, ⟨t, s, us, fs, fa, se, oo⟩, i, j, rfl, F2, dw, F3⟩
  simp [results, Tryz.results11, go_sem, c0, c1, c2, c3, c4, c5, c6]
  done
set_option maxRecDepth 20000 in
set_option maxHeartbeats 8000000 in
theorem drawOfferPact_c (w : World) (a0 : Option Addr) (len cap : Nat) (hb : Bytes w a0 len w.heap.size) (hl : len ≤ 1048576) :
    Calls Tryz.prog 20 #[.slice a0 len cap] w fun e w' => ∃ p x i j, e = .returned (.tuple #[.agg (WP.v p x), .int .i64 i, .int .i64 j]) ∧ OwW w' w.heap.size p x ∧ DW x ∧ Below w.heap.size w w' := by
  obtain ⟨W1, HW1⟩ : ∃ W1, Hid (W1 = w.alloc (.cells zW 32)) := ⟨_, rfl⟩
  have A0 : Below w.heap.size w W1 := by rw [HW1.out]; exact (Below.refl _ _).alloc (Nat.le_refl _) _
  have R0 : Blk W1 w.heap.size zW 32 := by rw [HW1.out]; exact Blk.new w zW 32
  have cD := l7Draw_c W1 a0 len cap (hb.later A0) hl
  have hs1 := A0.size
  clear hb hl
  go_enter Tryz.func20, Tryz.ntmps20
  go_upto_region 1 with fail
  rw [← HW1.out]
  go_wp2_with fail
  refine cD.mono ?_
  rintro e w2 ⟨p, x, i, j, rfl, O2, dw, B2⟩
  have R2 := R0.below B2
  obtain ⟨F1, F2, F3⟩ := fill7 (v := w) (n0 := w.heap.size) R2 O2 (A0.trans (B2.mono hs1)) (Nat.le_refl _) hs1
  obtain ⟨t, s, us, fs, fa, se, oo⟩ := x
  obtain ⟨u, uc, f, fc, a, ac, q, qc, r, rc⟩ := p
  obtain ⟨y0, y1, y2, y3, y4, y5, y6, z0, z1, z2, z3, z4, z5, z6, rl⟩ := R2.z7
  go_wp2_with fail
  obtain ⟨c0, c1, c2, c3, c4, c5, c6, cl⟩ := F1.c7
  refine bodyPost_ret (v := .tuple #[.agg (wv t s u us.length uc f fs.length fc a fa.length ac q se.length qc r oo.length rc), .int .i64 i, .int .i64 j]) ?_ rfl ⟨⟨u, uc, f, fc, a, ac, q, qc, r, rc⟩, ⟨t, s, us, fs, fa, se, oo⟩, i, j, rfl, F2, dw, F3⟩
  simp [results, Tryz.results20, go_sem, c0, c1, c2, c3, c4, c5, c6]
  done
set_option maxRecDepth 20000 in
set_option maxHeartbeats 8000000 in
theorem drawAlliesOf_c (w : World) (a0 : Option Addr) (len cap : Nat) (hb : Bytes w a0 len w.heap.size) (hl : len ≤ 1048576) :
    Calls Tryz.prog 79 #[.slice a0 len cap] w fun e w' => ∃ p x i, e = .returned (.tuple #[.agg (WP.v p x), .int .i64 i]) ∧ OwW w' w.heap.size p x ∧ DW x ∧ Below w.heap.size w w' := by
  obtain ⟨W1, HW1⟩ : ∃ W1, Hid (W1 = w.alloc (.cells zW 32)) := ⟨_, rfl⟩
  have A0 : Below w.heap.size w W1 := by rw [HW1.out]; exact (Below.refl _ _).alloc (Nat.le_refl _) _
  have R0 : Blk W1 w.heap.size zW 32 := by rw [HW1.out]; exact Blk.new w zW 32
  have cD := l7Draw_c W1 a0 len cap (hb.later A0) hl
  have hs1 := A0.size
  clear hb hl
  go_enter Tryz.func79, Tryz.ntmps79
  go_upto_region 1 with fail
  rw [← HW1.out]
  go_wp2_with fail
  refine cD.mono ?_
  rintro e w2 ⟨p, x, i, j, rfl, O2, dw, B2⟩
  obtain ⟨t, s, us, fs, fa, se, oo⟩ := x
  obtain ⟨u, uc, f, fc, a, ac, q, qc, r, rc⟩ := p
  obtain ⟨W3, HW3⟩ : ∃ W3, Hid (W3 = w2.alloc (.cells (wv t s u us.length uc f fs.length fc a fa.length ac q se.length qc r oo.length rc) 32)) := ⟨_, rfl⟩
  have B3 : Below w2.heap.size w2 W3 := by rw [HW3.out]; exact (Below.refl _ _).alloc (Nat.le_refl _) _
  have G3 : Blk W3 w2.heap.size (wv t s u us.length uc f fs.length fc a fa.length ac q se.length qc r oo.length rc) 32 := by rw [HW3.out]; exact Blk.new w2 _ _
  have R2 := (R0.below B2).below B3
  obtain ⟨F1, F2, F3⟩ := fill7 (v := w) (n0 := w.heap.size) R2 (O2.later B3) (A0.trans ((B2.trans (B3.mono B2.size)).mono hs1)) (Nat.le_refl _) hs1
  obtain ⟨y0, y1, y2, y3, y4, y5, y6, z0, z1, z2, z3, z4, z5, z6, rl⟩ := R2.z7
  obtain ⟨q0, q1, q2, q3, q4, q5, q6, ql⟩ := G3.c7
  go_upto_region 2 with fail
  rw [← HW3.out]
  go_wp2_with fail
  obtain ⟨c0, c1, c2, c3, c4, c5, c6, cl⟩ := F1.c7
  refine bodyPost_ret (v := .tuple #[.agg (wv t s u us.length uc f fs.length fc a fa.length ac q se.length qc r oo.length rc), .int .i64 i]) ?_ rfl ⟨⟨u, uc, f, fc, a, ac, q, qc, r, rc⟩, ⟨t, s, us, fs, fa, se, oo⟩, i, rfl, F2, dw, F3⟩
  simp [results, Tryz.results79, go_sem, c0, c1, c2, c3, c4, c5, c6]
  done
set_option maxRecDepth 20000 in
set_option maxHeartbeats 8000000 in
theorem drawLeaveSide_c (w : World) (a0 : Option Addr) (len cap : Nat) (hb : Bytes w a0 len w.heap.size) (hl : len ≤ 1048576) :
    Calls Tryz.prog 35 #[.slice a0 len cap] w fun e w' => ∃ p x i, e = .returned (.tuple #[.agg (WP.v p x), .int .i64 i]) ∧ OwW w' w.heap.size p x ∧ DW x ∧ Below w.heap.size w w' := by
  obtain ⟨W1, HW1⟩ : ∃ W1, Hid (W1 = w.alloc (.cells zW 32)) := ⟨_, rfl⟩
  have A0 : Below w.heap.size w W1 := by rw [HW1.out]; exact (Below.refl _ _).alloc (Nat.le_refl _) _
  have R0 : Blk W1 w.heap.size zW 32 := by rw [HW1.out]; exact Blk.new w zW 32
  have cD := l7Draw_c W1 a0 len cap (hb.later A0) hl
  have hs1 := A0.size
  clear hb hl
  go_enter Tryz.func35, Tryz.ntmps35
  go_upto_region 1 with fail
  rw [← HW1.out]
  go_wp2_with fail
  refine cD.mono ?_
  rintro e w2 ⟨p, x, i, j, rfl, O2, dw, B2⟩
  obtain ⟨t, s, us, fs, fa, se, oo⟩ := x
  obtain ⟨u, uc, f, fc, a, ac, q, qc, r, rc⟩ := p
  obtain ⟨W3, HW3⟩ : ∃ W3, Hid (W3 = w2.alloc (.cells (wv t s u us.length uc f fs.length fc a fa.length ac q se.length qc r oo.length rc) 32)) := ⟨_, rfl⟩
  have B3 : Below w2.heap.size w2 W3 := by rw [HW3.out]; exact (Below.refl _ _).alloc (Nat.le_refl _) _
  have G3 : Blk W3 w2.heap.size (wv t s u us.length uc f fs.length fc a fa.length ac q se.length qc r oo.length rc) 32 := by rw [HW3.out]; exact Blk.new w2 _ _
  have R2 := (R0.below B2).below B3
  obtain ⟨F1, F2, F3⟩ := fill7 (v := w) (n0 := w.heap.size) R2 (O2.later B3) (A0.trans ((B2.trans (B3.mono B2.size)).mono hs1)) (Nat.le_refl _) hs1
  obtain ⟨y0, y1, y2, y3, y4, y5, y6, z0, z1, z2, z3, z4, z5, z6, rl⟩ := R2.z7
  obtain ⟨q0, q1, q2, q3, q4, q5, q6, ql⟩ := G3.c7
  go_upto_region 2 with fail
  rw [← HW3.out]
  go_wp2_with fail
  obtain ⟨c0, c1, c2, c3, c4, c5, c6, cl⟩ := F1.c7
  refine bodyPost_ret (v := .tuple #[.agg (wv t s u us.length uc f fs.length fc a fa.length ac q se.length qc r oo.length rc), .int .i64 i]) ?_ rfl ⟨⟨u, uc, f, fc, a, ac, q, qc, r, rc⟩, ⟨t, s, us, fs, fa, se, oo⟩, i, rfl, F2, dw, F3⟩
  simp [results, Tryz.results35, go_sem, c0, c1, c2, c3, c4, c5, c6]
  done
set_option maxRecDepth 20000 in
set_option maxHeartbeats 8000000 in
theorem drawLeaveSeat_c (w : World) (a0 : Option Addr) (len cap : Nat) (hb : Bytes w a0 len w.heap.size) (hl : len ≤ 1048576) :
    Calls Tryz.prog 40 #[.slice a0 len cap] w fun e w' => ∃ p x i, e = .returned (.tuple #[.agg (WP.v p x), .int .i64 i]) ∧ OwW w' w.heap.size p x ∧ DW x ∧ Below w.heap.size w w' := by
  obtain ⟨W1, HW1⟩ : ∃ W1, Hid (W1 = w.alloc (.cells zW 32)) := ⟨_, rfl⟩
  have A0 : Below w.heap.size w W1 := by rw [HW1.out]; exact (Below.refl _ _).alloc (Nat.le_refl _) _
  have R0 : Blk W1 w.heap.size zW 32 := by rw [HW1.out]; exact Blk.new w zW 32
  have cD := l7Draw_c W1 a0 len cap (hb.later A0) hl
  have hs1 := A0.size
  clear hb hl
  go_enter Tryz.func40, Tryz.ntmps40
  go_upto_region 1 with fail
  rw [← HW1.out]
  go_wp2_with fail
  refine cD.mono ?_
  rintro e w2 ⟨p, x, i, j, rfl, O2, dw, B2⟩
  obtain ⟨t, s, us, fs, fa, se, oo⟩ := x
  obtain ⟨u, uc, f, fc, a, ac, q, qc, r, rc⟩ := p
  obtain ⟨W3, HW3⟩ : ∃ W3, Hid (W3 = w2.alloc (.cells (wv t s u us.length uc f fs.length fc a fa.length ac q se.length qc r oo.length rc) 32)) := ⟨_, rfl⟩
  have B3 : Below w2.heap.size w2 W3 := by rw [HW3.out]; exact (Below.refl _ _).alloc (Nat.le_refl _) _
  have G3 : Blk W3 w2.heap.size (wv t s u us.length uc f fs.length fc a fa.length ac q se.length qc r oo.length rc) 32 := by rw [HW3.out]; exact Blk.new w2 _ _
  have R2 := (R0.below B2).below B3
  obtain ⟨F1, F2, F3⟩ := fill7 (v := w) (n0 := w.heap.size) R2 (O2.later B3) (A0.trans ((B2.trans (B3.mono B2.size)).mono hs1)) (Nat.le_refl _) hs1
  obtain ⟨y0, y1, y2, y3, y4, y5, y6, z0, z1, z2, z3, z4, z5, z6, rl⟩ := R2.z7
  obtain ⟨q0, q1, q2, q3, q4, q5, q6, ql⟩ := G3.c7
  go_upto_region 2 with fail
  rw [← HW3.out]
  go_wp2_with fail
  obtain ⟨c0, c1, c2, c3, c4, c5, c6, cl⟩ := F1.c7
  refine bodyPost_ret (v := .tuple #[.agg (wv t s u us.length uc f fs.length fc a fa.length ac q se.length qc r oo.length rc), .int .i64 i]) ?_ rfl ⟨⟨u, uc, f, fc, a, ac, q, qc, r, rc⟩, ⟨t, s, us, fs, fa, se, oo⟩, i, rfl, F2, dw, F3⟩
  simp [results, Tryz.results40, go_sem, c0, c1, c2, c3, c4, c5, c6]
  done
set_option maxRecDepth 20000 in
set_option maxHeartbeats 8000000 in
theorem drawOffersTo_c (w : World) (a0 : Option Addr) (len cap : Nat) (hb : Bytes w a0 len w.heap.size) (hl : len ≤ 1048576) :
    Calls Tryz.prog 22 #[.slice a0 len cap] w fun e w' => ∃ p x i, e = .returned (.tuple #[.agg (WP.v p x), .int .i64 i]) ∧ OwW w' w.heap.size p x ∧ DW x ∧ Below w.heap.size w w' := by
  obtain ⟨W1, HW1⟩ : ∃ W1, Hid (W1 = w.alloc (.cells zW 32)) := ⟨_, rfl⟩
  have A0 : Below w.heap.size w W1 := by rw [HW1.out]; exact (Below.refl _ _).alloc (Nat.le_refl _) _
  have R0 : Blk W1 w.heap.size zW 32 := by rw [HW1.out]; exact Blk.new w zW 32
  have cD := drawAlliesOf_c W1 a0 len cap (hb.later A0) hl
  have hs1 := A0.size
  clear hb hl
  go_enter Tryz.func22, Tryz.ntmps22
  go_upto_region 1 with fail
  rw [← HW1.out]
  go_wp2_with fail
  refine cD.mono ?_
  rintro e w2 ⟨p, x, i, rfl, O2, dw, B2⟩
  have R2 := R0.below B2
  obtain ⟨F1, F2, F3⟩ := fill7 (v := w) (n0 := w.heap.size) R2 O2 (A0.trans (B2.mono hs1)) (Nat.le_refl _) hs1
  obtain ⟨t, s, us, fs, fa, se, oo⟩ := x
  obtain ⟨u, uc, f, fc, a, ac, q, qc, r, rc⟩ := p
  obtain ⟨y0, y1, y2, y3, y4, y5, y6, z0, z1, z2, z3, z4, z5, z6, rl⟩ := R2.z7
  go_wp2_with fail
  obtain ⟨c0, c1, c2, c3, c4, c5, c6, cl⟩ := F1.c7
  refine bodyPost_ret (v := .tuple #[.agg (wv t s u us.length uc f fs.length fc a fa.length ac q se.length qc r oo.length rc), .int .i64 i]) ?_ rfl ⟨⟨u, uc, f, fc, a, ac, q, qc, r, rc⟩, ⟨t, s, us, fs, fa, se, oo⟩, i, rfl, F2, dw, F3⟩
  simp [results, Tryz.results22, go_sem, c0, c1, c2, c3, c4, c5, c6]
  done
theorem src_at (w : World) (c : Value) (n : Int) : Src (w.alloc (.cells #[c, .int .i64 n] 142)) w.heap.size c n := by
  unfold Src
  exact heap_new _ _
theorem later_c (w : World) (a : Option Addr) (len cap : Nat) (k : Int) (h0 : 0 ≤ k) (h1 : k ≤ 1000) :
    Calls Tryz.prog 84 #[.slice a len cap, .int .i64 k] w fun e w' => e = .returned (.pointer (some ⟨w.heap.size, 0, none⟩)) ∧ St w w' a len cap (7 * k + 5) := by
  go_enter Tryz.func84, Tryz.ntmps84
  go_wp2
  go_ret
  exact ⟨rfl, by rw [show 7 * k + 5 = 5 + 7 * k from by omega]; exact src_at _ _ _, (Below.refl _ _).alloc (Nat.le_refl _) _⟩
theorem Dn.begin {w0 w1 : World} {a : Option Addr} {len cap : Nat} {t : Int} (h0 : 0 ≤ t) (st : St w0 w1 a len cap t) : Dn w0 w1 w1 a len cap t := ⟨st.src.lt, ⟨t, h0, Int.le_refl _, st⟩, grown_refl _ _⟩
end Go.Proofs.YtaeeahgibifkjaaGreat
end
