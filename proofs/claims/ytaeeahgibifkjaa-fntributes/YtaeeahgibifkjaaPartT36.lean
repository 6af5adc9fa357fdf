/- Texts of mine put together (a claim holds at most 60 files): WldDraws7, SameBI. -/
import Derived.Test.YtaeeahgibifkjaaPartT35
import Derived.Test.YtaeeahgibifkjaaPartT33
import Derived.Test.YtaeeahgibifkjaaPartT27
import Derived.Test.YtaeeahgibifkjaaPartT13
import Derived.Test.YtaeeahgibifkjaaPartT07
import Derived.Test.YtaeeahgibifkjaaPartT14

/- WldDraws7 -/
/- Contracts of the draws of tributes. Condition: the code has at most 1048576 bytes, which can be read. -/
section
namespace Go.Proofs.Ytaeeahgibifkjaa
open Go.ChangeShapes Go.WideShapes Go.ChangeAt Go.RowKit
open Bd
set_option linter.unusedVariables false

theorem Below2.then {w W W' : World} {g : Nat} (h : Below2 w g W) (hb : Below W.heap.size W W') : Below2 w g W' := ⟨hb.os.trans h.os, hb.tape.trans h.tape, hb.output.trans h.output, Nat.le_trans h.size hb.size, fun k hk hne => (hb.block k (Nat.lt_of_lt_of_le hk h.size)).trans (h.block k hk hne)⟩
theorem Below2.grown {w W W' : World} {g p : Nat} (h : Below2 w g W) (hb : W.grownBy W' (some p)) (hp : w.heap.size ≤ p) : Below2 w g W' := ⟨hb.os.trans h.os, hb.tape.trans h.tape, hb.output.trans h.output, Nat.le_trans h.size hb.size, fun k hk hne => (hb.block k (Nat.lt_of_lt_of_le hk h.size) (fun e => by have := Option.some.inj e; omega)).trans (h.block k hk hne)⟩
theorem Below2.set7 {w W : World} {g : Nat} (h : Below2 w g W) (v0 v1 v2 v3 v4 v5 v6 : Value) : Below2 w g (set7 W g v0 v1 v2 v3 v4 v5 v6) := ((((((h.set 0 v0).set 1 v1).set 2 v2).set 3 v3).set 4 v4).set 5 v5).set 6 v6
theorem Src.blk {w : World} {p : Nat} {c : Value} {n : Int} (h : Src w p c n) : Blk w p #[c, .int .i64 n] 80 := h
set_option maxRecDepth 20000 in
set_option maxHeartbeats 8000000 in
theorem drawPursesOf_c (w : World) (a0 : Option Addr) (len cap : Nat) (hb : Bytes w a0 len w.heap.size) (hl : len ≤ 1048576) :
    Calls Try.prog 7 #[.slice a0 len cap] w fun e w' => ∃ p x, e = .returned (.agg (WP.v p x)) ∧ OwW w' w.heap.size p x ∧ DW x ∧ Below w.heap.size w w' := by
  obtain ⟨W1, HW1⟩ : ∃ W1, Hid (W1 = w.alloc (.cells zW 32)) := ⟨_, rfl⟩
  have A0 : Below w.heap.size w W1 := by rw [HW1.out]; exact (Below.refl _ _).alloc (Nat.le_refl _) _
  have R0 : Blk W1 w.heap.size zW 32 := by rw [HW1.out]; exact Blk.new w zW 32
  have cD := l7Draw_c W1 a0 len cap (hb.later A0) hl
  have hs1 := A0.size
  clear hb hl
  go_enter Try.func7, Try.ntmps7
  go_upto_region 1 with fail
  rw [← HW1.out]
  go_wp2_with fail
  refine cD.mono ?_
  rintro e w2 ⟨p, x, i, j, rfl, O2, dw, B2⟩
  obtain ⟨t, s, us, fs, fa, se, oo⟩ := x
  obtain ⟨u, uc, f, fc, a, ac, q, qc, r, rc⟩ := p
  obtain ⟨W3, HW3⟩ : ∃ W3, Hid (W3 = w2.alloc (.cells (wv t s u us.length uc f fs.length fc a fa.length ac q se.length qc r oo.length rc) 32)) := ⟨_, rfl⟩
  have B3 : Below w2.heap.size w2 W3 := by rw [HW3.out]; exact (Below.refl _ _).alloc (Nat.le_refl _) _
  have G3 : Blk W3 w2.heap.size (wv t s u us.length uc f fs.length fc a fa.length ac q se.length qc r oo.length rc) 32 := by rw [HW3.out]; exact Blk.new w2 _ _
  have R2 := (R0.below B2).below B3
  obtain ⟨F1, F2, F3⟩ := fill7 (v := w) (n0 := w.heap.size) R2 (O2.later B3) (A0.trans ((B2.trans (B3.mono B2.size)).mono hs1)) (Nat.le_refl _) hs1
  obtain ⟨y0, y1, y2, y3, y4, y5, y6, z0, z1, z2, z3, z4, z5, z6, rl⟩ := R2.z7
  obtain ⟨q0, q1, q2, q3, q4, q5, q6, ql⟩ := G3.c7
  go_upto_region 2 with fail
  rw [← HW3.out]
  go_wp2_with fail
  obtain ⟨c0, c1, c2, c3, c4, c5, c6, cl⟩ := F1.c7
  refine bodyPost_ret (v := .agg (wv t s u us.length uc f fs.length fc a fa.length ac q se.length qc r oo.length rc)) ?_ rfl ⟨⟨u, uc, f, fc, a, ac, q, qc, r, rc⟩, ⟨t, s, us, fs, fa, se, oo⟩, rfl, F2, dw, F3⟩
  simp [results, Try.results7, go_sem, c0, c1, c2, c3, c4, c5, c6]
  done
theorem OwW.below2 {w W : World} {base g : Nat} {p : WP} {x : KW} (h : OwW w base p x) (b : Below2 w g W) {cs : Array Value} {t : TypeId} (hb : Blk w g cs t) (h1 : 89 ≠ t) (h2 : 94 ≠ t) (h3 : 52 ≠ t) (h4 : 70 ≠ t) (h5 : 73 ≠ t) : OwW W base p x :=
  ⟨h.u.of_block (fun q hq => b.block q (h.u.lt q hq).2 (fun e => h.u.ne hb h1 (by rw [hq, e]))), h.f.of_block (fun q hq => b.block q (h.f.lt q hq).2 (fun e => h.f.ne hb h2 (by rw [hq, e]))), h.a.of_block (fun q hq => b.block q (h.a.lt q hq).2 (fun e => h.a.ne hb h3 (by rw [hq, e]))), h.s.of_block (fun q hq => b.block q (h.s.lt q hq).2 (fun e => h.s.ne hb h4 (by rw [hq, e]))), h.o.of_block (fun q hq => b.block q (h.o.lt q hq).2 (fun e => h.o.ne hb h5 (by rw [hq, e])))⟩
theorem row_blk {P : Int → Prop} {l : List Value} {W : World} {q m : Nat} {t : TypeId} (hb : Blk W q l.toArray t) (h : IntRow P l) (hm : m = l.length) : Row P W q m := by
  intro i hi
  obtain ⟨x, hx, e⟩ := h.at i (by omega)
  exact ⟨x, hx, hb.cell (by simpa using e)⟩
structure JPt (W3 : World) (rb : Nat) (a0 : Option Addr) (len cap : Nat) (i j : Int) (wv0 : Array Value) (d : Nat → Bool) (x3 x4 x5 x15 x16 x17 x18 x19 x20 x21 : Value) (W : World) : Prop where
  f0 : d 0 = true → x15 = .agg wv0
  f1 : d 1 = true → x16 = .int .i64 i
  f2 : d 2 = true → x17 = .int .i64 j
  f3 : d 3 = true → x18 = .slice a0 len cap
  f4 : d 4 = true → d 6 = false → ∃ p, x19 = .pointer (some ⟨p, 0, none⟩) ∧ W3.heap.size ≤ p ∧ Src W p (.slice a0 len cap) 26
  f5 : d 5 = true → d 6 = false → ∃ q, x20 = .slice (some ⟨q, 0, none⟩) 6 6 ∧ W3.heap.size ≤ q ∧ Blk W q #[.int .i64 1, .int .i64 5, .int .i64 10, .int .i64 500, .int .i64 0, .int .i64 1000001] 2
  f6 : d 6 = true → ∃ n : Int, x21 = .int .i64 n
  f8 : d 8 = true → x3 = .int .i64 i
  f9 : d 9 = true → x4 = .int .i64 j
  f10 : d 10 = true → ∃ n : Int, x5 = .int .i64 n
  A : Below2 W3 rb W
  R0 : d 7 = false → Blk W rb zW 32
  R1 : d 7 = true → Blk W rb wv0 32
set_option maxRecDepth 20000 in
set_option maxHeartbeats 32000000 in
theorem drawPayTribute_c (w : World) (a0 : Option Addr) (len cap : Nat) (hb : Bytes w a0 len w.heap.size) (hl : len ≤ 1048576) :
    Calls Try.prog 5 #[.slice a0 len cap] w fun e w' => ∃ p x i j n, e = .returned (.tuple #[.agg (WP.v p x), .int .i64 i, .int .i64 j, .int .i64 n]) ∧ OwW w' w.heap.size p x ∧ DW x ∧ Below w.heap.size w w' := by
  obtain ⟨W1, HW1⟩ : ∃ W1, Hid (W1 = w.alloc (.cells zW 32)) := ⟨_, rfl⟩
  have A0 : Below w.heap.size w W1 := by rw [HW1.out]; exact (Below.refl _ _).alloc (Nat.le_refl _) _
  have R0 : Blk W1 w.heap.size zW 32 := by rw [HW1.out]; exact Blk.new w zW 32
  have cD := l7Draw_c W1 a0 len cap (hb.later A0) hl
  have hs1 := A0.size
  have Hb : Hid (Bytes w a0 len w.heap.size) := hb
  clear hb
  go_enter Try.func5, Try.ntmps5
  go_upto_region 1 with fail
  rw [← HW1.out]
  go_wp2_with fail
  refine cD.mono ?_
  rintro e w2 ⟨p, x, i, j, rfl, O2, dw, B2⟩
  obtain ⟨t, s, us, fs, fa, se, oo⟩ := x
  obtain ⟨u, uc, f, fc, a, ac, q, qc, r, rc⟩ := p
  obtain ⟨W3, HW3⟩ : ∃ W3, Hid (W3 = w2.alloc (.cells (wv t s u us.length uc f fs.length fc a fa.length ac q se.length qc r oo.length rc) 32)) := ⟨_, rfl⟩
  have B3 : Below w2.heap.size w2 W3 := by rw [HW3.out]; exact (Below.refl _ _).alloc (Nat.le_refl _) _
  have G3 : Blk W3 w2.heap.size (wv t s u us.length uc f fs.length fc a fa.length ac q se.length qc r oo.length rc) 32 := by rw [HW3.out]; exact Blk.new w2 _ _
  have R3 := (R0.below B2).below B3
  have O3 := O2.later B3
  have Bw : Below w.heap.size w W3 := A0.trans ((B2.trans (B3.mono B2.size)).mono hs1)
  have HG : Hid (Blk W3 w2.heap.size (wv t s u us.length uc f fs.length fc a fa.length ac q se.length qc r oo.length rc) 32) := G3
  have HR : Hid (Blk W3 w.heap.size zW 32) := R3
  have HO : Hid (OwW W3 W1.heap.size ⟨u, uc, f, fc, a, ac, q, qc, r, rc⟩ ⟨t, s, us, fs, fa, se, oo⟩) := O3
  have HB : Hid (Below w.heap.size w W3) := Bw
  have Hdw : Hid (DW ⟨t, s, us, fs, fa, se, oo⟩) := dw
  have hsW := Bw.size
  have hrb := R3.lt
  have hwb := G3.lt
  have hw2 : w.heap.size < w2.heap.size := by have := R0.lt; have := B2.size; omega
  clear cD O2 B2 B3 R0 G3 R3 O3 Bw dw A0
  go_upto_region 2 with fail
  rw [← HW3.out]
  clear HW3
  refine wp_region_slots (by kernel_rfl) 3 (fun d xs W => ∃ x3 x4 x5 y9 y11 y12 y13 y14 x15 x16 x17 x18 x19 x20 x21, xs = [x3, x4, x5, (.pointer (some ⟨w2.heap.size, 0, none⟩)), (.int .i64 i), (.int .i64 j), y9, (.slice a0 len cap), y11, y12, y13, y14, x15, x16, x17, x18, x19, x20, x21] ∧ JPt W3 w.heap.size a0 len cap i j (wv t s u us.length uc f fs.length fc a fa.length ac q se.length qc r oo.length rc) d x3 x4 x5 x15 x16 x17 x18 x19 x20 x21 W) (by kernel_rfl) [_, _, _, _, _, _, _, _, _, _, _, _, _, _, _, _, _, _, _] rfl ?_ ?_ ?_
  · exact ⟨_, _, _, _, _, _, _, _, _, _, _, _, _, _, _, rfl, ⟨(fun h => by cases h), (fun h => by cases h), (fun h => by cases h), (fun h => by cases h), (fun h _ => by cases h), (fun h _ => by cases h), (fun h => by cases h), (fun h => by cases h), (fun h => by cases h), (fun h => by cases h), Below2.refl, (fun _ => HR.out.drew), (fun h => by cases h)⟩⟩
  · rintro d xs Wx i1 K hi hd hdep hcl ⟨x3, x4, x5, y9, y11, y12, y13, y14, x15, x16, x17, x18, x19, x20, x21, rfl, J⟩ hK
    have hi' : i1 < 11 := hi
    have hdp : ∀ j, (depsOf _ i1).contains j = true → d j = true := fun j hj => hdep j (by simpa using hj)
    clear hi hdep
    have h18 : i1 = 0 ∨ i1 = 1 ∨ i1 = 2 ∨ i1 = 3 ∨ i1 = 4 ∨ i1 = 5 ∨ i1 = 6 ∨ i1 = 7 ∨ i1 = 8 ∨ i1 = 9 ∨ i1 = 10 := by omega
    rcases h18 with rfl | rfl | rfl | rfl | rfl | rfl | rfl | rfl | rfl | rfl | rfl
    · obtain ⟨c0, c1, c2, c3, c4, c5, c6, cl⟩ := (J.A.blk HG.out (by omega)).c7
      refine wpOp_of rfl rfl ?_
      dsimp only [win, List.take_succ_cons, List.take_zero, List.drop_succ_cons, List.drop_zero, List.cons_append, List.nil_append, List.length_cons, List.length_nil, Nat.reduceAdd]
      go_simp
      exact hK [x3, x4, x5, (.pointer (some ⟨w2.heap.size, 0, none⟩)), (.int .i64 i), (.int .i64 j), y9, (.slice a0 len cap), y11, y12, y13, y14, (.agg (wv t s u us.length uc f fs.length fc a fa.length ac q se.length qc r oo.length rc)), x16, x17, x18, x19, x20, x21] _ ⟨_, _, _, _, _, _, _, _, _, _, _, _, _, _, _, rfl, ⟨(fun _ => rfl), J.f1, J.f2, J.f3, J.f4, J.f5, J.f6, J.f8, J.f9, J.f10, J.A, J.R0, J.R1⟩⟩
    · refine wpOp_of rfl rfl ?_
      dsimp only [win, List.take_succ_cons, List.take_zero, List.drop_succ_cons, List.drop_zero, List.cons_append, List.nil_append, List.length_cons, List.length_nil, Nat.reduceAdd]
      go_simp
      exact hK [x3, x4, x5, (.pointer (some ⟨w2.heap.size, 0, none⟩)), (.int .i64 i), (.int .i64 j), y9, (.slice a0 len cap), y11, y12, y13, y14, x15, (.int .i64 i), x17, x18, x19, x20, x21] _ ⟨_, _, _, _, _, _, _, _, _, _, _, _, _, _, _, rfl, ⟨J.f0, (fun _ => rfl), J.f2, J.f3, J.f4, J.f5, J.f6, J.f8, J.f9, J.f10, J.A, J.R0, J.R1⟩⟩
    · refine wpOp_of rfl rfl ?_
      dsimp only [win, List.take_succ_cons, List.take_zero, List.drop_succ_cons, List.drop_zero, List.cons_append, List.nil_append, List.length_cons, List.length_nil, Nat.reduceAdd]
      go_simp
      exact hK [x3, x4, x5, (.pointer (some ⟨w2.heap.size, 0, none⟩)), (.int .i64 i), (.int .i64 j), y9, (.slice a0 len cap), y11, y12, y13, y14, x15, x16, (.int .i64 j), x18, x19, x20, x21] _ ⟨_, _, _, _, _, _, _, _, _, _, _, _, _, _, _, rfl, ⟨J.f0, J.f1, (fun _ => rfl), J.f3, J.f4, J.f5, J.f6, J.f8, J.f9, J.f10, J.A, J.R0, J.R1⟩⟩
    · refine wpOp_of rfl rfl ?_
      dsimp only [win, List.take_succ_cons, List.take_zero, List.drop_succ_cons, List.drop_zero, List.cons_append, List.nil_append, List.length_cons, List.length_nil, Nat.reduceAdd]
      go_simp
      exact hK [x3, x4, x5, (.pointer (some ⟨w2.heap.size, 0, none⟩)), (.int .i64 i), (.int .i64 j), y9, (.slice a0 len cap), y11, y12, y13, y14, x15, x16, x17, (.slice a0 len cap), x19, x20, x21] _ ⟨_, _, _, _, _, _, _, _, _, _, _, _, _, _, _, rfl, ⟨J.f0, J.f1, J.f2, (fun _ => rfl), J.f4, J.f5, J.f6, J.f8, J.f9, J.f10, J.A, J.R0, J.R1⟩⟩
    · obtain rfl := J.f3 (hdp 3 (by kernel_rfl))
      have hz := J.A.size
      refine wpOp_of rfl rfl ?_
      dsimp only [win, List.take_succ_cons, List.take_zero, List.drop_succ_cons, List.drop_zero, List.cons_append, List.nil_append, List.length_cons, List.length_nil, Nat.reduceAdd]
      refine call_wp 15 #[.slice a0 len cap, .int .i64 3] (by kernel_rfl) _ (later_c Wx a0 len cap 3 (by omega) (by omega)) ?_
      rintro e w4 ⟨rfl, st⟩
      refine ⟨_, rfl, ?_⟩
      exact hK [x3, x4, x5, (.pointer (some ⟨w2.heap.size, 0, none⟩)), (.int .i64 i), (.int .i64 j), y9, (.slice a0 len cap), y11, y12, y13, y14, x15, x16, x17, (.slice a0 len cap), (.pointer (some ⟨Wx.heap.size, 0, none⟩)), x20, x21] _ ⟨_, _, _, _, _, _, _, _, _, _, _, _, _, _, _, rfl, ⟨J.f0, J.f1, J.f2, J.f3, (fun _ _ => ⟨_, rfl, hz, st.src⟩), (fun h h2 => by obtain ⟨q9, e9, h9, b9⟩ := J.f5 h h2; exact ⟨q9, e9, h9, b9.below st.bel⟩), J.f6, J.f8, J.f9, J.f10, (J.A.then st.bel), (fun h => (J.R0 h).below st.bel), (fun h => (J.R1 h).below st.bel)⟩⟩
    · have hz := J.A.size
      have bel : Below Wx.heap.size Wx (Wx.alloc (.cells #[.int .i64 1, .int .i64 5, .int .i64 10, .int .i64 500, .int .i64 0, .int .i64 1000001] 2)) := (Below.refl _ _).alloc (Nat.le_refl _) _
      refine wpOp_of rfl rfl ?_
      dsimp only [win, List.take_succ_cons, List.take_zero, List.drop_succ_cons, List.drop_zero, List.cons_append, List.nil_append, List.length_cons, List.length_nil, Nat.reduceAdd]
      go_simp
      exact hK [x3, x4, x5, (.pointer (some ⟨w2.heap.size, 0, none⟩)), (.int .i64 i), (.int .i64 j), y9, (.slice a0 len cap), y11, y12, y13, y14, x15, x16, x17, x18, x19, (.slice (some ⟨Wx.heap.size, 0, none⟩) 6 6), x21] _ ⟨_, _, _, _, _, _, _, _, _, _, _, _, _, _, _, rfl, ⟨J.f0, J.f1, J.f2, J.f3, (fun h h2 => by obtain ⟨q9, e9, h9, b9⟩ := J.f4 h h2; exact ⟨q9, e9, h9, b9.alloc _⟩), (fun _ _ => ⟨_, rfl, hz, Blk.new _ _ _⟩), J.f6, J.f8, J.f9, J.f10, (J.A.then bel), (fun h => (J.R0 h).below bel), (fun h => (J.R1 h).below bel)⟩⟩
    · obtain ⟨p9, rfl, hp9, s9⟩ := J.f4 (hdp 4 (by kernel_rfl)) hd
      obtain ⟨q9, rfl, hq9, b9⟩ := J.f5 (hdp 5 (by kernel_rfl)) hd
      have hne : p9 ≠ q9 := bk_ne s9.blk b9 (by decide)
      have hby : Bytes Wx a0 len p9 := ((Hb.out.kept HB.out).kept (J.A.below (n := w.heap.size) hsW (Nat.le_refl _))).mono (by omega)
      have hrow : Row PAny Wx q9 6 := row_blk b9 (by simp [IntRow, PAny]) rfl
      refine wpOp_of rfl rfl ?_
      dsimp only [win, List.take_succ_cons, List.take_zero, List.drop_succ_cons, List.drop_zero, List.cons_append, List.nil_append, List.length_cons, List.length_nil, Nat.reduceAdd]
      refine call_wp 14 #[.pointer (some ⟨p9, 0, none⟩), .slice (some ⟨q9, 0, none⟩) 6 6] (by kernel_rfl) _ (pick PAny Wx p9 q9 6 6 a0 len cap 26 s9 hby hl (by omega) (by omega) (by omega) (by omega) hne hrow) ?_
      rintro e w4 ⟨n, rfl, _, _, gg⟩
      have hrp : w.heap.size ≠ p9 := by omega
      refine ⟨_, rfl, ?_⟩
      exact hK [x3, x4, x5, (.pointer (some ⟨w2.heap.size, 0, none⟩)), (.int .i64 i), (.int .i64 j), y9, (.slice a0 len cap), y11, y12, y13, y14, x15, x16, x17, x18, (.pointer (some ⟨p9, 0, none⟩)), (.slice (some ⟨q9, 0, none⟩) 6 6), (.int .i64 n)] _ ⟨_, _, _, _, _, _, _, _, _, _, _, _, _, _, _, rfl, ⟨J.f0, J.f1, J.f2, J.f3, (fun _ h => by cases h), (fun _ h => by cases h), (fun _ => ⟨_, rfl⟩), J.f8, J.f9, J.f10, (J.A.grown gg hp9), (fun h => (J.R0 h).grown gg (fun e => hrp (Option.some.inj e))), (fun h => (J.R1 h).grown gg (fun e => hrp (Option.some.inj e)))⟩⟩
    · obtain rfl := J.f0 (hdp 0 (by kernel_rfl))
      have R2 := J.R0 hd
      obtain ⟨y0, y1, y2, y3, y4, y5, y6, z0, z1, z2, z3, z4, z5, z6, rl⟩ := R2.z7
      have Fb := set7_blk R2 (.int .i64 t) (.int .i64 s) (.slice u us.length uc) (.slice f fs.length fc) (.slice a fa.length ac) (.slice q se.length qc) (.slice r oo.length rc)
      refine wpOp_of rfl rfl ?_
      dsimp only [win, List.take_succ_cons, List.take_zero, List.drop_succ_cons, List.drop_zero, List.cons_append, List.nil_append, List.length_cons, List.length_nil, Nat.reduceAdd]
      go_simp
      exact hK [x3, x4, x5, (.pointer (some ⟨w2.heap.size, 0, none⟩)), (.int .i64 i), (.int .i64 j), y9, (.slice a0 len cap), y11, y12, y13, y14, (.agg (wv t s u us.length uc f fs.length fc a fa.length ac q se.length qc r oo.length rc)), x16, x17, x18, x19, x20, x21] _ ⟨_, _, _, _, _, _, _, _, _, _, _, _, _, _, _, rfl, ⟨J.f0, J.f1, J.f2, J.f3, (fun h h2 => by obtain ⟨q9, e9, h9, b9⟩ := J.f4 h h2; exact ⟨q9, e9, h9, (set7_other (W := Wx) (g := w.heap.size) (.int .i64 t) (.int .i64 s) (.slice u us.length uc) (.slice f fs.length fc) (.slice a fa.length ac) (.slice q se.length qc) (.slice r oo.length rc) q9 (by omega)).trans b9⟩), (fun h h2 => by obtain ⟨q9, e9, h9, b9⟩ := J.f5 h h2; exact ⟨q9, e9, h9, (set7_other (W := Wx) (g := w.heap.size) (.int .i64 t) (.int .i64 s) (.slice u us.length uc) (.slice f fs.length fc) (.slice a fa.length ac) (.slice q se.length qc) (.slice r oo.length rc) q9 (by omega)).trans b9⟩), J.f6, J.f8, J.f9, J.f10, (J.A.set7 (.int .i64 t) (.int .i64 s) (.slice u us.length uc) (.slice f fs.length fc) (.slice a fa.length ac) (.slice q se.length qc) (.slice r oo.length rc)), (fun h => by cases h), (fun _ => Fb)⟩⟩
    · obtain rfl := J.f1 (hdp 1 (by kernel_rfl))
      refine wpOp_of rfl rfl ?_
      dsimp only [win, List.take_succ_cons, List.take_zero, List.drop_succ_cons, List.drop_zero, List.cons_append, List.nil_append, List.length_cons, List.length_nil, Nat.reduceAdd]
      go_simp
      exact hK [(.int .i64 i), x4, x5, (.pointer (some ⟨w2.heap.size, 0, none⟩)), (.int .i64 i), (.int .i64 j), y9, (.slice a0 len cap), y11, y12, y13, y14, x15, (.int .i64 i), x17, x18, x19, x20, x21] _ ⟨_, _, _, _, _, _, _, _, _, _, _, _, _, _, _, rfl, ⟨J.f0, J.f1, J.f2, J.f3, J.f4, J.f5, J.f6, (fun _ => rfl), J.f9, J.f10, J.A, J.R0, J.R1⟩⟩
    · obtain rfl := J.f2 (hdp 2 (by kernel_rfl))
      refine wpOp_of rfl rfl ?_
      dsimp only [win, List.take_succ_cons, List.take_zero, List.drop_succ_cons, List.drop_zero, List.cons_append, List.nil_append, List.length_cons, List.length_nil, Nat.reduceAdd]
      go_simp
      exact hK [x3, (.int .i64 j), x5, (.pointer (some ⟨w2.heap.size, 0, none⟩)), (.int .i64 i), (.int .i64 j), y9, (.slice a0 len cap), y11, y12, y13, y14, x15, x16, (.int .i64 j), x18, x19, x20, x21] _ ⟨_, _, _, _, _, _, _, _, _, _, _, _, _, _, _, rfl, ⟨J.f0, J.f1, J.f2, J.f3, J.f4, J.f5, J.f6, J.f8, (fun _ => rfl), J.f10, J.A, J.R0, J.R1⟩⟩
    · obtain ⟨n, rfl⟩ := J.f6 (hdp 6 (by kernel_rfl))
      refine wpOp_of rfl rfl ?_
      dsimp only [win, List.take_succ_cons, List.take_zero, List.drop_succ_cons, List.drop_zero, List.cons_append, List.nil_append, List.length_cons, List.length_nil, Nat.reduceAdd]
      go_simp
      exact hK [x3, x4, (.int .i64 n), (.pointer (some ⟨w2.heap.size, 0, none⟩)), (.int .i64 i), (.int .i64 j), y9, (.slice a0 len cap), y11, y12, y13, y14, x15, x16, x17, x18, x19, x20, (.int .i64 n)] _ ⟨_, _, _, _, _, _, _, _, _, _, _, _, _, _, _, rfl, ⟨J.f0, J.f1, J.f2, J.f3, J.f4, J.f5, J.f6, J.f8, J.f9, (fun _ => ⟨_, rfl⟩), J.A, J.R0, J.R1⟩⟩
  · rintro d xs Wx hall ⟨x3, x4, x5, y9, y11, y12, y13, y14, x15, x16, x17, x18, x19, x20, x21, rfl, J⟩
    obtain rfl := J.f8 (hall 8 (by decide))
    obtain rfl := J.f9 (hall 9 (by decide))
    obtain ⟨n, rfl⟩ := J.f10 (hall 10 (by decide))
    have Fb := J.R1 (hall 7 (by decide))
    have B2 := J.A
    have Fo : OwW Wx w.heap.size ⟨u, uc, f, fc, a, ac, q, qc, r, rc⟩ ⟨t, s, us, fs, fa, se, oo⟩ := (HO.out.below2 B2 HR.out (by decide) (by decide) (by decide) (by decide) (by decide)).mono hs1
    have Fw : Below w.heap.size w Wx := HB.out.trans (B2.below (n := w.heap.size) hsW (Nat.le_refl _))
    clear J hall
    dsimp only [win, List.take_succ_cons, List.take_zero, List.drop_succ_cons, List.drop_zero, List.cons_append, List.nil_append, List.length_cons, List.length_nil, Nat.reduceAdd]
    go_wp2_with fail
    obtain ⟨c0, c1, c2, c3, c4, c5, c6, cl⟩ := Fb.c7
    refine bodyPost_ret (v := .tuple #[.agg (wv t s u us.length uc f fs.length fc a fa.length ac q se.length qc r oo.length rc), .int .i64 i, .int .i64 j, .int .i64 n]) ?_ rfl ⟨⟨u, uc, f, fc, a, ac, q, qc, r, rc⟩, ⟨t, s, us, fs, fa, se, oo⟩, i, j, n, rfl, Fo, Hdw.out, Fw⟩
    simp [results, Try.results5, go_sem, c0, c1, c2, c3, c4, c5, c6]
    done
end Go.Proofs.Ytaeeahgibifkjaa
end

/- SameBI -/
/- The contract of SameBoards at two boards that have the same, whose lists may be nil. Condition: the lists are short. -/
section
namespace Go.Proofs.Ytaeeahgibifkjaa
open Go.ChangeShapes Go.WideShapes Go.ChangeAt Go.RowKit
open Bd
set_option linter.unusedVariables false

theorem ArgU.drewN' {w : World} {a : Option Addr} {l : List K10} (h : ArgU w a l) (n : Nat) : ArgU (w.drewN n) a l := h.later (below_drewN _ _)
theorem ArgF.drewN' {w : World} {a : Option Addr} {l : List K3} (h : ArgF w a l) (n : Nat) : ArgF (w.drewN n) a l := h.later (below_drewN _ _)
set_option maxHeartbeats 2000000 in
theorem eqU_same (w : World) (a1 a2 : Option Addr) (m c1 c2 : Nat) (l : List K10) (hl : l.length = m) (hm : m ≤ 1000) (h1 : ArgU w a1 l) (h2 : ArgU w a2 l) :
    Calls Try.prog 59 #[.slice a1 m c1, .slice a2 m c2] w fun e w' => e = .returned (.bool true) ∧ ∃ nq, w' = w.drewN nq := by
  have H1 : Hid (ArgU w a1 l) := h1
  have H2 : Hid (ArgU w a2 l) := h2
  have Hl : Hid (l.length = m) := hl
  clear h1 h2 hl
  go_enter Try.func59, Try.ntmps59
  go_wp2
  go_loopw [13] (fun i wr => ∃ k : Nat, k ≤ m ∧ i = .int .i64 k ∧ ∃ nq, wr = w.drewN nq) (fun i _ => m - (intOf i).toNat)
  case atStart => exact ⟨0, Nat.zero_le _, rfl, 0, rfl⟩
  case round =>
    obtain ⟨k, hk, rfl, nq0, rfl⟩ := hrel
    by_cases hlt : k < m
    · have hlt' : (k : Int) < (m : Int) := by omega
      obtain ⟨x, hx⟩ : ∃ x, l[k]? = some x := ⟨_, List.getElem?_eq_getElem (by have := Hl.out; omega)⟩
      obtain ⟨b, off, rfl, hb, hat⟩ := H1.out.at hx
      obtain ⟨b', off', rfl, hb', hat'⟩ := H2.out.at hx
      obtain ⟨a0, a1, a2, a3, a4, a5, a6, a7, a8, a9⟩ := hat.all hx
      obtain ⟨b0, b1, b2, b3, b4, b5, b6, b7, b8, b9⟩ := hat'.all hx
      have hne := neqU x x
      rw [K10.b_self] at hne
      clear hx hat hat'
      go_wp2
      go_quiet (fail)
      go_wp2
      go_roundw
      case rel => first | exact ⟨k + 1, by omega, by go_num, _, rfl⟩ | exact ⟨k + 1, by omega, by go_num, _, drewN_trans _ _ _⟩
      case measure => simp [intOf]; omega
    · obtain rfl : k = m := by omega
      go_wp2
      go_ret
      exact ⟨rfl, nq0, rfl⟩
set_option maxHeartbeats 2000000 in
theorem eqF_same (w : World) (a1 a2 : Option Addr) (m c1 c2 : Nat) (l : List K3) (hl : l.length = m) (hm : m ≤ 1000) (h1 : ArgF w a1 l) (h2 : ArgF w a2 l) :
    Calls Try.prog 60 #[.slice a1 m c1, .slice a2 m c2] w fun e w' => e = .returned (.bool true) ∧ ∃ nq, w' = w.drewN nq := by
  have H1 : Hid (ArgF w a1 l) := h1
  have H2 : Hid (ArgF w a2 l) := h2
  have Hl : Hid (l.length = m) := hl
  clear h1 h2 hl
  go_enter Try.func60, Try.ntmps60
  go_wp2
  go_loopw [13] (fun i wr => ∃ k : Nat, k ≤ m ∧ i = .int .i64 k ∧ ∃ nq, wr = w.drewN nq) (fun i _ => m - (intOf i).toNat)
  case atStart => exact ⟨0, Nat.zero_le _, rfl, 0, rfl⟩
  case round =>
    obtain ⟨k, hk, rfl, nq0, rfl⟩ := hrel
    by_cases hlt : k < m
    · have hlt' : (k : Int) < (m : Int) := by omega
      obtain ⟨x, hx⟩ : ∃ x, l[k]? = some x := ⟨_, List.getElem?_eq_getElem (by have := Hl.out; omega)⟩
      obtain ⟨b, off, rfl, hb, hat⟩ := H1.out.at hx
      obtain ⟨b', off', rfl, hb', hat'⟩ := H2.out.at hx
      obtain ⟨a0, a1, a2⟩ := hat.all hx
      obtain ⟨b0, b1, b2⟩ := hat'.all hx
      have hne := neqF x x
      rw [K3.b_self] at hne
      clear hx hat hat'
      go_wp2
      go_quiet (fail)
      go_wp2
      go_roundw
      case rel => first | exact ⟨k + 1, by omega, by go_num, _, rfl⟩ | exact ⟨k + 1, by omega, by go_num, _, drewN_trans _ _ _⟩
      case measure => simp [intOf]; omega
    · obtain rfl : k = m := by omega
      go_wp2
      go_ret
      exact ⟨rfl, nq0, rfl⟩
set_option maxHeartbeats 4000000 in
theorem sameB_in (w : World) (a1 a1' a2 a2' : Option Addr) (m m' c1 c1' c2 c2' : Nat) (us : List K10) (fs : List K3) (hl : us.length = m) (hl' : fs.length = m') (hm : m ≤ 1000) (hm' : m' ≤ 1000) (u1 : ArgU w a1 us) (f1 : ArgF w a1' fs) (u2 : ArgU w a2 us) (f2 : ArgF w a2' fs) :
    Calls Try.prog 31 #[.agg (brdV a1 m c1 a1' m' c1'), .agg (brdV a2 m c2 a2' m' c2')] w fun e w' => e = .returned (.bool true) ∧ Below w.heap.size w w' := by
  have B1 : Below w.heap.size w (w.alloc (.cells (brdV a1 m c1 a1' m' c1') 27)) := (Below.refl _ _).alloc (Nat.le_refl _) _
  obtain ⟨W2, HW2⟩ : ∃ W2, Hid (W2 = (w.alloc (.cells (brdV a1 m c1 a1' m' c1') 27)).alloc (.cells (brdV a2 m c2 a2' m' c2') 27)) := ⟨_, rfl⟩
  have B2 : Below w.heap.size w W2 := by rw [HW2.out]; exact B1.alloc (by rw [size_new]; omega) _
  have r0 : W2.rowIs w.heap.size 27 2 (fun i => if i = 0 then .slice a1 m c1 else .slice a1' m' c1') := by
    rw [HW2.out]
    have r := rowTwo w (.slice a1 m c1) (.slice a1' m' c1') 27
    exact r.of_block (((Below.refl _ _).alloc (Nat.le_refl _) _).block _ r.lt)
  have r1 : W2.rowIs (w.heap.size + 1) 27 2 (fun i => if i = 0 then .slice a2 m c2 else .slice a2' m' c2') := by
    rw [HW2.out]
    have r := rowTwo (w.alloc (.cells (brdV a1 m c1 a1' m' c1') 27)) (.slice a2 m c2) (.slice a2' m' c2') 27
    rw [size_new] at r
    exact r
  have cU := eqU_same W2 a1 a2 m c1 c2 us hl hm (u1.later B2) (u2.later B2)
  have cF := fun nq => eqF_same (W2.drewN nq) a1' a2' m' c1' c2' fs hl' hm' ((f1.later B2).drewN' nq) ((f2.later B2).drewN' nq)
  obtain ⟨p0, p1, pl⟩ := row_brd r0
  obtain ⟨q0, q1, ql⟩ := row_brd r1
  clear u1 f1 u2 f2 B1
  go_enter Try.func31, Try.ntmps31
  go_upto_region 1 with fail
  rw [← HW2.out]
  go_wp2_with fail
  refine cU.mono ?_
  rintro e w1 ⟨rfl, nq, rfl⟩
  go_wp2_with fail
  refine (cF nq).mono ?_
  rintro e w1 ⟨rfl, nq2, rfl⟩
  go_wp2
  go_ret
  exact ⟨rfl, B2.trans ((below_drewN _ (nq + nq2)).mono B2.size)⟩
end Go.Proofs.Ytaeeahgibifkjaa
end
