/- Texts of mine put together (a claim holds at most 60 files): BrdDraws5, WldDraws5, LeaveSpec, LeaveSpec2. -/
import Derived.Test.YtlfnnobkgbfdgaaGreatPartH40
import Derived.Test.YtlfnnobkgbfdgaaGreatPartH41
import Derived.Test.YtlfnnobkgbfdgaaGreatPartH18
import Derived.Test.YtlfnnobkgbfdgaaGreatPartH38
import Derived.Test.YtlfnnobkgbfdgaaGreatPartH35
import Derived.Deep.RegionHeld3

/- BrdDraws5 -/
/- Contracts of the draws of PutUnit, OwnedBy and UnitOf: boards in memory of their own, a unit, a number. Condition: the code has at most 1048576 bytes, which can be read. -/
section
namespace Go.Proofs.YtlfnnobkgbfdgaaGreat
open Go.ChangeShapes Go.WideShapes Go.ChangeAt Go.RowKit
set_option linter.unusedVariables false

theorem Dn.start {w0 w1 : World} {a : Option Addr} {len cap : Nat} (st : St w0 w1 a len cap 0) : Dn w0 w1 w1 a len cap 0 := ⟨st.src.lt, ⟨0, by omega, by omega, st⟩, grown_refl _ _⟩
theorem Blk.old {w0 w W : World} {a : Option Addr} {len cap : Nat} {n : Int} {g : Nat} {cs : Array Value} {t : TypeId} (h : Blk w0 g cs t) (d : Dn w0 w W a len cap n) : Blk W g cs t := by
  unfold Blk; rw [d.below.block g h.lt]; exact h
def PSmall (x : Int) : Prop := -100 ≤ x ∧ x ≤ 100
abbrev Z2 : Obj := .cells #[.slice none 0 0, .slice none 0 0] 27
end Go.Proofs.YtlfnnobkgbfdgaaGreat
end

/- WldDraws5 -/
/- Contracts of the draws of worlds and two sides out of bytes. Condition: the code has at most 1048576 bytes, which can be read. -/
section
namespace Go.Proofs.YtlfnnobkgbfdgaaGreat
open Go.ChangeShapes Go.WideShapes Go.ChangeAt Go.RowKit
open Bd
set_option linter.unusedVariables false

/- a world that was drawn -/
structure DW (x : KW) : Prop where
  u : x.us.length ≤ 8
  f : x.fs.length ≤ 5
  a : Fac4 x.fa
  s : x.se.length ≤ 5
  o : x.oo.length ≤ 2
structure VD (w0 w W : World) (a : Option Addr) (len cap : Nat) (n : Int) (rb wb : Nat) (p : WP) (x : KW) : Prop where
  R : Blk W rb zW 32
  B : Blk W wb (p.v x) 32
  o : OwW W w.heap.size p x
  rl : rb < w.heap.size
  bw : w.heap.size ≤ wb
  rs : rb < w0.heap.size
  d : Dn w0 w W a len cap n
theorem OwW.drawn {w w' : World} {base s : Nat} {p : WP} {x : KW} (h : OwW w base p x) (g : w.grownBy w' (some s)) (hs : s < base) : OwW w' base p x := ⟨h.u.drawn g hs, h.f.drawn g hs, h.a.drawn g hs, h.s.drawn g hs, h.o.drawn g hs⟩
theorem OwW.alloc {w : World} {base : Nat} {p : WP} {x : KW} (h : OwW w base p x) (o : Obj) : OwW (w.alloc o) base p x := h.later ((Below.refl _ _).alloc (Nat.le_refl _) o)
theorem VD.grow {w0 w W W' : World} {a : Option Addr} {len cap : Nat} {n n' : Int} {rb wb : Nat} {p : WP} {x : KW} (h : VD w0 w W a len cap n rb wb p x) (g : W.grownBy W' (some w0.heap.size)) (d : Dn w0 w W' a len cap n') : VD w0 w W' a len cap n' rb wb p x :=
  ⟨h.R.grown g (fun e => by have := Option.some.inj e; have := h.rs; omega), h.B.grown g (fun e => by have := Option.some.inj e; have := h.bw; have := h.d.lt; omega), h.o.drawn g h.d.lt, h.rl, h.bw, h.rs, d⟩
theorem VD.alloc {w0 w W : World} {a : Option Addr} {len cap : Nat} {n : Int} {rb wb : Nat} {p : WP} {x : KW} (h : VD w0 w W a len cap n rb wb p x) (o : Obj) : VD w0 w (W.alloc o) a len cap n rb wb p x :=
  ⟨h.R.alloc o, h.B.alloc o, h.o.alloc o, h.rl, h.bw, h.rs, h.d.alloc o⟩
/- the factions' block as a list of one's own -/
theorem Blk.slA {w : World} {g base : Nat} {fa : List KA} (h : Blk w g (flatA fa).toArray 46) (hb : base ≤ g) (f4 : Fac4 fa) : SlA w base (.slice (some ⟨g, 0, none⟩) fa.length 4) fa := by
  have := SlA.of_blk h hb (by have := f4.l; omega)
  rw [f4.l] at this ⊢
  exact this
theorem ArgO.atD {w : World} {a : Option Addr} {l : List K2} (h : ArgO w a l) {i : Nat} {x : K2} (hi : l[i]? = some x) : ∃ b off, a = some ⟨b, off, none⟩ ∧ b < w.heap.size ∧ OAt w b off l := by
  rcases h with rfl | h
  · simp at hi
  · exact h
/- the answer's block is filled with a world -/
theorem set7_blk {W : World} {g : Nat} {c0 c1 c2 c3 c4 c5 c6 : Value} {t : TypeId} (h : Blk W g #[c0, c1, c2, c3, c4, c5, c6] t) (v0 v1 v2 v3 v4 v5 v6 : Value) : Blk (set7 W g v0 v1 v2 v3 v4 v5 v6) g #[v0, v1, v2, v3, v4, v5, v6] t := by
  have q0 : Blk _ g #[v0, c1, c2, c3, c4, c5, c6] t := h.set 0 v0
  have q1 : Blk _ g #[v0, v1, c2, c3, c4, c5, c6] t := q0.set 1 v1
  have q2 : Blk _ g #[v0, v1, v2, c3, c4, c5, c6] t := q1.set 2 v2
  have q3 : Blk _ g #[v0, v1, v2, v3, c4, c5, c6] t := q2.set 3 v3
  have q4 : Blk _ g #[v0, v1, v2, v3, v4, c5, c6] t := q3.set 4 v4
  have q5 : Blk _ g #[v0, v1, v2, v3, v4, v5, c6] t := q4.set 5 v5
  have q6 : Blk _ g #[v0, v1, v2, v3, v4, v5, v6] t := q5.set 6 v6
  exact q6
theorem set7_other {W : World} {g : Nat} (v0 v1 v2 v3 v4 v5 v6 : Value) (q : Nat) (hq : q ≠ g) : (set7 W g v0 v1 v2 v3 v4 v5 v6).heap[q]? = W.heap[q]? :=
  (Below.heap_setCell _ _ _ _ hq).trans ((Below.heap_setCell _ _ _ _ hq).trans ((Below.heap_setCell _ _ _ _ hq).trans ((Below.heap_setCell _ _ _ _ hq).trans ((Below.heap_setCell _ _ _ _ hq).trans ((Below.heap_setCell _ _ _ _ hq).trans (Below.heap_setCell _ _ _ _ hq))))))
theorem set7_below {n : Nat} {w W : World} {g : Nat} (h : Below n w W) (hg : n ≤ g) (v0 v1 v2 v3 v4 v5 v6 : Value) : Below n w (set7 W g v0 v1 v2 v3 v4 v5 v6) :=
  bel_set (bel_set (bel_set (bel_set (bel_set (bel_set (bel_set h g 0 hg v0) g 1 hg v1) g 2 hg v2) g 3 hg v3) g 4 hg v4) g 5 hg v5) g 6 hg v6
structure Z7 (w : World) (g : Nat) : Prop where
  c0 : w.cell? ⟨g, 0, none⟩ = some (.int .i64 0)
  c1 : w.cell? ⟨g, 1, none⟩ = some (.int .i64 0)
  c2 : w.cell? ⟨g, 2, none⟩ = some (.slice none 0 0)
  c3 : w.cell? ⟨g, 3, none⟩ = some (.slice none 0 0)
  c4 : w.cell? ⟨g, 4, none⟩ = some (.slice none 0 0)
  c5 : w.cell? ⟨g, 5, none⟩ = some (.slice none 0 0)
  c6 : w.cell? ⟨g, 6, none⟩ = some (.slice none 0 0)
  f0 : w.frozen? ⟨g, 0, none⟩ = false
  f1 : w.frozen? ⟨g, 1, none⟩ = false
  f2 : w.frozen? ⟨g, 2, none⟩ = false
  f3 : w.frozen? ⟨g, 3, none⟩ = false
  f4 : w.frozen? ⟨g, 4, none⟩ = false
  f5 : w.frozen? ⟨g, 5, none⟩ = false
  f6 : w.frozen? ⟨g, 6, none⟩ = false
  lt : g < w.heap.size
theorem Blk.z7 {w : World} {g : Nat} (h : Blk w g zW 32) : Z7 w g :=
  ⟨h.cell rfl, h.cell rfl, h.cell rfl, h.cell rfl, h.cell rfl, h.cell rfl, h.cell rfl, h.frozen _, h.frozen _, h.frozen _, h.frozen _, h.frozen _, h.frozen _, h.frozen _, h.lt⟩
/- the cells of a world in memory -/
structure C7 (w : World) (g : Nat) (t s : Int) (vu vf va vs vo : Value) : Prop where
  c0 : w.cell? ⟨g, 0, none⟩ = some (.int .i64 t)
  c1 : w.cell? ⟨g, 1, none⟩ = some (.int .i64 s)
  c2 : w.cell? ⟨g, 2, none⟩ = some vu
  c3 : w.cell? ⟨g, 3, none⟩ = some vf
  c4 : w.cell? ⟨g, 4, none⟩ = some va
  c5 : w.cell? ⟨g, 5, none⟩ = some vs
  c6 : w.cell? ⟨g, 6, none⟩ = some vo
  lt : g < w.heap.size
theorem Blk.c7 {w : World} {g : Nat} {t s : Int} {vu vf va vs vo : Value} {ty : TypeId} (h : Blk w g #[.int .i64 t, .int .i64 s, vu, vf, va, vs, vo] ty) : C7 w g t s vu vf va vs vo :=
  ⟨h.cell rfl, h.cell rfl, h.cell rfl, h.cell rfl, h.cell rfl, h.cell rfl, h.cell rfl, h.lt⟩
/- what is known behind the last store -/
theorem VD.store {w0 w W : World} {a : Option Addr} {len cap : Nat} {n : Int} {rb wb : Nat} {p : WP} {x : KW} (h : VD w0 w W a len cap n rb wb p x) {n0 : Nat} {v : World} (hb : Below n0 v W) (hn : n0 ≤ rb) (hn2 : n0 ≤ w.heap.size) :
    Blk (set7 W rb (.int .i64 x.t) (.int .i64 x.s) (.slice p.u x.us.length p.uc) (.slice p.f x.fs.length p.fc) (.slice p.a x.fa.length p.ac) (.slice p.s x.se.length p.sc) (.slice p.o x.oo.length p.oc)) rb (p.v x) 32 ∧
    OwW (set7 W rb (.int .i64 x.t) (.int .i64 x.s) (.slice p.u x.us.length p.uc) (.slice p.f x.fs.length p.fc) (.slice p.a x.fa.length p.ac) (.slice p.s x.se.length p.sc) (.slice p.o x.oo.length p.oc)) n0 p x ∧
    Below n0 v (set7 W rb (.int .i64 x.t) (.int .i64 x.s) (.slice p.u x.us.length p.uc) (.slice p.f x.fs.length p.fc) (.slice p.a x.fa.length p.ac) (.slice p.s x.se.length p.sc) (.slice p.o x.oo.length p.oc)) :=
  ⟨set7_blk h.R _ _ _ _ _ _ _, (h.o.of_block h.R (by decide) (by decide) (by decide) (by decide) (by decide) (set7_other _ _ _ _ _ _ _)).mono hn2, set7_below hb hn _ _ _ _ _ _ _⟩
set_option maxRecDepth 20000 in
set_option maxHeartbeats 16000000 in
theorem l7Draw_c (w : World) (a0 : Option Addr) (len cap : Nat) (hb : Bytes w a0 len w.heap.size) (hl : len ≤ 1048576) :
    Calls Tryz.prog 15 #[.slice a0 len cap] w fun e w' => ∃ p x i j, e = .returned (.tuple #[.agg (WP.v p x), .int .i64 i, .int .i64 j]) ∧ OwW w' w.heap.size p x ∧ DW x ∧ Below w.heap.size w w' := by
  obtain ⟨W1, HW1⟩ : ∃ W1, Hid (W1 = w.alloc (.cells zW 32)) := ⟨_, rfl⟩
  have A0 : Below w.heap.size w W1 := by rw [HW1.out]; exact (Below.refl _ _).alloc (Nat.le_refl _) _
  have R0 : Blk W1 w.heap.size zW 32 := by rw [HW1.out]; exact Blk.new w zW 32
  have cx : Cx W1 a0 len := ⟨hb.later A0, hl⟩
  have hR := R0.lt
  go_enter Tryz.func15, Tryz.ntmps15
  go_upto_region 1 with fail
  rw [← HW1.out]
  go_wp2_with fail
  refine (source W1 a0 len cap).mono ?_
  rintro e w1 ⟨rfl, st1⟩
  have d1 := Dn.start st1
  go_wp2_with fail
  refine (l6Bent_c cx d1 (by omega)).mono ?_
  rintro e w2 ⟨t, s, vu, vf, fb, vs, vo, us, fs, fa, se, oo, rfl, A2, f4, U2, F2, S2, O2, hfb, lus, lfs, lse, loo, d2⟩
  have SA := A2.slA hfb f4
  obtain ⟨pu, cu, rfl⟩ := U2.fm
  obtain ⟨pf, cf, rfl⟩ := F2.fm
  obtain ⟨ps, cs, rfl⟩ := S2.fm
  obtain ⟨po, co, rfl⟩ := O2.fm
  have R2 := R0.old d2
  obtain ⟨W3, HW3⟩ : ∃ W3, Hid (W3 = w2.alloc (.cells (wV t s (.slice pu us.length cu) (.slice pf fs.length cf) fb (.slice ps se.length cs) (.slice po oo.length co)) 32)) := ⟨_, rfl⟩
  have h4 := f4.l
  have D3 : VD W1 w1 W3 a0 len cap 1000 w.heap.size w2.heap.size ⟨pu, cu, pf, cf, some ⟨fb, 0, none⟩, 4, ps, cs, po, co⟩ ⟨t, s, us, fs, fa, se, oo⟩ := by
    rw [HW3.out]
    refine ⟨R2.alloc _, ?_, OwW.alloc ⟨U2, F2, SA, S2, O2⟩ _, by have := d1.lt; omega, d2.gr.size, hR, (d2.mono (by omega)).alloc _⟩
    show Blk _ _ (wv t s pu us.length cu pf fs.length cf (some ⟨fb, 0, none⟩) fa.length 4 ps se.length cs po oo.length co) _
    rw [h4]
    exact Blk.new w2 _ _
  have dw : DW ⟨t, s, us, fs, fa, se, oo⟩ := ⟨lus, lfs, f4, lse, loo⟩
  have hw1 : w.heap.size ≤ w1.heap.size := by have := d1.lt; omega
  have Hdw : Hid (DW ⟨t, s, us, fs, fa, se, oo⟩) := dw
  have Hb1 : Hid (Below w.heap.size w W1) := A0
  clear R0 R2 A2 U2 F2 SA S2 O2 d2 f4 dw A0 lus lfs lse
  go_upto_region 3 with fail
  rw [← HW3.out]
  go_wp2_with fail
  refine (pickD PAny cx rfl D3.d (by omega) (by omega) (by omega) (by simp [IntRow, PAny]) (by rfl)).mono ?_
  rintro e w4 ⟨i, rfl, _, d4, g4⟩
  have D4 := D3.grow g4 d4
  clear D3 d4 g4
  go_wp2_with fail
  refine (pickD PAny cx rfl D4.d (by omega) (by omega) (by omega) (by simp [IntRow, PAny]) (by rfl)).mono ?_
  rintro e w5 ⟨j, rfl, _, d5, g5⟩
  have D5 := D4.grow g5 d5
  clear D4 d5 g5
  have hc : C7 w5 w2.heap.size t s (.slice pu us.length cu) (.slice pf fs.length cf) (.slice (some ⟨fb, 0, none⟩) fa.length 4) (.slice ps se.length cs) (.slice po oo.length co) := D5.B.c7
  rw [h4] at hc
  by_cases hz : oo.length = 0
  · obtain rfl : oo = [] := List.eq_nil_of_length_eq_zero hz
    simp only [List.length_nil] at hc
    obtain ⟨q0, q1, q2, q3, q4, q5, q6, bl⟩ := hc
    clear hz
    obtain ⟨y0, y1, y2, y3, y4, y5, y6, z0, z1, z2, z3, z4, z5, z6, rl⟩ := D5.R.z7
    obtain ⟨F1, F2, F3⟩ := D5.store (v := w) (n0 := w.heap.size) (Hb1.out.trans (D5.d.below.mono (by omega))) (Nat.le_refl _) hw1
    dsimp only at F1 F2 F3
    simp only [h4, List.length_nil] at F1 F2 F3
    go_wp2_with fail
    refine bodyPost_ret (v := .tuple #[.agg (wV t s (.slice pu us.length cu) (.slice pf fs.length cf) fb (.slice ps se.length cs) (.slice po 0 co)), .int .i64 i, .int .i64 j]) ?_ rfl ⟨⟨pu, cu, pf, cf, some ⟨fb, 0, none⟩, 4, ps, cs, po, co⟩, ⟨t, s, us, fs, fa, se, []⟩, i, j, by show _ = Ending.returned (.tuple #[.agg (wv t s pu us.length cu pf fs.length cf (some ⟨fb, 0, none⟩) fa.length 4 ps se.length cs po 0 co), .int .i64 i, .int .i64 j]); rw [h4], F2, Hdw.out, F3⟩
    obtain ⟨c0, c1, c2, c3, c4, c5, c6, cl⟩ := F1.c7
    simp [results, Tryz.results15, go_sem, c0, c1, c2, c3, c4, c5, c6]
    exact h4
  · obtain ⟨q0, q1, q2, q3, q4, q5, q6, bl⟩ := hc
    have hzi : 0 < ((oo.length : Int)) := by omega
    have cC := chanceD cx D5.d 3 (by omega) (by omega) (by omega)
    obtain ⟨x, hx⟩ : ∃ x, oo[0]? = some x := ⟨_, List.getElem?_eq_getElem (by omega)⟩
    have hx : Hid (oo[0]? = some x) := hx
    go_wp2_with fail
    refine cC.mono ?_
    rintro e w6 ⟨b, rfl, d6, g6⟩
    have D6 := D5.grow g6 d6
    have hc : C7 w6 w2.heap.size t s (.slice pu us.length cu) (.slice pf fs.length cf) (.slice (some ⟨fb, 0, none⟩) fa.length 4) (.slice ps se.length cs) (.slice po oo.length co) := D6.B.c7
    rw [h4] at hc
    obtain ⟨q0, q1, q2, q3, q4, q5, q6, bl⟩ := hc
    obtain ⟨y0, y1, y2, y3, y4, y5, y6, z0, z1, z2, z3, z4, z5, z6, rl⟩ := D6.R.z7
    obtain ⟨pq, oq, rfl, hpl, hat⟩ := D6.o.in.o.arg.atD hx.out
    obtain ⟨k0', k1', kl⟩ := hat.one hpl hx.out
    have k0 : w6.cell? ⟨pq, oq, none⟩ = some (.int .i64 x.c0) := by simpa using k0'
    have k1 : w6.cell? ⟨pq, oq + 1, none⟩ = some (.int .i64 x.c1) := by simpa using k1'
    clear k0' k1'
    obtain ⟨F1, F2, F3⟩ := D6.store (v := w) (n0 := w.heap.size) (Hb1.out.trans (D6.d.below.mono (by omega))) (Nat.le_refl _) hw1
    dsimp only at F1 F2 F3
    rw [h4] at F1 F2 F3
    clear cC D5 hat
    cases b
    · go_wp2_with fail
      refine bodyPost_ret (v := .tuple #[.agg (wV t s (.slice pu us.length cu) (.slice pf fs.length cf) fb (.slice ps se.length cs) (.slice (some ⟨pq, oq, none⟩) oo.length co)), .int .i64 i, .int .i64 j]) ?_ rfl ⟨⟨pu, cu, pf, cf, some ⟨fb, 0, none⟩, 4, ps, cs, (some ⟨pq, oq, none⟩), co⟩, ⟨t, s, us, fs, fa, se, oo⟩, i, j, by show _ = Ending.returned (.tuple #[.agg (wv t s pu us.length cu pf fs.length cf (some ⟨fb, 0, none⟩) fa.length 4 ps se.length cs (some ⟨pq, oq, none⟩) oo.length co), .int .i64 i, .int .i64 j]); rw [h4], F2, Hdw.out, F3⟩
      obtain ⟨c0, c1, c2, c3, c4, c5, c6, cl⟩ := F1.c7
      simp [results, Tryz.results15, go_sem, c0, c1, c2, c3, c4, c5, c6]
      exact h4
    · go_wp2_with fail
      refine bodyPost_ret (v := .tuple #[.agg (wV t s (.slice pu us.length cu) (.slice pf fs.length cf) fb (.slice ps se.length cs) (.slice (some ⟨pq, oq, none⟩) oo.length co)), .int .i64 x.c1, .int .i64 x.c0]) ?_ rfl ⟨⟨pu, cu, pf, cf, some ⟨fb, 0, none⟩, 4, ps, cs, (some ⟨pq, oq, none⟩), co⟩, ⟨t, s, us, fs, fa, se, oo⟩, x.c1, x.c0, by show _ = Ending.returned (.tuple #[.agg (wv t s pu us.length cu pf fs.length cf (some ⟨fb, 0, none⟩) fa.length 4 ps se.length cs (some ⟨pq, oq, none⟩) oo.length co), .int .i64 x.c1, .int .i64 x.c0]); rw [h4], F2, Hdw.out, F3⟩
      obtain ⟨c0, c1, c2, c3, c4, c5, c6, cl⟩ := F1.c7
      simp [results, Tryz.results15, go_sem, c0, c1, c2, c3, c4, c5, c6]
      exact h4
end Go.Proofs.YtlfnnobkgbfdgaaGreat
end

/- LeaveSpec -/
/- The contracts of the models of LeaveSeat and LeaveSide, where they tell a fault. Condition: the world's lists lie in memory as they were laid there. -/
section
namespace Go.Proofs.YtlfnnobkgbfdgaaGreat
open Go.ChangeShapes Go.WideShapes Go.ChangeAt Go.RowKit
open Bd
set_option linter.unusedVariables false

/- what a side that goes is told in a right world -/
def l8C (x : KW) (i : Int) : Int := if goneA x.fa i = true then 8 else if 100000000 < x.s + purA x.fa i then 7 else 0
theorem leaC_l8 (h : Int → Int → Bool) (x : KW) (i : Int) (w0 : wf h x = 0) (ia : inb i 0 3 = true) : leaC h x i = l8C x i := by
  unfold leaC l8C
  rw [w0, if_neg (by simp), if_neg (by rw [ia]; simp)]
set_option maxRecDepth 20000 in
set_option maxHeartbeats 16000000 in
theorem l8Side_no (h : Int → Int → Bool) (gW : Nat) (p : WP) (x : KW) (G : GdW h x) (w : World) (hW : Blk w gW (p.v x) 32) (hI : InW w p x) (i : Int) (i0 : 0 ≤ i) (i3 : i ≤ 3) (hne : l8C x i ≠ 0) :
    Calls Tryz.prog 26 #[.pointer (some ⟨gW, 0, none⟩), .int .i64 i] w fun e w' => e = .returned (.agg (r8 (l8C x i) wpz kz)) ∧ Below w.heap.size w w' := by
  obtain ⟨t, s, us, fs, fa, se, oo⟩ := x
  obtain ⟨u, uc, f, fc, a, ac, q, qc, r, rc⟩ := p
  obtain ⟨W, HW⟩ : ∃ W, Hid (W = w.alloc (.cells z8 36)) := ⟨_, rfl⟩
  have B1 : Below w.heap.size w W := by rw [HW.out]; exact (Below.refl _ _).alloc (Nat.le_refl _) _
  have R : Blk W w.heap.size z8 36 := by rw [HW.out]; exact Blk.new w z8 36
  have HR : Hid (Blk W w.heap.size z8 36) := R
  have HN : Hid (InW W ⟨u, uc, f, fc, a, ac, q, qc, r, rc⟩ ⟨t, s, us, fs, fa, se, oo⟩) := hI.later B1
  have P : Blk W gW (wv t s u us.length uc f fs.length fc a fa.length ac q se.length qc r oo.length rc) 32 := hW.below B1
  have hB := B1.size
  have h4 : fa.length = 4 := G.a4
  have c7 := fun W' (h : Below W.heap.size W W') => (P.below h).c7
  rw [h4] at c7
  obtain ⟨y, hy, hyg, _⟩ := side_at h4 i0 i3
  have hyp : purA fa i = y.c0 := pur_get hy
  obtain ⟨yb0, yb1⟩ := inb_i (purse_in G y (List.mem_of_getElem? hy))
  obtain ⟨sb0, sb1⟩ := inb_i G.s
  dsimp only at sb0 sb1
  obtain ⟨ba, oa, rfl, hba, hat⟩ := HN.out.arg.a.four h4
  obtain ⟨y0, y1, y2, yl⟩ := hat.one hba hy
  have HC : Hid (l8C ⟨t, s, us, fs, fa, se, oo⟩ i = if y.c1 = true then 8 else if 100000000 < s + y.c0 then 7 else 0) := by show _ = _; unfold l8C; rw [hyg, hyp]
  generalize l8C ⟨t, s, us, fs, fa, se, oo⟩ i = C at HC hne ⊢
  obtain ⟨mu, Hmu⟩ : ∃ m, Hid (us.length = m) := ⟨_, rfl⟩
  obtain ⟨mf, Hmf⟩ : ∃ m, Hid (fs.length = m) := ⟨_, rfl⟩
  obtain ⟨ms, Hms⟩ : ∃ m, Hid (se.length = m) := ⟨_, rfl⟩
  obtain ⟨mo, Hmo⟩ : ∃ m, Hid (oo.length = m) := ⟨_, rfl⟩
  rw [Hmu.out, Hmf.out, Hms.out, Hmo.out] at c7
  have Bc : Below W.heap.size W W := Below.refl _ _
  obtain ⟨p0, p1, p2, p3, p4, p5, p6, pl⟩ := c7 _ Bc
  have i4 : i < 4 := by omega
  have hwr : IntKind.i64.wrap (s + y.c0) = s + y.c0 := by rw [IntKind.wrap_i64]; omega
  clear R P hW hI G h4 hy hyg hyp hat
  cases eg : y.c1
  case true =>
    rw [eg] at HC y1
    have HR1 : Hid (C = 8) := HC
    go_enter Tryz.func26, Tryz.ntmps26
    go_upto_region 1 with fail
    rw [← HW.out]
    go_wp2_with fail
    refine (l7Bad_c 8 _).mono ?_
    rintro e wz ⟨rfl, kz'⟩
    have Bc := Bc.trans (kz'.mono Bc.size)
    have R1 := HR.out.below Bc
    obtain ⟨r0, r1, r2, r3, r4, r5, r6, r7, y0, y1, y2, y3, y4, y5, y6, y7, rl⟩ := R1.z8
    have Fz : Blk _ w.heap.size (r8 8 wpz kz) 36 := set8_blk R1 (.int .i64 8) (.int .i64 0) (.int .i64 0) (.slice none 0 0) (.slice none 0 0) (.slice none 0 0) (.slice none 0 0) (.slice none 0 0)
    have BE := set8_below (B1.trans (Bc.mono hB)) (Nat.le_refl w.heap.size) (.int .i64 8) (.int .i64 0) (.int .i64 0) (.slice none 0 0) (.slice none 0 0) (.slice none 0 0) (.slice none 0 0) (.slice none 0 0)
    clear R1
    go_wp2_with fail
    rw [HR1.out]
    exact bodyPost_ret (v := .agg (r8 8 wpz kz)) (result8 Tryz.results26 Fz _ rfl) rfl ⟨rfl, BE⟩
  case false =>
    rw [eg] at HC y1
    have h7 : 100000000 < s + y.c0 := by
      rw [HC.out] at hne
      by_cases hh : 100000000 < s + y.c0
      · exact hh
      · simp [hh] at hne
    have HR1 : Hid (C = 7) := by show _ = _; rw [HC.out]; simp [h7]
    clear HC hne
    go_enter Tryz.func26, Tryz.ntmps26
    go_upto_region 1 with fail
    rw [← HW.out]
    go_upto_region 3 with fail
    go_quiet (fail)
    have Bc := Bc.trans ((below_drewN _ nq).mono Bc.size)
    go_wp2_with fail
    refine (l7Bad_c 7 _).mono ?_
    rintro e wz ⟨rfl, kz'⟩
    have Bc := Bc.trans (kz'.mono Bc.size)
    have R1 := HR.out.below Bc
    obtain ⟨r0, r1, r2, r3, r4, r5, r6, r7, y0, y1, y2, y3, y4, y5, y6, y7, rl⟩ := R1.z8
    have Fz : Blk _ w.heap.size (r8 7 wpz kz) 36 := set8_blk R1 (.int .i64 7) (.int .i64 0) (.int .i64 0) (.slice none 0 0) (.slice none 0 0) (.slice none 0 0) (.slice none 0 0) (.slice none 0 0)
    have BE := set8_below (B1.trans (Bc.mono hB)) (Nat.le_refl w.heap.size) (.int .i64 7) (.int .i64 0) (.int .i64 0) (.slice none 0 0) (.slice none 0 0) (.slice none 0 0) (.slice none 0 0) (.slice none 0 0)
    clear R1
    go_wp2_with fail
    rw [HR1.out]
    exact bodyPost_ret (v := .agg (r8 7 wpz kz)) (result8 Tryz.results26 Fz _ rfl) rfl ⟨rfl, BE⟩
/- none but the one at place r is of side f among the first k -/
def noneK (l : List K4) (r : Nat) (f : Int) (k : Nat) : Prop := ∀ (j : Nat) (s : K4), j < k → j ≠ r → l[j]? = some s → s.c1 ≠ f
/- what one who goes is told in a right world -/
def l8D (x : KW) (c : Int) : Int := if sTh x.se c = false then 4 else if lastS x.se (sGet x.se c) = true then l8C x (sGet x.se c).c1 else 0
end Go.Proofs.YtlfnnobkgbfdgaaGreat
end

/- LeaveSpec2 -/
/- The contract of the model of LeaveSeat, where it tells a fault. Condition: the world's lists lie in memory as they were laid there. -/
section
namespace Go.Proofs.YtlfnnobkgbfdgaaGreat
open Go.ChangeShapes Go.WideShapes Go.ChangeAt Go.RowKit
open Bd
set_option linter.unusedVariables false

end Go.Proofs.YtlfnnobkgbfdgaaGreat
end
