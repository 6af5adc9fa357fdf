/- Texts of mine put together (a claim holds at most 60 files): BrdDraws5, WldDraws5. -/
import Derived.Test.YtgfdfpaimlcgaaaPartS33
import Derived.Test.YtgfdfpaimlcgaaaPartS34
import Derived.Test.YtgfdfpaimlcgaaaPartS23

/- BrdDraws5 -/
/- Contracts of the draws of PutUnit, OwnedBy and UnitOf: boards in memory of their own, a unit, a number. Condition: the code has at most 1048576 bytes, which can be read. -/
section
namespace Go.Proofs.Ytgfdfpaimlcgaaa
open Go.ChangeShapes Go.WideShapes Go.ChangeAt Go.RowKit
set_option linter.unusedVariables false

theorem Dn.start {w0 w1 : World} {a : Option Addr} {len cap : Nat} (st : St w0 w1 a len cap 0) : Dn w0 w1 w1 a len cap 0 := ⟨st.src.lt, ⟨0, by omega, by omega, st⟩, grown_refl _ _⟩
theorem Blk.old {w0 w W : World} {a : Option Addr} {len cap : Nat} {n : Int} {g : Nat} {cs : Array Value} {t : TypeId} (h : Blk w0 g cs t) (d : Dn w0 w W a len cap n) : Blk W g cs t := by
  unfold Blk; rw [d.below.block g h.lt]; exact h
def PSmall (x : Int) : Prop := -100 ≤ x ∧ x ≤ 100
abbrev Z2 : Obj := .cells #[.slice none 0 0, .slice none 0 0] 27
end Go.Proofs.Ytgfdfpaimlcgaaa
end

/- WldDraws5 -/
/- Contracts of the draws of worlds and two sides out of bytes. Condition: the code has at most 1048576 bytes, which can be read. -/
section
namespace Go.Proofs.Ytgfdfpaimlcgaaa
open Go.ChangeShapes Go.WideShapes Go.ChangeAt Go.RowKit
open Bd
set_option linter.unusedVariables false

/- a world that was drawn -/
structure DW (x : KW) : Prop where
  u : x.us.length ≤ 8
  f : x.fs.length ≤ 5
  a : Fac4 x.fa
  s : x.se.length ≤ 5
  o : x.oo.length ≤ 2
structure VD (w0 w W : World) (a : Option Addr) (len cap : Nat) (n : Int) (rb wb : Nat) (p : WP) (x : KW) : Prop where
  R : Blk W rb zW 32
  B : Blk W wb (p.v x) 32
  o : OwW W w.heap.size p x
  rl : rb < w.heap.size
  bw : w.heap.size ≤ wb
  rs : rb < w0.heap.size
  d : Dn w0 w W a len cap n
theorem OwW.drawn {w w' : World} {base s : Nat} {p : WP} {x : KW} (h : OwW w base p x) (g : w.grownBy w' (some s)) (hs : s < base) : OwW w' base p x := ⟨h.u.drawn g hs, h.f.drawn g hs, h.a.drawn g hs, h.s.drawn g hs, h.o.drawn g hs⟩
theorem OwW.alloc {w : World} {base : Nat} {p : WP} {x : KW} (h : OwW w base p x) (o : Obj) : OwW (w.alloc o) base p x := h.later ((Below.refl _ _).alloc (Nat.le_refl _) o)
theorem VD.grow {w0 w W W' : World} {a : Option Addr} {len cap : Nat} {n n' : Int} {rb wb : Nat} {p : WP} {x : KW} (h : VD w0 w W a len cap n rb wb p x) (g : W.grownBy W' (some w0.heap.size)) (d : Dn w0 w W' a len cap n') : VD w0 w W' a len cap n' rb wb p x :=
  ⟨h.R.grown g (fun e => by have := Option.some.inj e; have := h.rs; omega), h.B.grown g (fun e => by have := Option.some.inj e; have := h.bw; have := h.d.lt; omega), h.o.drawn g h.d.lt, h.rl, h.bw, h.rs, d⟩
theorem VD.alloc {w0 w W : World} {a : Option Addr} {len cap : Nat} {n : Int} {rb wb : Nat} {p : WP} {x : KW} (h : VD w0 w W a len cap n rb wb p x) (o : Obj) : VD w0 w (W.alloc o) a len cap n rb wb p x :=
  ⟨h.R.alloc o, h.B.alloc o, h.o.alloc o, h.rl, h.bw, h.rs, h.d.alloc o⟩
/- the factions' block as a list of one's own -/
theorem Blk.slA {w : World} {g base : Nat} {fa : List KA} (h : Blk w g (flatA fa).toArray 63) (hb : base ≤ g) (f4 : Fac4 fa) : SlA w base (.slice (some ⟨g, 0, none⟩) fa.length 4) fa := by
  have := SlA.of_blk h hb (by have := f4.l; omega)
  rw [f4.l] at this ⊢
  exact this
/- the answer's block is filled with a world -/
theorem set7_blk {W : World} {g : Nat} {c0 c1 c2 c3 c4 c5 c6 : Value} {t : TypeId} (h : Blk W g #[c0, c1, c2, c3, c4, c5, c6] t) (v0 v1 v2 v3 v4 v5 v6 : Value) : Blk (set7 W g v0 v1 v2 v3 v4 v5 v6) g #[v0, v1, v2, v3, v4, v5, v6] t := by
  have q0 : Blk _ g #[v0, c1, c2, c3, c4, c5, c6] t := h.set 0 v0
  have q1 : Blk _ g #[v0, v1, c2, c3, c4, c5, c6] t := q0.set 1 v1
  have q2 : Blk _ g #[v0, v1, v2, c3, c4, c5, c6] t := q1.set 2 v2
  have q3 : Blk _ g #[v0, v1, v2, v3, c4, c5, c6] t := q2.set 3 v3
  have q4 : Blk _ g #[v0, v1, v2, v3, v4, c5, c6] t := q3.set 4 v4
  have q5 : Blk _ g #[v0, v1, v2, v3, v4, v5, c6] t := q4.set 5 v5
  have q6 : Blk _ g #[v0, v1, v2, v3, v4, v5, v6] t := q5.set 6 v6
  exact q6
theorem set7_other {W : World} {g : Nat} (v0 v1 v2 v3 v4 v5 v6 : Value) (q : Nat) (hq : q ≠ g) : (set7 W g v0 v1 v2 v3 v4 v5 v6).heap[q]? = W.heap[q]? :=
  (Below.heap_setCell _ _ _ _ hq).trans ((Below.heap_setCell _ _ _ _ hq).trans ((Below.heap_setCell _ _ _ _ hq).trans ((Below.heap_setCell _ _ _ _ hq).trans ((Below.heap_setCell _ _ _ _ hq).trans ((Below.heap_setCell _ _ _ _ hq).trans (Below.heap_setCell _ _ _ _ hq))))))
theorem set7_below {n : Nat} {w W : World} {g : Nat} (h : Below n w W) (hg : n ≤ g) (v0 v1 v2 v3 v4 v5 v6 : Value) : Below n w (set7 W g v0 v1 v2 v3 v4 v5 v6) :=
  bel_set (bel_set (bel_set (bel_set (bel_set (bel_set (bel_set h g 0 hg v0) g 1 hg v1) g 2 hg v2) g 3 hg v3) g 4 hg v4) g 5 hg v5) g 6 hg v6
structure Z7 (w : World) (g : Nat) : Prop where
  c0 : w.cell? ⟨g, 0, none⟩ = some (.int .i64 0)
  c1 : w.cell? ⟨g, 1, none⟩ = some (.int .i64 0)
  c2 : w.cell? ⟨g, 2, none⟩ = some (.slice none 0 0)
  c3 : w.cell? ⟨g, 3, none⟩ = some (.slice none 0 0)
  c4 : w.cell? ⟨g, 4, none⟩ = some (.slice none 0 0)
  c5 : w.cell? ⟨g, 5, none⟩ = some (.slice none 0 0)
  c6 : w.cell? ⟨g, 6, none⟩ = some (.slice none 0 0)
  f0 : w.frozen? ⟨g, 0, none⟩ = false
  f1 : w.frozen? ⟨g, 1, none⟩ = false
  f2 : w.frozen? ⟨g, 2, none⟩ = false
  f3 : w.frozen? ⟨g, 3, none⟩ = false
  f4 : w.frozen? ⟨g, 4, none⟩ = false
  f5 : w.frozen? ⟨g, 5, none⟩ = false
  f6 : w.frozen? ⟨g, 6, none⟩ = false
  lt : g < w.heap.size
theorem Blk.z7 {w : World} {g : Nat} (h : Blk w g zW 32) : Z7 w g :=
  ⟨h.cell rfl, h.cell rfl, h.cell rfl, h.cell rfl, h.cell rfl, h.cell rfl, h.cell rfl, h.frozen _, h.frozen _, h.frozen _, h.frozen _, h.frozen _, h.frozen _, h.frozen _, h.lt⟩
/- the cells of a world in memory -/
structure C7 (w : World) (g : Nat) (t s : Int) (vu vf va vs vo : Value) : Prop where
  c0 : w.cell? ⟨g, 0, none⟩ = some (.int .i64 t)
  c1 : w.cell? ⟨g, 1, none⟩ = some (.int .i64 s)
  c2 : w.cell? ⟨g, 2, none⟩ = some vu
  c3 : w.cell? ⟨g, 3, none⟩ = some vf
  c4 : w.cell? ⟨g, 4, none⟩ = some va
  c5 : w.cell? ⟨g, 5, none⟩ = some vs
  c6 : w.cell? ⟨g, 6, none⟩ = some vo
  lt : g < w.heap.size
theorem Blk.c7 {w : World} {g : Nat} {t s : Int} {vu vf va vs vo : Value} {ty : TypeId} (h : Blk w g #[.int .i64 t, .int .i64 s, vu, vf, va, vs, vo] ty) : C7 w g t s vu vf va vs vo :=
  ⟨h.cell rfl, h.cell rfl, h.cell rfl, h.cell rfl, h.cell rfl, h.cell rfl, h.cell rfl, h.lt⟩
/- what is known behind the last store -/
theorem VD.store {w0 w W : World} {a : Option Addr} {len cap : Nat} {n : Int} {rb wb : Nat} {p : WP} {x : KW} (h : VD w0 w W a len cap n rb wb p x) {n0 : Nat} {v : World} (hb : Below n0 v W) (hn : n0 ≤ rb) (hn2 : n0 ≤ w.heap.size) :
    Blk (set7 W rb (.int .i64 x.t) (.int .i64 x.s) (.slice p.u x.us.length p.uc) (.slice p.f x.fs.length p.fc) (.slice p.a x.fa.length p.ac) (.slice p.s x.se.length p.sc) (.slice p.o x.oo.length p.oc)) rb (p.v x) 32 ∧
    OwW (set7 W rb (.int .i64 x.t) (.int .i64 x.s) (.slice p.u x.us.length p.uc) (.slice p.f x.fs.length p.fc) (.slice p.a x.fa.length p.ac) (.slice p.s x.se.length p.sc) (.slice p.o x.oo.length p.oc)) n0 p x ∧
    Below n0 v (set7 W rb (.int .i64 x.t) (.int .i64 x.s) (.slice p.u x.us.length p.uc) (.slice p.f x.fs.length p.fc) (.slice p.a x.fa.length p.ac) (.slice p.s x.se.length p.sc) (.slice p.o x.oo.length p.oc)) :=
  ⟨set7_blk h.R _ _ _ _ _ _ _, (h.o.of_block h.R (by decide) (by decide) (by decide) (by decide) (by decide) (set7_other _ _ _ _ _ _ _)).mono hn2, set7_below hb hn _ _ _ _ _ _ _⟩
end Go.Proofs.Ytgfdfpaimlcgaaa
end
