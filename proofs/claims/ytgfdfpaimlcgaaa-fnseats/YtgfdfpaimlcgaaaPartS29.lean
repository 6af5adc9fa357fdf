/- Texts of mine put together (a claim holds at most 60 files): WldDraws, PayImpl2, PfSpec. -/
import Derived.Test.YtgfdfpaimlcgaaaPartS10
import Derived.Test.YtgfdfpaimlcgaaaPartS28
import Derived.Deep.CutRange
import Derived.Test.YtgfdfpaimlcgaaaPartS24
import Derived.Deep.RegionHeld3
import Derived.Test.YtgfdfpaimlcgaaaPartS21
import Derived.Test.YtgfdfpaimlcgaaaPartS20
import Derived.Test.YtgfdfpaimlcgaaaPartS23

/- WldDraws -/
/- A world that is being drawn: its blocks and lists, and what a draw, a store and one more behind a list leave. No condition. -/
section
namespace Go.Proofs.Ytgfdfpaimlcgaaa
open Go.ChangeShapes Go.WideShapes Go.ChangeAt Go.RowKit
set_option linter.unusedVariables false

abbrev zW : Array Value := #[.int .i64 0, .int .i64 0, .slice none 0 0, .slice none 0 0, .slice none 0 0, .slice none 0 0, .slice none 0 0]
abbrev wV (t s : Int) (vu vf : Value) (fb : Nat) (vs vo : Value) : Array Value := #[.int .i64 t, .int .i64 s, vu, vf, .slice (some ⟨fb, 0, none⟩) 4 4, vs, vo]
theorem bk_ne {w : World} {b b' : Nat} {c c' : Array Value} {t t' : TypeId} (h : Blk w b c t) (h' : Blk w b' c' t') (ht : t ≠ t') : b ≠ b' := by
  intro e
  subst e
  unfold Blk at h h'
  rw [h] at h'
  simp at h'
  exact ht h'.2
theorem flatA_set0 : ∀ (l : List KA) (k : Nat) (u : KA) (x : Int), l[k]? = some u → (flatA l).set (k * 3) (.int .i64 x) = flatA (l.set k ⟨x, u.c1, u.c2⟩)
  | [], k, u, x, h => by simp at h
  | y :: l, 0, u, x, h => by
    have e : y = u := by simpa using h
    subst e
    rfl
  | y :: l, k + 1, u, x, h => by
    show (y.v.toList ++ flatA l).set ((k + 1) * 3) _ = y.v.toList ++ flatA (l.set k ⟨x, u.c1, u.c2⟩)
    have e : (y.v.toList).length = 3 := rfl
    rw [List.set_append_right _ _ (by rw [e]; omega), e, show (k + 1) * 3 - 3 = k * 3 from by omega, flatA_set0 l k u x (by simpa using h)]
theorem flatA_set1 : ∀ (l : List KA) (k : Nat) (u : KA) (x : Bool), l[k]? = some u → (flatA l).set (k * 3 + 1) (.bool x) = flatA (l.set k ⟨u.c0, x, u.c2⟩)
  | [], k, u, x, h => by simp at h
  | y :: l, 0, u, x, h => by
    have e : y = u := by simpa using h
    subst e
    rfl
  | y :: l, k + 1, u, x, h => by
    show (y.v.toList ++ flatA l).set ((k + 1) * 3 + 1) _ = y.v.toList ++ flatA (l.set k ⟨u.c0, x, u.c2⟩)
    have e : (y.v.toList).length = 3 := rfl
    rw [List.set_append_right _ _ (by rw [e]; omega), e, show (k + 1) * 3 + 1 - 3 = k * 3 + 1 from by omega, flatA_set1 l k u x (by simpa using h)]
theorem flatA_set2 : ∀ (l : List KA) (k : Nat) (u : KA) (x : Int), l[k]? = some u → (flatA l).set (k * 3 + 2) (.int .i64 x) = flatA (l.set k ⟨u.c0, u.c1, x⟩)
  | [], k, u, x, h => by simp at h
  | y :: l, 0, u, x, h => by
    have e : y = u := by simpa using h
    subst e
    rfl
  | y :: l, k + 1, u, x, h => by
    show (y.v.toList ++ flatA l).set ((k + 1) * 3 + 2) _ = y.v.toList ++ flatA (l.set k ⟨u.c0, u.c1, x⟩)
    have e : (y.v.toList).length = 3 := rfl
    rw [List.set_append_right _ _ (by rw [e]; omega), e, show (k + 1) * 3 + 2 - 3 = k * 3 + 2 from by omega, flatA_set2 l k u x (by simpa using h)]
/- four factions, none with an Allies below 0 -/
structure Fac4 (fa : List KA) : Prop where
  l : fa.length = 4
  p : ∀ x ∈ fa, 0 ≤ x.c2 ∧ x.c2 < 32
theorem Fac4.at {fa : List KA} (h : Fac4 fa) {k : Nat} (hk : k < 4) : ∃ u, fa[k]? = some u ∧ 0 ≤ u.c2 ∧ u.c2 < 32 := by
  have e : fa[k]? = some (fa[k]'(by rw [h.l]; exact hk)) := List.getElem?_eq_getElem _
  exact ⟨_, e, h.p _ (List.mem_of_getElem? e)⟩
theorem Fac4.set {fa : List KA} (h : Fac4 fa) (k : Nat) {u : KA} (hu : 0 ≤ u.c2 ∧ u.c2 < 32) : Fac4 (fa.set k u) :=
  ⟨by rw [List.length_set]; exact h.l, fun x hx => by rcases List.mem_or_eq_of_mem_set hx with hx | rfl; exact h.p x hx; exact hu⟩
theorem Fac4.z : Fac4 [KA.z, KA.z, KA.z, KA.z] := ⟨rfl, fun x hx => by simp at hx; subst hx; exact ⟨Int.le_refl _, by show (0 : Int) < 32; omega⟩⟩
structure WD (w0 w W : World) (a : Option Addr) (len cap : Nat) (n : Int) (rb wb fb : Nat) (t s : Int) (vu vf vs vo : Value) (us : List K10) (fs : List K3) (fa : List KA) (se : List K4) (oo : List K2) : Prop where
  R : Blk W rb zW 32
  B : Blk W wb (wV t s vu vf fb vs vo) 32
  A : Blk W fb (flatA fa).toArray 63
  f4 : Fac4 fa
  U : SlU W w.heap.size vu us
  F : SlF W w.heap.size vf fs
  S : SlS W w.heap.size vs se
  O : SlO W w.heap.size vo oo
  ne : rb ≠ wb
  br : w.heap.size ≤ rb
  bw : w.heap.size ≤ wb
  bf : w.heap.size ≤ fb
  d : Dn w0 w W a len cap n
theorem WD.grow {w0 w W W' : World} {a : Option Addr} {len cap : Nat} {n n' : Int} {rb wb fb : Nat} {t s : Int} {vu vf vs vo : Value} {us : List K10} {fs : List K3} {fa : List KA} {se : List K4} {oo : List K2} (h : WD w0 w W a len cap n rb wb fb t s vu vf vs vo us fs fa se oo) (g : W.grownBy W' (some w0.heap.size)) (d : Dn w0 w W' a len cap n') : WD w0 w W' a len cap n' rb wb fb t s vu vf vs vo us fs fa se oo := by
  have hl := h.d.lt
  have ne : ∀ b, w.heap.size ≤ b → some b ≠ some w0.heap.size := fun b hb e => by have := Option.some.inj e; omega
  exact ⟨h.R.grown g (ne _ h.br), h.B.grown g (ne _ h.bw), h.A.grown g (ne _ h.bf), h.f4, h.U.drawn g hl, h.F.drawn g hl, h.S.drawn g hl, h.O.drawn g hl, h.ne, h.br, h.bw, h.bf, d⟩
theorem WD.alloc {w0 w W : World} {a : Option Addr} {len cap : Nat} {n : Int} {rb wb fb : Nat} {t s : Int} {vu vf vs vo : Value} {us : List K10} {fs : List K3} {fa : List KA} {se : List K4} {oo : List K2} (h : WD w0 w W a len cap n rb wb fb t s vu vf vs vo us fs fa se oo) (o : Obj) : WD w0 w (W.alloc o) a len cap n rb wb fb t s vu vf vs vo us fs fa se oo :=
  ⟨h.R.alloc o, h.B.alloc o, h.A.alloc o, h.f4, h.U.alloc o, h.F.alloc o, h.S.alloc o, h.O.alloc o, h.ne, h.br, h.bw, h.bf, h.d.alloc o⟩
theorem WD.drew {w0 w W : World} {a : Option Addr} {len cap : Nat} {n : Int} {rb wb fb : Nat} {t s : Int} {vu vf vs vo : Value} {us : List K10} {fs : List K3} {fa : List KA} {se : List K4} {oo : List K2} (h : WD w0 w W a len cap n rb wb fb t s vu vf vs vo us fs fa se oo) : WD w0 w W.drew a len cap n rb wb fb t s vu vf vs vo us fs fa se oo :=
  ⟨h.R.drew, h.B.drew, h.A.drew, h.f4, h.U, h.F, h.S, h.O, h.ne, h.br, h.bw, h.bf, h.d.drew⟩
theorem WD.mono {w0 w W : World} {a : Option Addr} {len cap : Nat} {n n' : Int} {rb wb fb : Nat} {t s : Int} {vu vf vs vo : Value} {us : List K10} {fs : List K3} {fa : List KA} {se : List K4} {oo : List K2} (h : WD w0 w W a len cap n rb wb fb t s vu vf vs vo us fs fa se oo) (hn : n ≤ n') : WD w0 w W a len cap n' rb wb fb t s vu vf vs vo us fs fa se oo :=
  ⟨h.R, h.B, h.A, h.f4, h.U, h.F, h.S, h.O, h.ne, h.br, h.bw, h.bf, h.d.mono hn⟩
/- a store into the world's own block -/
theorem WD.setW {w0 w W : World} {a : Option Addr} {len cap : Nat} {n : Int} {rb wb fb : Nat} {t s t' s' : Int} {vu vf vs vo vu' vf' vs' vo' : Value} {us us' : List K10} {fs fs' : List K3} {fa : List KA} {se se' : List K4} {oo oo' : List K2} (h : WD w0 w W a len cap n rb wb fb t s vu vf vs vo us fs fa se oo) (i : Nat) (v : Value)
    (hc : (wV t s vu vf fb vs vo).setIfInBounds i v = wV t' s' vu' vf' fb vs' vo') (U : SlU W w.heap.size vu' us') (F : SlF W w.heap.size vf' fs') (S : SlS W w.heap.size vs' se') (O : SlO W w.heap.size vo' oo') : WD w0 w (W.setCell ⟨wb, i, none⟩ v) a len cap n rb wb fb t' s' vu' vf' vs' vo' us' fs' fa se' oo' := by
  have B' := h.B.set i v
  rw [hc] at B'
  exact ⟨h.R.setOther (a := ⟨wb, i, none⟩) h.ne v, B', h.A.setOther (a := ⟨wb, i, none⟩) (bk_ne h.A h.B (by decide)) v, h.f4, U.setB h.B (by decide) v, F.setB h.B (by decide) v, S.setB h.B (by decide) v, O.setB h.B (by decide) v, h.ne, h.br, h.bw, h.bf, h.d.set (p := ⟨wb, i, none⟩) h.bw v⟩
/- a store into a faction -/
theorem WD.setA {w0 w W : World} {a : Option Addr} {len cap : Nat} {n : Int} {rb wb fb : Nat} {t s : Int} {vu vf vs vo : Value} {us : List K10} {fs : List K3} {fa fa' : List KA} {se : List K4} {oo : List K2} (h : WD w0 w W a len cap n rb wb fb t s vu vf vs vo us fs fa se oo) (i : Nat) (v : Value)
    (hc : (flatA fa).set i v = flatA fa') (f4 : Fac4 fa') : WD w0 w (W.setCell ⟨fb, i, none⟩ v) a len cap n rb wb fb t s vu vf vs vo us fs fa' se oo := by
  have A' := h.A.set i v
  rw [show (flatA fa).toArray.setIfInBounds i v = ((flatA fa).set i v).toArray from by simp, hc] at A'
  exact ⟨h.R.setOther (a := ⟨fb, i, none⟩) (bk_ne h.R h.A (by decide)) v, h.B.setOther (a := ⟨fb, i, none⟩) (bk_ne h.B h.A (by decide)) v, A', f4, h.U.setB h.A (by decide) v, h.F.setB h.A (by decide) v, h.S.setB h.A (by decide) v, h.O.setB h.A (by decide) v, h.ne, h.br, h.bw, h.bf, h.d.set (p := ⟨fb, i, none⟩) h.bf v⟩
/- a faction's cells -/
theorem WD.fac {w0 w W : World} {a : Option Addr} {len cap : Nat} {n : Int} {rb wb fb : Nat} {t s : Int} {vu vf vs vo : Value} {us : List K10} {fs : List K3} {fa : List KA} {se : List K4} {oo : List K2} (h : WD w0 w W a len cap n rb wb fb t s vu vf vs vo us fs fa se oo) {k : Nat} {u : KA} (hu : fa[k]? = some u) :
    W.cell? ⟨fb, k * 3, none⟩ = some (.int .i64 u.c0) ∧ W.cell? ⟨fb, k * 3 + 1, none⟩ = some (.bool u.c1) ∧ W.cell? ⟨fb, k * 3 + 2, none⟩ = some (.int .i64 u.c2) := by
  have g := fun f hf => flatA_get fa k u f hu hf
  exact ⟨h.A.cell (by simpa [KA.f] using g 0 (by omega)), h.A.cell (by simpa [KA.f] using g 1 (by omega)), h.A.cell (by simpa [KA.f] using g 2 (by omega))⟩
/- one more offer, one more seat -/
theorem WD.pushO {w0 w W W' : World} {a : Option Addr} {len cap : Nat} {n : Int} {rb wb fb : Nat} {t s : Int} {vu vf vs vo vo' : Value} {us : List K10} {fs : List K3} {fa : List KA} {se : List K4} {oo oo' : List K2} (h : WD w0 w W a len cap n rb wb fb t s vu vf vs vo us fs fa se oo) (g : W.grownBy W' vo.ownBlock) (O : SlO W' w.heap.size vo' oo') :
    Blk W' rb zW 32 ∧ Blk W' wb (wV t s vu vf fb vs vo) 32 ∧ Blk W' fb (flatA fa).toArray 63 ∧ SlU W' w.heap.size vu us ∧ SlF W' w.heap.size vf fs ∧ SlS W' w.heap.size vs se ∧ Dn w0 w W' a len cap n := by
  have hd := h.d.push g (fun q hq => (h.O.lt q hq).1)
  have nb : ∀ {b cs t}, Blk W b cs t → 87 ≠ t → some b ≠ vo.ownBlock := fun hb ht => h.O.ne hb ht
  refine ⟨h.R.grown g (nb h.R (by decide)), h.B.grown g (nb h.B (by decide)), h.A.grown g (nb h.A (by decide)), ?_, ?_, ?_, hd⟩
  · exact h.U.of_block (fun b hb => by
      rcases h.U.2 with ⟨h1, _⟩ | ⟨q, c, cur, hv, _, hq, _⟩
      · rw [h1] at hb; cases hb
      · rw [hv] at hb
        have e : q = b := Option.some.inj hb
        subst e
        exact g.block _ (Array.getElem?_eq_some_iff.1 hq).1 (nb (cs := cur) hq (by decide)))
  · exact h.F.of_block (fun b hb => by
      rcases h.F.2 with ⟨h1, _⟩ | ⟨q, c, cur, hv, _, hq, _⟩
      · rw [h1] at hb; cases hb
      · rw [hv] at hb
        have e : q = b := Option.some.inj hb
        subst e
        exact g.block _ (Array.getElem?_eq_some_iff.1 hq).1 (nb (cs := cur) hq (by decide)))
  · exact h.S.of_block (fun b hb => by
      obtain ⟨cs, hk⟩ := h.S.blk hb
      exact g.block _ hk.lt (nb hk (by decide)))
theorem WD.pushS {w0 w W W' : World} {a : Option Addr} {len cap : Nat} {n : Int} {rb wb fb : Nat} {t s : Int} {vu vf vs vo vs' : Value} {us : List K10} {fs : List K3} {fa : List KA} {se se' : List K4} {oo : List K2} (h : WD w0 w W a len cap n rb wb fb t s vu vf vs vo us fs fa se oo) (g : W.grownBy W' vs.ownBlock) (S : SlS W' w.heap.size vs' se') :
    Blk W' rb zW 32 ∧ Blk W' wb (wV t s vu vf fb vs vo) 32 ∧ Blk W' fb (flatA fa).toArray 63 ∧ SlU W' w.heap.size vu us ∧ SlF W' w.heap.size vf fs ∧ SlO W' w.heap.size vo oo ∧ Dn w0 w W' a len cap n := by
  have hd := h.d.push g (fun q hq => (h.S.lt q hq).1)
  have nb : ∀ {b cs t}, Blk W b cs t → 47 ≠ t → some b ≠ vs.ownBlock := fun hb ht => h.S.ne hb ht
  refine ⟨h.R.grown g (nb h.R (by decide)), h.B.grown g (nb h.B (by decide)), h.A.grown g (nb h.A (by decide)), ?_, ?_, ?_, hd⟩
  · exact h.U.of_block (fun b hb => by
      rcases h.U.2 with ⟨h1, _⟩ | ⟨q, c, cur, hv, _, hq, _⟩
      · rw [h1] at hb; cases hb
      · rw [hv] at hb
        have e : q = b := Option.some.inj hb
        subst e
        exact g.block _ (Array.getElem?_eq_some_iff.1 hq).1 (nb (cs := cur) hq (by decide)))
  · exact h.F.of_block (fun b hb => by
      rcases h.F.2 with ⟨h1, _⟩ | ⟨q, c, cur, hv, _, hq, _⟩
      · rw [h1] at hb; cases hb
      · rw [hv] at hb
        have e : q = b := Option.some.inj hb
        subst e
        exact g.block _ (Array.getElem?_eq_some_iff.1 hq).1 (nb (cs := cur) hq (by decide)))
  · exact h.O.of_block (fun b hb => by
      obtain ⟨cs, hk⟩ := h.O.blk hb
      exact g.block _ hk.lt (nb hk (by decide)))
end Go.Proofs.Ytgfdfpaimlcgaaa
end

/- PayImpl2 -/
/- The contract of PayTribute. Condition: the world's lists lie in memory as they were laid there. -/
section
namespace Go.Proofs.Ytgfdfpaimlcgaaa
open Go.ChangeShapes Go.WideShapes Go.ChangeAt Go.RowKit
open Bd
set_option linter.unusedVariables false

/- a store into a faction of a state -/
theorem WS.setA {w : World} {base g ga : Nat} {p : WP} {x : KW} (h : WS w base g p x) (hp : p.a = some ⟨ga, 0, none⟩) (i : Nat) (v : Value) (fa' : List KA) (hi : i < x.fa.length * 3) (hc : (flatA x.fa).set i v = flatA fa') : WS (w.setCell ⟨ga, i, none⟩ v) base g p ⟨x.t, x.s, x.us, x.fs, fa', x.se, x.oo⟩ := by
  have hl : fa'.length = x.fa.length := by
    have h1 := congrArg List.length hc
    rw [List.length_set, flatA_len, flatA_len] at h1
    omega
  have hA := h.o.a
  rw [hp] at hA
  obtain ⟨csA, hbA⟩ := hA.blk (q := ga) rfl
  have hne : g ≠ ga := bk_ne h.b hbA (by decide)
  refine ⟨?_, ⟨h.o.u.setB hbA (by decide) v, h.o.f.setB hbA (by decide) v, ?_, h.o.s.setB hbA (by decide) v, h.o.o.setB hbA (by decide) v⟩, h.bg⟩
  · have := h.b.setOther (a := ⟨ga, i, none⟩) hne v
    show Blk _ g #[.slice p.u x.us.length p.uc, .slice p.f x.fs.length p.fc, .int .i64 x.t, .int .i64 x.s, .slice p.a fa'.length p.ac, .slice p.s x.se.length p.sc, .slice p.o x.oo.length p.oc] _
    rw [hl]
    exact this
  · show SlA _ _ (.slice p.a fa'.length p.ac) fa'
    rw [hl, hp]
    exact hA.setCell i v hi hc
theorem WS.drew {w : World} {base g : Nat} {p : WP} {x : KW} (h : WS w base g p x) : WS w.drew base g p x := h.later (Below.refl _ _).drew
/- factions behind the one store, the other, both -/
def FF (fa : List KA) (i j v1 v2 : Int) : Bool → Bool → List KA
  | false, false => fa
  | true, false => setP fa i v1
  | false, true => setP fa j v2
  | true, true => setP (setP fa i v1) j v2
/- what was there is as it was, but for one block -/
structure Below2 (w : World) (g : Nat) (W : World) : Prop where
  os : W.os = w.os
  tape : W.tape = w.tape
  output : W.output = w.output
  size : w.heap.size ≤ W.heap.size
  block : ∀ k, k < w.heap.size → k ≠ g → W.heap[k]? = w.heap[k]?
theorem Below2.refl {w : World} {g : Nat} : Below2 w g w.drew := ⟨rfl, rfl, rfl, Nat.le_refl _, fun _ _ _ => rfl⟩
theorem Below2.set {w W : World} {g : Nat} (h : Below2 w g W) (i : Nat) (v : Value) : Below2 w g (W.setCell ⟨g, i, none⟩ v) := ⟨h.os, h.tape, h.output, by simpa [World.setCell] using h.size, fun k hk hne => (Below.heap_setCell _ _ _ _ hne).trans (h.block k hk hne)⟩
theorem Below2.blk {w W : World} {g b : Nat} {cs : Array Value} {t : TypeId} (h : Below2 w g W) (hb : Blk w b cs t) (hne : b ≠ g) : Blk W b cs t := by
  unfold Blk; rw [h.block b hb.lt hne]; exact hb
theorem Below2.below {w W : World} {g n : Nat} (h : Below2 w g W) (hn : n ≤ w.heap.size) (hg : n ≤ g) : Below n w W := ⟨h.os, h.tape, h.output, h.size, fun k hk => h.block k (by omega) (by omega)⟩
theorem Gd8 {us : List K10} {fs : List K3} (h : bf us fs = 0) : us.length ≤ 8 ∧ fs.length ≤ 4 := ⟨(bf_ok h).1, (bf_ok h).2.1⟩
end Go.Proofs.Ytgfdfpaimlcgaaa
end

/- PfSpec -/
/- The contracts of the model's faults of two sides. Condition: the world lies in memory, its lists as they were laid there. -/
section
namespace Go.Proofs.Ytgfdfpaimlcgaaa
open Go.ChangeShapes Go.WideShapes Go.ChangeAt Go.RowKit
open Bd
set_option linter.unusedVariables false

end Go.Proofs.Ytgfdfpaimlcgaaa
end
