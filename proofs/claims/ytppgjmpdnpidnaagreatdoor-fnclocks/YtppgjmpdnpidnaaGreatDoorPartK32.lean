/- Texts of mine put together (a claim holds at most 60 files): PayImpl2, TickOneS, TickAllS0. -/
import Derived.Test.YtppgjmpdnpidnaaGreatDoorPartK31
import Derived.Test.YtppgjmpdnpidnaaGreatDoorPartK29
import Derived.Deep.CutRange
import Derived.Deep.RegionHeld3
import Derived.Test.YtppgjmpdnpidnaaGreatDoorPartK23
import Derived.Test.YtppgjmpdnpidnaaGreatDoorPartK22

/- PayImpl2 -/
/- The contract of PayTribute. Condition: the world's lists lie in memory as they were laid there. -/
section
namespace Go.Proofs.YtppgjmpdnpidnaaGreatDoor
open Go.ChangeShapes Go.WideShapes Go.ChangeAt Go.RowKit
open Bd
set_option linter.unusedVariables false

/- a store into a faction of a state -/
theorem WS.setA {w : World} {base g ga : Nat} {p : WP} {x : KW} (h : WS w base g p x) (hp : p.a = some ⟨ga, 0, none⟩) (i : Nat) (v : Value) (fa' : List KA) (hi : i < x.fa.length * 3) (hc : (flatA x.fa).set i v = flatA fa') : WS (w.setCell ⟨ga, i, none⟩ v) base g p ⟨x.t, x.s, x.us, x.fs, fa', x.se, x.oo⟩ := by
  have hl : fa'.length = x.fa.length := by
    have h1 := congrArg List.length hc
    rw [List.length_set, flatA_len, flatA_len] at h1
    omega
  have hA := h.o.a
  rw [hp] at hA
  obtain ⟨csA, hbA⟩ := hA.blk (q := ga) rfl
  have hne : g ≠ ga := bk_ne h.b hbA (by decide)
  refine ⟨?_, ⟨h.o.u.setB hbA (by decide) v, h.o.f.setB hbA (by decide) v, ?_, h.o.s.setB hbA (by decide) v, h.o.o.setB hbA (by decide) v⟩, h.bg⟩
  · have := h.b.setOther (a := ⟨ga, i, none⟩) hne v
    show Blk _ g #[.slice p.u x.us.length p.uc, .slice p.f x.fs.length p.fc, .int .i64 x.t, .int .i64 x.s, .slice p.a fa'.length p.ac, .slice p.s x.se.length p.sc, .slice p.o x.oo.length p.oc] _
    rw [hl]
    exact this
  · show SlA _ _ (.slice p.a fa'.length p.ac) fa'
    rw [hl, hp]
    exact hA.setCell i v hi hc
theorem WS.drew {w : World} {base g : Nat} {p : WP} {x : KW} (h : WS w base g p x) : WS w.drew base g p x := h.later (Below.refl _ _).drew
/- factions behind the one store, the other, both -/
def FF (fa : List KA) (i j v1 v2 : Int) : Bool → Bool → List KA
  | false, false => fa
  | true, false => setP fa i v1
  | false, true => setP fa j v2
  | true, true => setP (setP fa i v1) j v2
/- what was there is as it was, but for one block -/
structure Below2 (w : World) (g : Nat) (W : World) : Prop where
  os : W.os = w.os
  tape : W.tape = w.tape
  output : W.output = w.output
  size : w.heap.size ≤ W.heap.size
  block : ∀ k, k < w.heap.size → k ≠ g → W.heap[k]? = w.heap[k]?
theorem Below2.refl {w : World} {g : Nat} : Below2 w g w.drew := ⟨rfl, rfl, rfl, Nat.le_refl _, fun _ _ _ => rfl⟩
theorem Below2.set {w W : World} {g : Nat} (h : Below2 w g W) (i : Nat) (v : Value) : Below2 w g (W.setCell ⟨g, i, none⟩ v) := ⟨h.os, h.tape, h.output, by simpa [World.setCell] using h.size, fun k hk hne => (Below.heap_setCell _ _ _ _ hne).trans (h.block k hk hne)⟩
theorem Below2.blk {w W : World} {g b : Nat} {cs : Array Value} {t : TypeId} (h : Below2 w g W) (hb : Blk w b cs t) (hne : b ≠ g) : Blk W b cs t := by
  unfold Blk; rw [h.block b hb.lt hne]; exact hb
theorem Below2.below {w W : World} {g n : Nat} (h : Below2 w g W) (hn : n ≤ w.heap.size) (hg : n ≤ g) : Below n w W := ⟨h.os, h.tape, h.output, h.size, fun k hk => h.block k (by omega) (by omega)⟩
theorem Gd8 {us : List K10} {fs : List K3} (h : bf us fs = 0) : us.length ≤ 8 ∧ fs.length ≤ 4 := ⟨(bf_ok h).1, (bf_ok h).2.1⟩
end Go.Proofs.YtppgjmpdnpidnaaGreatDoor
end

/- TickOneS -/
/- The contract of the model's TickUnit. Condition: the lists lie in memory as they were laid there. -/
section
namespace Go.Proofs.YtppgjmpdnpidnaaGreatDoor
open Go.ChangeShapes Go.WideShapes Go.ChangeAt Go.RowKit
open Bd
set_option linter.unusedVariables false

theorem SlU.addr {w : World} {base : Nat} {v : Value} {l : List K10} (h : SlU w base v l) (hn : v ≠ .slice Option.none 0 0) : ∃ g cap, v = .slice (some ⟨g, 0, Option.none⟩) l.length cap ∧ base ≤ g ∧ g < w.heap.size ∧ UAt w g 0 l := by
  rcases h.2 with ⟨h1, _⟩ | ⟨g, cap, cur, hv, hb, hg, hc, hm, hs, ht⟩
  · exact absurd h1 hn
  · refine ⟨g, cap, hv, hb, (Array.getElem?_eq_some_iff.1 hg).1, fun i x hi f hf => ?_⟩
    have e := flatU_get l i x f hi hf
    have hil : i < l.length := (List.getElem?_eq_some_iff.1 hi).1
    rw [← ht, List.getElem?_take, if_pos (by omega)] at e
    simp [World.cell?, hg]
    simpa using e
theorem SlF.addr {w : World} {base : Nat} {v : Value} {l : List K3} (h : SlF w base v l) (hn : v ≠ .slice Option.none 0 0) : ∃ g cap, v = .slice (some ⟨g, 0, Option.none⟩) l.length cap ∧ base ≤ g ∧ g < w.heap.size ∧ FAt w g 0 l := by
  rcases h.2 with ⟨h1, _⟩ | ⟨g, cap, cur, hv, hb, hg, hc, hm, hs, ht⟩
  · exact absurd h1 hn
  · refine ⟨g, cap, hv, hb, (Array.getElem?_eq_some_iff.1 hg).1, fun i x hi f hf => ?_⟩
    have e := flatF_get l i x f hi hf
    have hil : i < l.length := (List.getElem?_eq_some_iff.1 hi).1
    rw [← ht, List.getElem?_take, if_pos (by omega)] at e
    simp [World.cell?, hg]
    simpa using e
theorem TIn.copy {w : World} {pu : Option Addr} {m c : Nat} {pf : Option Addr} {m' c' gr og mr cr : Nat} {us : List K10} {fs : List K3} {rm : List Int} (h : TIn w pu m c pf m' c' gr og mr cr us fs rm) (gd : Gd us fs) :
    Calls Tryz.prog 81 #[.agg (brdV pu m c pf m' c')] w fun e w' => ∃ g1 c1 g2 c2, e = .returned (.agg (brdV (some ⟨g1, 0, none⟩) m c1 (some ⟨g2, 0, none⟩) m' c2)) ∧ SlU w' w.heap.size (.slice (some ⟨g1, 0, none⟩) m c1) us ∧ SlF w' w.heap.size (.slice (some ⟨g2, 0, none⟩) m' c2) fs ∧ Below w.heap.size w w' := by
  refine (l4Copy2_i pu c m pf c' m' us fs h.hl (by have := gd.n8; have := h.hl; omega) h.hl' (by have := gd.n4; have := h.hl'; omega) w h.u h.f).mono ?_
  rintro e w' ⟨v, f, rfl, hU, hF, n1, n2, hb⟩
  obtain ⟨g1, c1, rfl, _, _, _⟩ := hU.addr n1
  obtain ⟨g2, c2, rfl, _, _, _⟩ := hF.addr n2
  rw [h.hl] at hU ⊢
  rw [h.hl'] at hF ⊢
  exact ⟨g1, c1, g2, c2, rfl, hU, hF, hb⟩
end Go.Proofs.YtppgjmpdnpidnaaGreatDoor
end

/- TickAllS0 -/
/- What the model's turn of a whole board has in memory: the result's block, its lists, what is left of rooms. Plain facts of four sums. No condition. -/
section
namespace Go.Proofs.YtppgjmpdnpidnaaGreatDoor
open Go.ChangeShapes Go.WideShapes Go.ChangeAt Go.RowKit
open Bd
set_option linter.unusedVariables false

/- the first j of four are summed -/
def mixF (f : Int → Int → Int) (a b : List Int) (j : Nat) : List Int := (List.zipWith f a b).take j ++ a.drop j
theorem mix_start (f : Int → Int → Int) (a b : List Int) : mixF f a b 0 = a := by simp [mixF]
theorem mix_end {f : Int → Int → Int} {a b : List Int} (ha : a.length = 4) (hb : b.length = 4) : mixF f a b 4 = List.zipWith f a b := by
  obtain ⟨a0, a1, a2, a3, rfl⟩ := four ha
  obtain ⟨b0, b1, b2, b3, rfl⟩ := four hb
  rfl
theorem mix_step (f : Int → Int → Int) {a b : List Int} (ha : a.length = 4) (hb : b.length = 4) {j : Nat} (hj : j < 4) :
    (mixF f a b j)[j]? = some (a.getD j 0) ∧ b[j]? = some (b.getD j 0) ∧ (mixF f a b j).set j (f (a.getD j 0) (b.getD j 0)) = mixF f a b (j + 1) := by
  obtain ⟨a0, a1, a2, a3, rfl⟩ := four ha
  obtain ⟨b0, b1, b2, b3, rfl⟩ := four hb
  have : j = 0 ∨ j = 1 ∨ j = 2 ∨ j = 3 := by omega
  rcases this with rfl | rfl | rfl | rfl <;> exact ⟨rfl, rfl, rfl⟩
structure TB (w : World) (base S qg cg ql cl : Nat) (vu vf : Value) (us : List K10) (fs : List K3) (gn rm : List Int) (lost : Int) : Prop where
  row : w.rowIs S 48 5 (fun i => (resV 0 (.slice (some ⟨qg, 0, none⟩) 4 cg) lost vu vf)[i]!)
  u : SlU w base vu us
  f : SlF w base vf fs
  g : Lst w qg cg gn
  l : Lst w ql cl rm
  ne : qg ≠ ql
  nn : vu ≠ .slice none 0 0
  bS : base ≤ S
  bg : base ≤ qg
  bl : base ≤ ql
theorem SlU.blk {w : World} {base : Nat} {v : Value} {l : List K10} (h : SlU w base v l) {q : Nat} (hq : v.ownBlock = some q) : ∃ c, w.heap[q]? = some (.cells c 75 (0, 0)) := by
  rcases h.2 with ⟨rfl, _⟩ | ⟨g, cap, cur, rfl, _, hg, _⟩
  · cases hq
  · cases hq; exact ⟨cur, hg⟩
structure TBs (S qg ql : Nat) (vu vf : Value) : Prop where
  sg : S ≠ qg
  sl : S ≠ ql
  gl : qg ≠ ql
  u : ∀ q, vu.ownBlock = some q → q ≠ S ∧ q ≠ qg ∧ q ≠ ql
  f : ∀ q, vf.ownBlock = some q → q ≠ S ∧ q ≠ qg ∧ q ≠ ql
theorem TB.sep {w : World} {base S qg cg ql cl : Nat} {vu vf : Value} {us : List K10} {fs : List K3} {gn rm : List Int} {lost : Int} (h : TB w base S qg cg ql cl vu vf us fs gn rm lost) : TBs S qg ql vu vf := by
  obtain ⟨ct, ht, _⟩ := h.row
  obtain ⟨c1, h1, _⟩ := h.g
  obtain ⟨c2, h2, _⟩ := h.l
  refine ⟨blk_ne ht h1 (by decide), blk_ne ht h2 (by decide), h.ne, fun q hq => ?_, fun q hq => ?_⟩
  · obtain ⟨c, hc⟩ := h.u.blk hq
    exact ⟨blk_ne hc ht (by decide), blk_ne hc h1 (by decide), blk_ne hc h2 (by decide)⟩
  · obtain ⟨c, hc⟩ := h.f.blk hq
    exact ⟨blk_ne hc ht (by decide), blk_ne hc h1 (by decide), blk_ne hc h2 (by decide)⟩
theorem TB.later {w w' : World} {base S qg cg ql cl : Nat} {vu vf : Value} {us : List K10} {fs : List K3} {gn rm : List Int} {lost : Int} (h : TB w base S qg cg ql cl vu vf us fs gn rm lost) (hb : Below w.heap.size w w') : TB w' base S qg cg ql cl vu vf us fs gn rm lost :=
  ⟨row_later h.row hb, h.u.below hb, h.f.below hb, h.g.below hb, h.l.below hb, h.ne, h.nn, h.bS, h.bg, h.bl⟩
theorem TB.sb {w : World} {base S qg cg ql cl : Nat} {vu vf : Value} {us : List K10} {fs : List K3} {gn rm : List Int} {lost : Int} (h : TB w base S qg cg ql cl vu vf us fs gn rm lost) : SB w base S 3 vu vf us fs :=
  ⟨h.row.cell (i := 3) (by omega), h.row.cell (i := 4) (by omega), h.row.frozen 3, h.row.lt, h.u, h.f, fun e => (h.sep.u S e).1 rfl, fun e => (h.sep.f S e).1 rfl⟩
theorem TB.setG {w : World} {base S qg cg ql cl : Nat} {vu vf : Value} {us : List K10} {fs : List K3} {gn rm : List Int} {lost : Int} (h : TB w base S qg cg ql cl vu vf us fs gn rm lost) (o : Nat) (x : Int) : TB (w.setCell ⟨qg, o, none⟩ (.int .i64 x)) base S qg cg ql cl vu vf us fs (gn.set o x) rm lost := by
  have sp := h.sep
  have kb : ∀ q, q ≠ qg → (w.setCell ⟨qg, o, none⟩ (.int .i64 x)).heap[q]? = w.heap[q]? := fun q hq => Below.heap_setCell _ _ _ _ hq
  exact ⟨h.row.of_block (kb S sp.sg), h.u.of_block (fun q hq => kb q (sp.u q hq).2.1), h.f.of_block (fun q hq => kb q (sp.f q hq).2.1), h.g.set o x, h.l.of_block (kb ql sp.gl.symm), h.ne, h.nn, h.bS, h.bg, h.bl⟩
theorem TB.setL {w : World} {base S qg cg ql cl : Nat} {vu vf : Value} {us : List K10} {fs : List K3} {gn rm : List Int} {lost : Int} (h : TB w base S qg cg ql cl vu vf us fs gn rm lost) (o : Nat) (x : Int) : TB (w.setCell ⟨ql, o, none⟩ (.int .i64 x)) base S qg cg ql cl vu vf us fs gn (rm.set o x) lost := by
  have sp := h.sep
  have kb : ∀ q, q ≠ ql → (w.setCell ⟨ql, o, none⟩ (.int .i64 x)).heap[q]? = w.heap[q]? := fun q hq => Below.heap_setCell _ _ _ _ hq
  exact ⟨h.row.of_block (kb S sp.sl), h.u.of_block (fun q hq => kb q (sp.u q hq).2.2), h.f.of_block (fun q hq => kb q (sp.f q hq).2.2), h.g.of_block (kb qg sp.gl), h.l.set o x, h.ne, h.nn, h.bS, h.bg, h.bl⟩
theorem TB.setLost {w : World} {base S qg cg ql cl : Nat} {vu vf : Value} {us : List K10} {fs : List K3} {gn rm : List Int} {lost : Int} (h : TB w base S qg cg ql cl vu vf us fs gn rm lost) (x : Int) : TB (w.setCell ⟨S, 2, none⟩ (.int .i64 x)) base S qg cg ql cl vu vf us fs gn rm x := by
  have sp := h.sep
  have kb : ∀ q, q ≠ S → (w.setCell ⟨S, 2, none⟩ (.int .i64 x)).heap[q]? = w.heap[q]? := fun q hq => Below.heap_setCell _ _ _ _ hq
  exact ⟨(h.row.set 2 (.int .i64 x)).congr (fun i hi => by rcases i with _ | _ | _ | _ | _ | i <;> first | rfl | omega), h.u.of_block (fun q hq => kb q (sp.u q hq).1), h.f.of_block (fun q hq => kb q (sp.f q hq).1), h.g.of_block (kb qg sp.sg.symm), h.l.of_block (kb ql sp.sl.symm), h.ne, h.nn, h.bS, h.bg, h.bl⟩
/- behind a unit's turn -/
theorem TB.turn {w w' : World} {base S qg cg ql cl g cap n ow : Nat} {vf : Value} {us : List K10} {fs : List K3} {gn rm : List Int} {lost : Int} {t : Tk} {gv : Value} (h : TB w base S qg cg ql cl (.slice (some ⟨g, 0, none⟩) n cap) vf us fs gn rm lost) (o : UOut w w' base S 3 g cap n vf t ow gv) :
    ∃ vu', TB w' base S qg cg ql cl vu' vf t.us t.fs gn rm lost ∧ SlI w' w.heap.size gv (addAt z4 ow t.give) ∧ KeptS (fun b => b = S ∨ b = g ∨ vf.ownBlock = some b) w w' := by
  obtain ⟨vu', sb, hI, K, nn, hv, oo⟩ := o
  have sp := h.sep
  obtain ⟨v, hr⟩ := oo _ _ _ h.row
  have e3 : v = vu' := by
    have := (hr.cell (i := 3) (by omega)).symm.trans sb.c0
    simpa using this
  subst e3
  have kq : ∀ q, q < w.heap.size → q ≠ S → q ≠ g → vf.ownBlock ≠ some q → w'.heap[q]? = w.heap[q]? := fun q hq h1 h2 h3 => K.block q hq (fun e => e.elim h1 (fun e => e.elim h2 h3))
  refine ⟨v, ⟨hr.congr (fun i hi => by rcases i with _ | _ | _ | _ | _ | i <;> first | rfl | omega), sb.u, sb.f, h.g.of_block (kq qg h.g.lt sp.sg.symm (fun e => (sp.u g rfl).2.1 e.symm) (fun e => (sp.f qg e).2.1 rfl)), h.l.of_block (kq ql h.l.lt sp.sl.symm (fun e => (sp.u g rfl).2.2 e.symm) (fun e => (sp.f ql e).2.2 rfl)), h.ne, nn, h.bS, h.bg, h.bl⟩, hI, K⟩
/- what a board's turn is handed -/
structure LIn (w : World) (p o : Nat) (pu : Option Addr) (m c : Nat) (pf : Option Addr) (m' c' gr og : Nat) (us : List K10) (fs : List K3) (rm : List Int) : Prop where
  c0 : w.cell? ⟨p, o, none⟩ = some (.slice pu m c)
  c1 : w.cell? ⟨p, o + 1, none⟩ = some (.slice pf m' c')
  lp : p < w.heap.size
  hl : us.length = m
  hl' : fs.length = m'
  hr : rm.length = 4
  u : InU w pu m c us
  f : InF w pf m' c' fs
  r : IAt w gr og rm
  lr : gr < w.heap.size
theorem LIn.below {w w' : World} {p o : Nat} {pu : Option Addr} {m c : Nat} {pf : Option Addr} {m' c' gr og : Nat} {us : List K10} {fs : List K3} {rm : List Int} (h : LIn w p o pu m c pf m' c' gr og us fs rm) (hb : Below w.heap.size w w') : LIn w' p o pu m c pf m' c' gr og us fs rm :=
  ⟨by rw [hb.cell h.lp]; exact h.c0, by rw [hb.cell h.lp]; exact h.c1, Nat.lt_of_lt_of_le h.lp hb.size, h.hl, h.hl', h.hr, h.u.later hb, h.f.later hb, h.r.later h.lr hb, Nat.lt_of_lt_of_le h.lr hb.size⟩
end Go.Proofs.YtppgjmpdnpidnaaGreatDoor
end
