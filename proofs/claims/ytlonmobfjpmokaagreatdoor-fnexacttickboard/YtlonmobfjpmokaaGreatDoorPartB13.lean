/- Texts of mine put together (a claim holds at most 60 files): TickLaw0, TickAllS0. -/
import Derived.Test.YtlonmobfjpmokaaGreatDoorPartB11
import Derived.Test.YtlonmobfjpmokaaGreatDoorPartB12
import Derived.Test.YtlonmobfjpmokaaGreatDoorPartB10

/- TickLaw0 -/
/- What the walks of the exact laws of ticks share: a result in memory, its blocks. No condition. -/
section
namespace Go.Proofs.YtlonmobfjpmokaaGreatDoor
open Go.ChangeShapes Go.WideShapes Go.ChangeAt Go.RowKit
open Bd
set_option linter.unusedVariables false

theorem tin_of {w : World} {base g g' gr mr : Nat} {us : List K10} {fs : List K3} {rm : List Int} (N : NewB w base g g' us fs) (L : Lst w gr mr rm) (hr : rm.length = mr) (hm : mr ≤ 1048576) : TIn w g us.length us.length g' fs.length fs.length gr mr mr us fs rm :=
  ⟨rfl, rfl, hr, by omega, rowU_is rfl N.u, rowF_is rfl N.f, L.iat, N.u.lt, N.f.lt, L.lt⟩
theorem RIs.forms {w : World} {base : Nat} {r : TR} {g v f : Value} {ng nu nf : Nat} (h : RIs w base r g v f) (hn : RLen r ng nu nf) : ∃ a1 a2 a3 c1 c2 c3, g = .slice a1 ng c1 ∧ v = .slice a2 nu c2 ∧ f = .slice a3 nf c3 := by
  obtain ⟨a1, c1, e1⟩ := h.g.form
  obtain ⟨a2, c2, e2, _⟩ := h.u.form
  obtain ⟨a3, c3, e3, _⟩ := h.f.form
  rw [hn.g] at e1
  rw [hn.u] at e2
  rw [hn.f] at e3
  exact ⟨a1, a2, a3, c1, c2, c3, e1, e2, e3⟩
structure RA (w : World) (base S : Nat) (r : TR) (g v f : Value) : Prop where
  row : w.rowIs S 32 5 (fun i => (resV r.c g r.l v f)[i]!)
  is : RIs w base r g v f
  bs : base ≤ S
theorem RA.new {w : World} {base : Nat} {r : TR} {g v f : Value} (h : RIs w base r g v f) (hb : base ≤ w.heap.size) : RA (w.alloc (.cells (resV r.c g r.l v f) 32)) base w.heap.size r g v f :=
  ⟨rowAll w (resV r.c g r.l v f) _, h.later ((Below.refl _ _).alloc (Nat.le_refl _) _), hb⟩
theorem RA.later {w w' : World} {base S : Nat} {r : TR} {g v f : Value} (h : RA w base S r g v f) (hb : Below w.heap.size w w') : RA w' base S r g v f := ⟨row_later h.row hb, h.is.later hb, h.bs⟩
def ABlk (S : Nat) (g v f : Value) (b : Nat) : Prop := b = S ∨ RBlk g v f b
theorem RA.lt {w : World} {base S : Nat} {r : TR} {g v f : Value} (h : RA w base S r g v f) (b : Nat) (hb : ABlk S g v f b) : base ≤ b ∧ b < w.heap.size := by
  rcases hb with rfl | hb
  · exact ⟨h.bs, h.row.lt⟩
  · exact h.is.lt b hb
theorem RA.kept {K : Nat → Prop} {w w' : World} {base S : Nat} {r : TR} {g v f : Value} (h : RA w base S r g v f) (k : KeptS K w w') (hs : ∀ b, ABlk S g v f b → ¬ K b) : RA w' base S r g v f :=
  ⟨h.row.of_block (k.block S h.row.lt (hs S (.inl rfl))), h.is.of_kept k (fun b hb => hs b (.inr hb)), h.bs⟩
theorem RA.cells {w : World} {base S : Nat} {r : TR} {g v f : Value} (h : RA w base S r g v f) : w.cell? ⟨S, 0, none⟩ = some (.int .i64 r.c) ∧ w.cell? ⟨S, 1, none⟩ = some g ∧ w.cell? ⟨S, 2, none⟩ = some (.int .i64 r.l) ∧ w.cell? ⟨S, 3, none⟩ = some v ∧ w.cell? ⟨S, 4, none⟩ = some f ∧ S < w.heap.size :=
  ⟨h.row.cell (i := 0) (by omega), h.row.cell (i := 1) (by omega), h.row.cell (i := 2) (by omega), h.row.cell (i := 3) (by omega), h.row.cell (i := 4) (by omega), h.row.lt⟩
theorem RA.ne {w : World} {base S : Nat} {r : TR} {g v f : Value} (h : RA w base S r g v f) : ¬ RBlk g v f S := by
  obtain ⟨c, hS, _⟩ := h.row
  obtain ⟨a1, a2, a3⟩ := h.is.apart hS
  rintro (e | e | e)
  · exact a1 e
  · exact a2 e
  · exact a3 e
theorem KeptS.of2 {w w' : World} {g h : Nat} (k : Kept2 w w' g h) : KeptS (fun b => b = g ∨ b = h) w w' := ⟨k.os, k.tape, k.output, k.size, fun i hi hn => k.block i hi (fun e => hn (.inl e)) (fun e => hn (.inr e))⟩
theorem KeptS.ofG {w w' : World} {g : Nat} (k : w.grownBy w' (some g)) : KeptS (fun b => b = g) w w' := ⟨k.os, k.tape, k.output, k.size, fun i hi hn => k.block i hi (fun e => hn (Option.some.inj e))⟩
theorem row_kept {K : Nat → Prop} {w w' : World} {g n : Nat} {t : TypeId} {f : Nat → Value} (h : w.rowIs g t n f) (k : KeptS K w w') (hs : ¬ K g) : w'.rowIs g t n f := h.of_block (k.block g h.lt hs)
theorem tu_len (us : List K10) (fs : List K3) (i : Int) (rm : List Int) : ∃ ng nu nf, RLen (tuR us fs i rm) ng nu nf := by
  suffices h : (tuR us fs i rm).g.length ≤ 1000 ∧ (tuR us fs i rm).us.length ≤ 1000 ∧ (tuR us fs i rm).fs.length ≤ 1000 from ⟨_, _, _, rfl, rfl, rfl, h.1, h.2.1, h.2.2⟩
  rcases tu_cases us fs i rm with ⟨h1, e⟩ | ⟨h1, hf, e⟩ | ⟨u, h1, hf, e⟩
  · rw [e]; exact ⟨by show 0 ≤ 1000; omega, by show 0 ≤ 1000; omega, by show 0 ≤ 1000; omega⟩
  · rw [e]; exact ⟨by show 0 ≤ 1000; omega, by show 0 ≤ 1000; omega, by show 0 ≤ 1000; omega⟩
  · rw [e]
    have t := (tg0 h1).step i
    exact ⟨by show (tkS _ i).gn.length ≤ _; rw [t.gl]; omega, by have := t.gd.n8; show (tkS _ i).us.length ≤ _; omega, by have := t.gd.n4; show (tkS _ i).fs.length ≤ _; omega⟩
end Go.Proofs.YtlonmobfjpmokaaGreatDoor
end

/- TickAllS0 -/
/- What the model's turn of a whole board has in memory: the result's block, its lists, what is left of rooms. Plain facts of four sums. No condition. -/
section
namespace Go.Proofs.YtlonmobfjpmokaaGreatDoor
open Go.ChangeShapes Go.WideShapes Go.ChangeAt Go.RowKit
open Bd
set_option linter.unusedVariables false

/- the first j of four are summed -/
def mixF (f : Int → Int → Int) (a b : List Int) (j : Nat) : List Int := (List.zipWith f a b).take j ++ a.drop j
theorem mix_start (f : Int → Int → Int) (a b : List Int) : mixF f a b 0 = a := by simp [mixF]
theorem mix_end {f : Int → Int → Int} {a b : List Int} (ha : a.length = 4) (hb : b.length = 4) : mixF f a b 4 = List.zipWith f a b := by
  obtain ⟨a0, a1, a2, a3, rfl⟩ := four ha
  obtain ⟨b0, b1, b2, b3, rfl⟩ := four hb
  rfl
theorem mix_step (f : Int → Int → Int) {a b : List Int} (ha : a.length = 4) (hb : b.length = 4) {j : Nat} (hj : j < 4) :
    (mixF f a b j)[j]? = some (a.getD j 0) ∧ b[j]? = some (b.getD j 0) ∧ (mixF f a b j).set j (f (a.getD j 0) (b.getD j 0)) = mixF f a b (j + 1) := by
  obtain ⟨a0, a1, a2, a3, rfl⟩ := four ha
  obtain ⟨b0, b1, b2, b3, rfl⟩ := four hb
  have : j = 0 ∨ j = 1 ∨ j = 2 ∨ j = 3 := by omega
  rcases this with rfl | rfl | rfl | rfl <;> exact ⟨rfl, rfl, rfl⟩
structure TB (w : World) (base S qg cg ql cl : Nat) (vu vf : Value) (us : List K10) (fs : List K3) (gn rm : List Int) (lost : Int) : Prop where
  row : w.rowIs S 32 5 (fun i => (resV 0 (.slice (some ⟨qg, 0, none⟩) 4 cg) lost vu vf)[i]!)
  u : SlU w base vu us
  f : SlF w base vf fs
  g : Lst w qg cg gn
  l : Lst w ql cl rm
  ne : qg ≠ ql
  nn : vu ≠ .slice none 0 0
  bS : base ≤ S
  bg : base ≤ qg
  bl : base ≤ ql
theorem SlU.blk {w : World} {base : Nat} {v : Value} {l : List K10} (h : SlU w base v l) {q : Nat} (hq : v.ownBlock = some q) : ∃ c, w.heap[q]? = some (.cells c 87 (0, 0)) := by
  rcases h.2 with ⟨rfl, _⟩ | ⟨g, cap, cur, rfl, _, hg, _⟩
  · cases hq
  · cases hq; exact ⟨cur, hg⟩
structure TBs (S qg ql : Nat) (vu vf : Value) : Prop where
  sg : S ≠ qg
  sl : S ≠ ql
  gl : qg ≠ ql
  u : ∀ q, vu.ownBlock = some q → q ≠ S ∧ q ≠ qg ∧ q ≠ ql
  f : ∀ q, vf.ownBlock = some q → q ≠ S ∧ q ≠ qg ∧ q ≠ ql
theorem TB.sep {w : World} {base S qg cg ql cl : Nat} {vu vf : Value} {us : List K10} {fs : List K3} {gn rm : List Int} {lost : Int} (h : TB w base S qg cg ql cl vu vf us fs gn rm lost) : TBs S qg ql vu vf := by
  obtain ⟨ct, ht, _⟩ := h.row
  obtain ⟨c1, h1, _⟩ := h.g
  obtain ⟨c2, h2, _⟩ := h.l
  refine ⟨blk_ne ht h1 (by decide), blk_ne ht h2 (by decide), h.ne, fun q hq => ?_, fun q hq => ?_⟩
  · obtain ⟨c, hc⟩ := h.u.blk hq
    exact ⟨blk_ne hc ht (by decide), blk_ne hc h1 (by decide), blk_ne hc h2 (by decide)⟩
  · obtain ⟨c, hc⟩ := h.f.blk hq
    exact ⟨blk_ne hc ht (by decide), blk_ne hc h1 (by decide), blk_ne hc h2 (by decide)⟩
theorem TB.later {w w' : World} {base S qg cg ql cl : Nat} {vu vf : Value} {us : List K10} {fs : List K3} {gn rm : List Int} {lost : Int} (h : TB w base S qg cg ql cl vu vf us fs gn rm lost) (hb : Below w.heap.size w w') : TB w' base S qg cg ql cl vu vf us fs gn rm lost :=
  ⟨row_later h.row hb, h.u.below hb, h.f.below hb, h.g.below hb, h.l.below hb, h.ne, h.nn, h.bS, h.bg, h.bl⟩
theorem TB.sb {w : World} {base S qg cg ql cl : Nat} {vu vf : Value} {us : List K10} {fs : List K3} {gn rm : List Int} {lost : Int} (h : TB w base S qg cg ql cl vu vf us fs gn rm lost) : SB w base S 3 vu vf us fs :=
  ⟨h.row.cell (i := 3) (by omega), h.row.cell (i := 4) (by omega), h.row.frozen 3, h.row.lt, h.u, h.f, fun e => (h.sep.u S e).1 rfl, fun e => (h.sep.f S e).1 rfl⟩
theorem TB.setG {w : World} {base S qg cg ql cl : Nat} {vu vf : Value} {us : List K10} {fs : List K3} {gn rm : List Int} {lost : Int} (h : TB w base S qg cg ql cl vu vf us fs gn rm lost) (o : Nat) (x : Int) : TB (w.setCell ⟨qg, o, none⟩ (.int .i64 x)) base S qg cg ql cl vu vf us fs (gn.set o x) rm lost := by
  have sp := h.sep
  have kb : ∀ q, q ≠ qg → (w.setCell ⟨qg, o, none⟩ (.int .i64 x)).heap[q]? = w.heap[q]? := fun q hq => Below.heap_setCell _ _ _ _ hq
  exact ⟨h.row.of_block (kb S sp.sg), h.u.of_block (fun q hq => kb q (sp.u q hq).2.1), h.f.of_block (fun q hq => kb q (sp.f q hq).2.1), h.g.set o x, h.l.of_block (kb ql sp.gl.symm), h.ne, h.nn, h.bS, h.bg, h.bl⟩
theorem TB.setL {w : World} {base S qg cg ql cl : Nat} {vu vf : Value} {us : List K10} {fs : List K3} {gn rm : List Int} {lost : Int} (h : TB w base S qg cg ql cl vu vf us fs gn rm lost) (o : Nat) (x : Int) : TB (w.setCell ⟨ql, o, none⟩ (.int .i64 x)) base S qg cg ql cl vu vf us fs gn (rm.set o x) lost := by
  have sp := h.sep
  have kb : ∀ q, q ≠ ql → (w.setCell ⟨ql, o, none⟩ (.int .i64 x)).heap[q]? = w.heap[q]? := fun q hq => Below.heap_setCell _ _ _ _ hq
  exact ⟨h.row.of_block (kb S sp.sl), h.u.of_block (fun q hq => kb q (sp.u q hq).2.2), h.f.of_block (fun q hq => kb q (sp.f q hq).2.2), h.g.of_block (kb qg sp.gl), h.l.set o x, h.ne, h.nn, h.bS, h.bg, h.bl⟩
theorem TB.setLost {w : World} {base S qg cg ql cl : Nat} {vu vf : Value} {us : List K10} {fs : List K3} {gn rm : List Int} {lost : Int} (h : TB w base S qg cg ql cl vu vf us fs gn rm lost) (x : Int) : TB (w.setCell ⟨S, 2, none⟩ (.int .i64 x)) base S qg cg ql cl vu vf us fs gn rm x := by
  have sp := h.sep
  have kb : ∀ q, q ≠ S → (w.setCell ⟨S, 2, none⟩ (.int .i64 x)).heap[q]? = w.heap[q]? := fun q hq => Below.heap_setCell _ _ _ _ hq
  exact ⟨(h.row.set 2 (.int .i64 x)).congr (fun i hi => by rcases i with _ | _ | _ | _ | _ | i <;> first | rfl | omega), h.u.of_block (fun q hq => kb q (sp.u q hq).1), h.f.of_block (fun q hq => kb q (sp.f q hq).1), h.g.of_block (kb qg sp.sg.symm), h.l.of_block (kb ql sp.sl.symm), h.ne, h.nn, h.bS, h.bg, h.bl⟩
/- behind a unit's turn -/
theorem TB.turn {w w' : World} {base S qg cg ql cl g cap n ow : Nat} {vf : Value} {us : List K10} {fs : List K3} {gn rm : List Int} {lost : Int} {t : Tk} {gv : Value} (h : TB w base S qg cg ql cl (.slice (some ⟨g, 0, none⟩) n cap) vf us fs gn rm lost) (o : UOut w w' base S 3 g cap n vf t ow gv) :
    ∃ vu', TB w' base S qg cg ql cl vu' vf t.us t.fs gn rm lost ∧ SlI w' w.heap.size gv (addAt z4 ow t.give) ∧ KeptS (fun b => b = S ∨ b = g ∨ vf.ownBlock = some b) w w' := by
  obtain ⟨vu', sb, hI, K, nn, hv, oo⟩ := o
  have sp := h.sep
  obtain ⟨v, hr⟩ := oo _ _ _ h.row
  have e3 : v = vu' := by
    have := (hr.cell (i := 3) (by omega)).symm.trans sb.c0
    simpa using this
  subst e3
  have kq : ∀ q, q < w.heap.size → q ≠ S → q ≠ g → vf.ownBlock ≠ some q → w'.heap[q]? = w.heap[q]? := fun q hq h1 h2 h3 => K.block q hq (fun e => e.elim h1 (fun e => e.elim h2 h3))
  refine ⟨v, ⟨hr.congr (fun i hi => by rcases i with _ | _ | _ | _ | _ | i <;> first | rfl | omega), sb.u, sb.f, h.g.of_block (kq qg h.g.lt sp.sg.symm (fun e => (sp.u g rfl).2.1 e.symm) (fun e => (sp.f qg e).2.1 rfl)), h.l.of_block (kq ql h.l.lt sp.sl.symm (fun e => (sp.u g rfl).2.2 e.symm) (fun e => (sp.f ql e).2.2 rfl)), h.ne, nn, h.bS, h.bg, h.bl⟩, hI, K⟩
/- what a board's turn is handed -/
structure LIn (w : World) (p o g m c g' m' c' gr : Nat) (us : List K10) (fs : List K3) (rm : List Int) : Prop where
  c0 : w.cell? ⟨p, o, none⟩ = some (.slice (some ⟨g, 0, none⟩) m c)
  c1 : w.cell? ⟨p, o + 1, none⟩ = some (.slice (some ⟨g', 0, none⟩) m' c')
  lp : p < w.heap.size
  hl : us.length = m
  hl' : fs.length = m'
  hr : rm.length = 4
  u : UAt w g 0 us
  f : FAt w g' 0 fs
  r : IAt w gr 0 rm
  lu : g < w.heap.size
  lf : g' < w.heap.size
  lr : gr < w.heap.size
theorem LIn.below {w w' : World} {p o g m c g' m' c' gr : Nat} {us : List K10} {fs : List K3} {rm : List Int} (h : LIn w p o g m c g' m' c' gr us fs rm) (hb : Below w.heap.size w w') : LIn w' p o g m c g' m' c' gr us fs rm :=
  ⟨by rw [hb.cell h.lp]; exact h.c0, by rw [hb.cell h.lp]; exact h.c1, Nat.lt_of_lt_of_le h.lp hb.size, h.hl, h.hl', h.hr, h.u.later h.lu hb, h.f.later h.lf hb, h.r.later h.lr hb, Nat.lt_of_lt_of_le h.lu hb.size, Nat.lt_of_lt_of_le h.lf hb.size, Nat.lt_of_lt_of_le h.lr hb.size⟩
end Go.Proofs.YtlonmobfjpmokaaGreatDoor
end
