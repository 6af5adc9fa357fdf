/- Worlds in memory: seven cells, five lists. No condition. -/
import Derived.Test.YtibkdkjcncfmgaaExactBoard
import Derived.Test.YtibkdkjcncfmgaaRowsA
import Derived.Test.YtibkdkjcncfmgaaRowsS
import Derived.Test.YtibkdkjcncfmgaaRowsO
namespace Go.Proofs.Ytibkdkjcncfmgaa
open Go.ChangeShapes Go.WideShapes Go.ChangeAt Go.RowKit
set_option linter.unusedVariables false

/- a world: two numbers, five lists -/
structure KW where
  t : Int
  s : Int
  us : List K10
  fs : List K3
  fa : List KA
  se : List K4
  oo : List K2
def KW.n (x : KW) : Nat := x.us.length + x.fs.length + x.fa.length + x.se.length + x.oo.length
/- where its lists lie, and their room -/
structure WP where
  u : Option Addr
  uc : Nat
  f : Option Addr
  fc : Nat
  a : Option Addr
  ac : Nat
  s : Option Addr
  sc : Nat
  o : Option Addr
  oc : Nat
abbrev wv (t s : Int) (u : Option Addr) (um uc : Nat) (f : Option Addr) (fm fc : Nat) (a : Option Addr) (am ac : Nat) (se : Option Addr) (sm sc : Nat) (o : Option Addr) (om oc : Nat) : Array Value :=
  #[.int .i64 t, .int .i64 s, .slice u um uc, .slice f fm fc, .slice a am ac, .slice se sm sc, .slice o om oc]
abbrev WP.v (p : WP) (x : KW) : Array Value := wv x.t x.s p.u x.us.length p.uc p.f x.fs.length p.fc p.a x.fa.length p.ac p.s x.se.length p.sc p.o x.oo.length p.oc
structure ArgW (w : World) (p : WP) (x : KW) : Prop where
  u : ArgU w p.u x.us
  f : ArgF w p.f x.fs
  a : ArgA w p.a x.fa
  s : ArgS w p.s x.se
  o : ArgO w p.o x.oo
theorem ArgW.later {w w' : World} {p : WP} {x : KW} (h : ArgW w p x) (hb : Below w.heap.size w w') : ArgW w' p x := ⟨h.u.later hb, h.f.later hb, h.a.later hb, h.s.later hb, h.o.later hb⟩
/- a block of memory is these cells -/
def Bk (w : World) (g : Nat) (cs : Array Value) (t : TypeId) : Prop := w.heap[g]? = some (Obj.cells cs t (0, 0))
theorem Bk.lt {w : World} {g : Nat} {cs : Array Value} {t : TypeId} (h : Bk w g cs t) : g < w.heap.size := (Array.getElem?_eq_some_iff.1 h).1
theorem Bk.cell {w : World} {g : Nat} {cs : Array Value} {t : TypeId} (h : Bk w g cs t) {i : Nat} {v : Value} (hi : cs[i]? = some v) : w.cell? ⟨g, i, none⟩ = some v := by
  unfold Bk at h
  simp [World.cell?, h, hi]
theorem Bk.frozen {w : World} {g : Nat} {cs : Array Value} {t : TypeId} (h : Bk w g cs t) (i : Nat) : w.frozen? ⟨g, i, none⟩ = false := by
  unfold Bk at h
  simp [World.frozen?, h]
theorem Bk.below {w w' : World} {g : Nat} {cs : Array Value} {t : TypeId} (h : Bk w g cs t) (hb : Below w.heap.size w w') : Bk w' g cs t := by
  unfold Bk; rw [hb.block g h.lt]; exact h
theorem Bk.new (w : World) (cs : Array Value) (t : TypeId) : Bk (w.alloc (.cells cs t)) w.heap.size cs t := by
  show (w.heap.push _)[w.heap.size]? = _
  simp
theorem Bk.alloc {w : World} {g : Nat} {cs : Array Value} {t : TypeId} (h : Bk w g cs t) (o : Obj) : Bk (w.alloc o) g cs t := h.below ((Below.refl _ _).alloc (Nat.le_refl _) o)
theorem Bk.set {w : World} {g : Nat} {cs : Array Value} {t : TypeId} (h : Bk w g cs t) (i : Nat) (v : Value) : Bk (w.setCell ⟨g, i, none⟩ v) g (cs.setIfInBounds i v) t := by
  unfold Bk at *
  simp [World.setCell, Array.getElem?_modify, h]
theorem Bk.setOther {w : World} {g : Nat} {cs : Array Value} {t : TypeId} (h : Bk w g cs t) {a : Addr} (ha : g ≠ a.block) (v : Value) : Bk (w.setCell a v) g cs t := by
  unfold Bk at *
  rw [Below.heap_setCell _ _ _ _ ha]; exact h
/- the seven cells of a world, from place o of block g on -/
structure W7 (w : World) (g o : Nat) (p : WP) (x : KW) : Prop where
  c0 : w.cell? ⟨g, o, none⟩ = some (.int .i64 x.t)
  c1 : w.cell? ⟨g, o + 1, none⟩ = some (.int .i64 x.s)
  c2 : w.cell? ⟨g, o + 2, none⟩ = some (.slice p.u x.us.length p.uc)
  c3 : w.cell? ⟨g, o + 3, none⟩ = some (.slice p.f x.fs.length p.fc)
  c4 : w.cell? ⟨g, o + 4, none⟩ = some (.slice p.a x.fa.length p.ac)
  c5 : w.cell? ⟨g, o + 5, none⟩ = some (.slice p.s x.se.length p.sc)
  c6 : w.cell? ⟨g, o + 6, none⟩ = some (.slice p.o x.oo.length p.oc)
  lt : g < w.heap.size
theorem W7.later {w w' : World} {g o : Nat} {p : WP} {x : KW} (h : W7 w g o p x) (hb : Below w.heap.size w w') : W7 w' g o p x :=
  ⟨by rw [hb.cell h.lt]; exact h.c0, by rw [hb.cell h.lt]; exact h.c1, by rw [hb.cell h.lt]; exact h.c2, by rw [hb.cell h.lt]; exact h.c3, by rw [hb.cell h.lt]; exact h.c4, by rw [hb.cell h.lt]; exact h.c5, by rw [hb.cell h.lt]; exact h.c6, Nat.lt_of_lt_of_le h.lt hb.size⟩
theorem W7.new (w : World) (p : WP) (x : KW) (t : TypeId) : W7 (w.alloc (.cells (p.v x) t)) w.heap.size 0 p x :=
  ⟨cell_new _ _ _ _ _ rfl, cell_new _ _ _ _ _ rfl, cell_new _ _ _ _ _ rfl, cell_new _ _ _ _ _ rfl, cell_new _ _ _ _ _ rfl, cell_new _ _ _ _ _ rfl, cell_new _ _ _ _ _ rfl, by rw [size_new]; omega⟩
theorem Bk.w7 {w : World} {g : Nat} {p : WP} {x : KW} {t : TypeId} (h : Bk w g (p.v x) t) : W7 w g 0 p x :=
  ⟨h.cell rfl, h.cell rfl, h.cell rfl, h.cell rfl, h.cell rfl, h.cell rfl, h.cell rfl, h.lt⟩
/- five new lists of a world -/
structure NewW (w : World) (base gu gf ga gs go : Nat) (x : KW) : Prop where
  u : w.rowIs gu 29 (x.us.length * 10) (rowU x.us x.us.length)
  f : w.rowIs gf 105 (x.fs.length * 3) (rowF x.fs x.fs.length)
  a : w.rowIs ga 148 (x.fa.length * 3) (rowA x.fa x.fa.length)
  s : w.rowIs gs 82 (x.se.length * 4) (rowS x.se x.se.length)
  o : w.rowIs go 169 (x.oo.length * 2) (rowO x.oo x.oo.length)
  lt : gu < gf
def nwp (gu gf ga gs go : Nat) (x : KW) : WP := ⟨some ⟨gu, 0, none⟩, x.us.length, some ⟨gf, 0, none⟩, x.fs.length, some ⟨ga, 0, none⟩, x.fa.length, some ⟨gs, 0, none⟩, x.se.length, some ⟨go, 0, none⟩, x.oo.length⟩
theorem NewW.later {w w' : World} {base gu gf ga gs go : Nat} {x : KW} (h : NewW w base gu gf ga gs go x) (hb : Below w.heap.size w w') : NewW w' base gu gf ga gs go x :=
  ⟨h.u.of_block (hb.block _ h.u.lt), h.f.of_block (hb.block _ h.f.lt), h.a.of_block (hb.block _ h.a.lt), h.s.of_block (hb.block _ h.s.lt), h.o.of_block (hb.block _ h.o.lt), h.lt⟩
theorem NewW.arg {w : World} {base gu gf ga gs go : Nat} {x : KW} (h : NewW w base gu gf ga gs go x) : ArgW w (nwp gu gf ga gs go x) x :=
  ⟨.inr ⟨gu, 0, rfl, h.u.lt, rowU_is rfl h.u⟩, .inr ⟨gf, 0, rfl, h.f.lt, rowF_is rfl h.f⟩, .inr ⟨ga, 0, rfl, h.a.lt, rowA_is rfl h.a⟩, .inr ⟨gs, 0, rfl, h.s.lt, rowS_is rfl h.s⟩, .inr ⟨go, 0, rfl, h.o.lt, rowO_is rfl h.o⟩⟩
end Go.Proofs.Ytibkdkjcncfmgaa
