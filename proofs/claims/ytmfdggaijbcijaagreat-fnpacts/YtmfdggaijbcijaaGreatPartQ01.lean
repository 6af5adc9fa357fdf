/- Texts of mine put together (a claim holds at most 60 files): RowsA, RowS, RowsS, RowO, RowsO, WorldRows. -/
import Derived.Test.YtmfdggaijbcijaaGreatPartQ00
import Derived.Deep.Strs
import Derived.Test.YtmfdggaijbcijaaGreatRows
import Derived.WalkKit
import Derived.ProofKit
import Derived.OpenShut
import Derived.ShutString
import Derived.WalkLawsBesides
import Derived.ChangeOld
import Derived.Below
import Derived.OwnWalk
import Derived.Deep.OwnRows
import Derived.Deep.QuietTactic
import Derived.BigQuiet
import Derived.Deep.Light
import Derived.Laws.StructEq
import Derived.Laws.MakeOwn
import Derived.Deep.Slices

/- RowsA -/
/- Contracts of the exact laws' own helpers on faction and lists of them, and what such a list that came in is. Condition: the lists have at most 1048576 members. -/
section
namespace Go.Proofs.YtmfdggaijbcijaaGreat
open Go.ChangeShapes Go.WideShapes Go.ChangeAt Go.RowKit
set_option linter.unusedVariables false

theorem rowA_is {w : World} {g : Nat} {l : List KA} {m : Nat} {t : TypeId} (hl : l.length = m) (hrow : w.rowIs g t (m * 3) (rowA l m)) : AAt w g 0 l := fun i x hi f hf => by
  have hlt : i < m := by rw [← hl]; exact (List.getElem?_eq_some_iff.1 hi).1
  have hg : l.getD i KA.z = x := by rw [List.getD_eq_getElem?_getD, hi]; rfl
  rw [hrow.cell (by omega)]
  unfold rowA
  rw [if_pos (by omega), show (0 + i * 3 + f) / 3 = i from by omega, show (0 + i * 3 + f) % 3 = f from by omega, hg]
end Go.Proofs.YtmfdggaijbcijaaGreat
end

/- RowS -/
/- Lists of seat in memory. No condition. -/
section
namespace Go.Proofs.YtmfdggaijbcijaaGreat
open Go.ChangeShapes Go.WideShapes Go.ChangeAt Go.RowKit
set_option linter.unusedVariables false

structure K4 where
  c0 : Int
  c1 : Int
  c2 : Int
  c3 : Int
def K4.z : K4 := ⟨0, 0, 0, 0⟩
def K4.f (x : K4) (i : Nat) : Value := if i = 0 then .int .i64 x.c0 else if i = 1 then .int .i64 x.c1 else if i = 2 then .int .i64 x.c2 else .int .i64 x.c3
abbrev K4.v (x : K4) : Array Value := #[.int .i64 x.c0, .int .i64 x.c1, .int .i64 x.c2, .int .i64 x.c3]
def K4.b (x y : K4) : Bool := x.c0 == y.c0 && (x.c1 == y.c1 && (x.c2 == y.c2 && (x.c3 == y.c3)))
theorem K4.b_self (x : K4) : x.b x = true := by unfold K4.b; simp
theorem K4.b_eq {x y : K4} (h : x.b y = true) : x = y := by
  unfold K4.b at h
  simp at h
  cases x; cases y
  simp_all
/- such structs in memory, from place off of block g on -/
def SAt (w : World) (g off : Nat) (l : List K4) : Prop := ∀ i x, l[i]? = some x → ∀ f, f < 4 → w.cell? ⟨g, off + i * 4 + f, none⟩ = some (x.f f)
theorem SAt.all {w : World} {g off : Nat} {l : List K4} (h : SAt w g off l) {i : Nat} {x : K4} (hi : l[i]? = some x) :
    w.cell? ⟨g, off + i * 4, none⟩ = some (.int .i64 x.c0) ∧ w.cell? ⟨g, off + i * 4 + 1, none⟩ = some (.int .i64 x.c1) ∧ w.cell? ⟨g, off + i * 4 + 2, none⟩ = some (.int .i64 x.c2) ∧ w.cell? ⟨g, off + i * 4 + 3, none⟩ = some (.int .i64 x.c3) :=
  ⟨h i x hi 0 (by omega), h i x hi 1 (by omega), h i x hi 2 (by omega), h i x hi 3 (by omega)⟩
theorem SAt.later {w w' : World} {g off : Nat} {l : List K4} (h : SAt w g off l) (hg : g < w.heap.size) (hb : Below w.heap.size w w') : SAt w' g off l := fun i x hi f hf => by rw [hb.cell hg]; exact h i x hi f hf
/- one such struct in memory, at place off of block g -/
structure S1 (w : World) (g off : Nat) (x : K4) : Prop where
  c0 : w.cell? ⟨g, off, none⟩ = some (.int .i64 x.c0)
  c1 : w.cell? ⟨g, off + 1, none⟩ = some (.int .i64 x.c1)
  c2 : w.cell? ⟨g, off + 2, none⟩ = some (.int .i64 x.c2)
  c3 : w.cell? ⟨g, off + 3, none⟩ = some (.int .i64 x.c3)
  lt : g < w.heap.size
theorem SAt.one {w : World} {g off : Nat} {l : List K4} (h : SAt w g off l) (hg : g < w.heap.size) {i : Nat} {x : K4} (hi : l[i]? = some x) : S1 w g (off + i * 4) x :=
  ⟨h i x hi 0 (by omega), h i x hi 1 (by omega), h i x hi 2 (by omega), h i x hi 3 (by omega), hg⟩
theorem S1.later {w w' : World} {g off : Nat} {x : K4} (h : S1 w g off x) (hb : Below w.heap.size w w') : S1 w' g off x :=
  ⟨by rw [hb.cell h.lt]; exact h.c0, by rw [hb.cell h.lt]; exact h.c1, by rw [hb.cell h.lt]; exact h.c2, by rw [hb.cell h.lt]; exact h.c3, Nat.lt_of_lt_of_le h.lt hb.size⟩
theorem S1.new (w : World) (x : K4) (t : TypeId) : S1 (w.alloc (.cells x.v t)) w.heap.size 0 x :=
  ⟨cell_new _ _ _ _ _ rfl, cell_new _ _ _ _ _ rfl, cell_new _ _ _ _ _ rfl, cell_new _ _ _ _ _ rfl, by rw [size_new]; omega⟩
set_option maxHeartbeats 1000000 in
theorem neqS (x y : K4) (w : World) : (binOp .neq 88 (.agg x.v) (.agg y.v)).run Tryz.prog w = .ok (.bool (!x.b y)) w := by
  rw [run_neq_struct, show (10000 : Nat) = 9999 + 1 from rfl, run_equalIn_agg w 9999 88 _ _ (by kernel_rfl) (by kernel_rfl)]
  simp only [Program.fieldsOf, Tryz.underlying88]
  unfold K4.b
  cases h0 : x.c0 == y.c0
  · go_simp; try rfl
  cases h1 : x.c1 == y.c1
  · go_simp; try rfl
  cases h2 : x.c2 == y.c2
  · go_simp; try rfl
  cases h3 : x.c3 == y.c3
  · go_simp; try rfl
  go_simp
  try rfl
/- are both lists the same -/
def allS : List K4 → List K4 → Bool
  | [], [] => true
  | x :: l, y :: l' => x.b y && allS l l'
  | _, _ => false
theorem infoS : (Tryz.prog.info? 88).map (fun i => (i.zero, i.size, i.bytes)) = some (some (.agg K4.z.v), 4, 32) := by kernel_rfl
def rowS (l : List K4) (k : Nat) (j : Nat) : Value := if j < k * 4 then (l.getD (j / 4) K4.z).f (j % 4) else K4.z.f (j % 4)
/- a list that came in -/
def ArgS (w : World) (a : Option Addr) (l : List K4) : Prop := l = [] ∨ ∃ b off, a = some ⟨b, off, none⟩ ∧ b < w.heap.size ∧ SAt w b off l
theorem ArgS.later {w w' : World} {a : Option Addr} {l : List K4} (h : ArgS w a l) (hb : Below w.heap.size w w') : ArgS w' a l := by
  rcases h with h | ⟨b, off, h1, h2, h3⟩
  · exact .inl h
  · exact .inr ⟨b, off, h1, Nat.lt_of_lt_of_le h2 hb.size, h3.later h2 hb⟩
end Go.Proofs.YtmfdggaijbcijaaGreat
end

/- RowsS -/
/- Contracts of the exact laws' own helpers on seat and lists of them, and what such a list that came in is. Condition: the lists have at most 1048576 members. -/
section
namespace Go.Proofs.YtmfdggaijbcijaaGreat
open Go.ChangeShapes Go.WideShapes Go.ChangeAt Go.RowKit
set_option linter.unusedVariables false

theorem rowS_is {w : World} {g : Nat} {l : List K4} {m : Nat} {t : TypeId} (hl : l.length = m) (hrow : w.rowIs g t (m * 4) (rowS l m)) : SAt w g 0 l := fun i x hi f hf => by
  have hlt : i < m := by rw [← hl]; exact (List.getElem?_eq_some_iff.1 hi).1
  have hg : l.getD i K4.z = x := by rw [List.getD_eq_getElem?_getD, hi]; rfl
  rw [hrow.cell (by omega)]
  unfold rowS
  rw [if_pos (by omega), show (0 + i * 4 + f) / 4 = i from by omega, show (0 + i * 4 + f) % 4 = f from by omega, hg]
end Go.Proofs.YtmfdggaijbcijaaGreat
end

/- RowO -/
/- Lists of offer in memory. No condition. -/
section
namespace Go.Proofs.YtmfdggaijbcijaaGreat
open Go.ChangeShapes Go.WideShapes Go.ChangeAt Go.RowKit
set_option linter.unusedVariables false

structure K2 where
  c0 : Int
  c1 : Int
def K2.z : K2 := ⟨0, 0⟩
def K2.f (x : K2) (i : Nat) : Value := if i = 0 then .int .i64 x.c0 else .int .i64 x.c1
abbrev K2.v (x : K2) : Array Value := #[.int .i64 x.c0, .int .i64 x.c1]
def K2.b (x y : K2) : Bool := x.c0 == y.c0 && (x.c1 == y.c1)
theorem K2.b_self (x : K2) : x.b x = true := by unfold K2.b; simp
theorem K2.b_eq {x y : K2} (h : x.b y = true) : x = y := by
  unfold K2.b at h
  simp at h
  cases x; cases y
  simp_all
/- such structs in memory, from place off of block g on -/
def OAt (w : World) (g off : Nat) (l : List K2) : Prop := ∀ i x, l[i]? = some x → ∀ f, f < 2 → w.cell? ⟨g, off + i * 2 + f, none⟩ = some (x.f f)
theorem OAt.all {w : World} {g off : Nat} {l : List K2} (h : OAt w g off l) {i : Nat} {x : K2} (hi : l[i]? = some x) :
    w.cell? ⟨g, off + i * 2, none⟩ = some (.int .i64 x.c0) ∧ w.cell? ⟨g, off + i * 2 + 1, none⟩ = some (.int .i64 x.c1) :=
  ⟨h i x hi 0 (by omega), h i x hi 1 (by omega)⟩
theorem OAt.later {w w' : World} {g off : Nat} {l : List K2} (h : OAt w g off l) (hg : g < w.heap.size) (hb : Below w.heap.size w w') : OAt w' g off l := fun i x hi f hf => by rw [hb.cell hg]; exact h i x hi f hf
/- one such struct in memory, at place off of block g -/
structure O1 (w : World) (g off : Nat) (x : K2) : Prop where
  c0 : w.cell? ⟨g, off, none⟩ = some (.int .i64 x.c0)
  c1 : w.cell? ⟨g, off + 1, none⟩ = some (.int .i64 x.c1)
  lt : g < w.heap.size
theorem OAt.one {w : World} {g off : Nat} {l : List K2} (h : OAt w g off l) (hg : g < w.heap.size) {i : Nat} {x : K2} (hi : l[i]? = some x) : O1 w g (off + i * 2) x :=
  ⟨h i x hi 0 (by omega), h i x hi 1 (by omega), hg⟩
theorem O1.later {w w' : World} {g off : Nat} {x : K2} (h : O1 w g off x) (hb : Below w.heap.size w w') : O1 w' g off x :=
  ⟨by rw [hb.cell h.lt]; exact h.c0, by rw [hb.cell h.lt]; exact h.c1, Nat.lt_of_lt_of_le h.lt hb.size⟩
theorem O1.new (w : World) (x : K2) (t : TypeId) : O1 (w.alloc (.cells x.v t)) w.heap.size 0 x :=
  ⟨cell_new _ _ _ _ _ rfl, cell_new _ _ _ _ _ rfl, by rw [size_new]; omega⟩
set_option maxHeartbeats 1000000 in
theorem neqO (x y : K2) (w : World) : (binOp .neq 49 (.agg x.v) (.agg y.v)).run Tryz.prog w = .ok (.bool (!x.b y)) w := by
  rw [run_neq_struct, show (10000 : Nat) = 9999 + 1 from rfl, run_equalIn_agg w 9999 49 _ _ (by kernel_rfl) (by kernel_rfl)]
  simp only [Program.fieldsOf, Tryz.underlying49]
  unfold K2.b
  cases h0 : x.c0 == y.c0
  · go_simp; try rfl
  cases h1 : x.c1 == y.c1
  · go_simp; try rfl
  go_simp
  try rfl
/- are both lists the same -/
def allO : List K2 → List K2 → Bool
  | [], [] => true
  | x :: l, y :: l' => x.b y && allO l l'
  | _, _ => false
theorem infoO : (Tryz.prog.info? 49).map (fun i => (i.zero, i.size, i.bytes)) = some (some (.agg K2.z.v), 2, 16) := by kernel_rfl
def rowO (l : List K2) (k : Nat) (j : Nat) : Value := if j < k * 2 then (l.getD (j / 2) K2.z).f (j % 2) else K2.z.f (j % 2)
/- a list that came in -/
def ArgO (w : World) (a : Option Addr) (l : List K2) : Prop := l = [] ∨ ∃ b off, a = some ⟨b, off, none⟩ ∧ b < w.heap.size ∧ OAt w b off l
theorem ArgO.later {w w' : World} {a : Option Addr} {l : List K2} (h : ArgO w a l) (hb : Below w.heap.size w w') : ArgO w' a l := by
  rcases h with h | ⟨b, off, h1, h2, h3⟩
  · exact .inl h
  · exact .inr ⟨b, off, h1, Nat.lt_of_lt_of_le h2 hb.size, h3.later h2 hb⟩
end Go.Proofs.YtmfdggaijbcijaaGreat
end

/- RowsO -/
/- Contracts of the exact laws' own helpers on offer and lists of them, and what such a list that came in is. Condition: the lists have at most 1048576 members. -/
section
namespace Go.Proofs.YtmfdggaijbcijaaGreat
open Go.ChangeShapes Go.WideShapes Go.ChangeAt Go.RowKit
set_option linter.unusedVariables false

theorem rowO_is {w : World} {g : Nat} {l : List K2} {m : Nat} {t : TypeId} (hl : l.length = m) (hrow : w.rowIs g t (m * 2) (rowO l m)) : OAt w g 0 l := fun i x hi f hf => by
  have hlt : i < m := by rw [← hl]; exact (List.getElem?_eq_some_iff.1 hi).1
  have hg : l.getD i K2.z = x := by rw [List.getD_eq_getElem?_getD, hi]; rfl
  rw [hrow.cell (by omega)]
  unfold rowO
  rw [if_pos (by omega), show (0 + i * 2 + f) / 2 = i from by omega, show (0 + i * 2 + f) % 2 = f from by omega, hg]
end Go.Proofs.YtmfdggaijbcijaaGreat
end

/- WorldRows -/
/- Worlds in memory: seven cells, five lists. No condition. -/
section
namespace Go.Proofs.YtmfdggaijbcijaaGreat
open Go.ChangeShapes Go.WideShapes Go.ChangeAt Go.RowKit
set_option linter.unusedVariables false

/- a world: two numbers, five lists -/
structure KW where
  t : Int
  s : Int
  us : List K10
  fs : List K3
  fa : List KA
  se : List K4
  oo : List K2
def KW.n (x : KW) : Nat := x.us.length + x.fs.length + x.fa.length + x.se.length + x.oo.length
/- where its lists lie, and their room -/
structure WP where
  u : Option Addr
  uc : Nat
  f : Option Addr
  fc : Nat
  a : Option Addr
  ac : Nat
  s : Option Addr
  sc : Nat
  o : Option Addr
  oc : Nat
abbrev wv (t s : Int) (u : Option Addr) (um uc : Nat) (f : Option Addr) (fm fc : Nat) (a : Option Addr) (am ac : Nat) (se : Option Addr) (sm sc : Nat) (o : Option Addr) (om oc : Nat) : Array Value :=
  #[.int .i64 t, .int .i64 s, .slice u um uc, .slice f fm fc, .slice a am ac, .slice se sm sc, .slice o om oc]
abbrev WP.v (p : WP) (x : KW) : Array Value := wv x.t x.s p.u x.us.length p.uc p.f x.fs.length p.fc p.a x.fa.length p.ac p.s x.se.length p.sc p.o x.oo.length p.oc
structure ArgW (w : World) (p : WP) (x : KW) : Prop where
  u : ArgU w p.u x.us
  f : ArgF w p.f x.fs
  a : ArgA w p.a x.fa
  s : ArgS w p.s x.se
  o : ArgO w p.o x.oo
theorem ArgW.later {w w' : World} {p : WP} {x : KW} (h : ArgW w p x) (hb : Below w.heap.size w w') : ArgW w' p x := ⟨h.u.later hb, h.f.later hb, h.a.later hb, h.s.later hb, h.o.later hb⟩
/- a block of memory is these cells -/
def Bk (w : World) (g : Nat) (cs : Array Value) (t : TypeId) : Prop := w.heap[g]? = some (Obj.cells cs t (0, 0))
theorem Bk.lt {w : World} {g : Nat} {cs : Array Value} {t : TypeId} (h : Bk w g cs t) : g < w.heap.size := (Array.getElem?_eq_some_iff.1 h).1
theorem Bk.cell {w : World} {g : Nat} {cs : Array Value} {t : TypeId} (h : Bk w g cs t) {i : Nat} {v : Value} (hi : cs[i]? = some v) : w.cell? ⟨g, i, none⟩ = some v := by
  unfold Bk at h
  simp [World.cell?, h, hi]
theorem Bk.frozen {w : World} {g : Nat} {cs : Array Value} {t : TypeId} (h : Bk w g cs t) (i : Nat) : w.frozen? ⟨g, i, none⟩ = false := by
  unfold Bk at h
  simp [World.frozen?, h]
theorem Bk.below {w w' : World} {g : Nat} {cs : Array Value} {t : TypeId} (h : Bk w g cs t) (hb : Below w.heap.size w w') : Bk w' g cs t := by
  unfold Bk; rw [hb.block g h.lt]; exact h
theorem Bk.new (w : World) (cs : Array Value) (t : TypeId) : Bk (w.alloc (.cells cs t)) w.heap.size cs t := by
  show (w.heap.push _)[w.heap.size]? = _
  simp
theorem Bk.alloc {w : World} {g : Nat} {cs : Array Value} {t : TypeId} (h : Bk w g cs t) (o : Obj) : Bk (w.alloc o) g cs t := h.below ((Below.refl _ _).alloc (Nat.le_refl _) o)
theorem Bk.set {w : World} {g : Nat} {cs : Array Value} {t : TypeId} (h : Bk w g cs t) (i : Nat) (v : Value) : Bk (w.setCell ⟨g, i, none⟩ v) g (cs.setIfInBounds i v) t := by
  unfold Bk at *
  simp [World.setCell, Array.getElem?_modify, h]
theorem Bk.setOther {w : World} {g : Nat} {cs : Array Value} {t : TypeId} (h : Bk w g cs t) {a : Addr} (ha : g ≠ a.block) (v : Value) : Bk (w.setCell a v) g cs t := by
  unfold Bk at *
  rw [Below.heap_setCell _ _ _ _ ha]; exact h
/- the seven cells of a world, from place o of block g on -/
structure W7 (w : World) (g o : Nat) (p : WP) (x : KW) : Prop where
  c0 : w.cell? ⟨g, o, none⟩ = some (.int .i64 x.t)
  c1 : w.cell? ⟨g, o + 1, none⟩ = some (.int .i64 x.s)
  c2 : w.cell? ⟨g, o + 2, none⟩ = some (.slice p.u x.us.length p.uc)
  c3 : w.cell? ⟨g, o + 3, none⟩ = some (.slice p.f x.fs.length p.fc)
  c4 : w.cell? ⟨g, o + 4, none⟩ = some (.slice p.a x.fa.length p.ac)
  c5 : w.cell? ⟨g, o + 5, none⟩ = some (.slice p.s x.se.length p.sc)
  c6 : w.cell? ⟨g, o + 6, none⟩ = some (.slice p.o x.oo.length p.oc)
  lt : g < w.heap.size
theorem W7.later {w w' : World} {g o : Nat} {p : WP} {x : KW} (h : W7 w g o p x) (hb : Below w.heap.size w w') : W7 w' g o p x :=
  ⟨by rw [hb.cell h.lt]; exact h.c0, by rw [hb.cell h.lt]; exact h.c1, by rw [hb.cell h.lt]; exact h.c2, by rw [hb.cell h.lt]; exact h.c3, by rw [hb.cell h.lt]; exact h.c4, by rw [hb.cell h.lt]; exact h.c5, by rw [hb.cell h.lt]; exact h.c6, Nat.lt_of_lt_of_le h.lt hb.size⟩
theorem W7.new (w : World) (p : WP) (x : KW) (t : TypeId) : W7 (w.alloc (.cells (p.v x) t)) w.heap.size 0 p x :=
  ⟨cell_new _ _ _ _ _ rfl, cell_new _ _ _ _ _ rfl, cell_new _ _ _ _ _ rfl, cell_new _ _ _ _ _ rfl, cell_new _ _ _ _ _ rfl, cell_new _ _ _ _ _ rfl, cell_new _ _ _ _ _ rfl, by rw [size_new]; omega⟩
theorem Bk.w7 {w : World} {g : Nat} {p : WP} {x : KW} {t : TypeId} (h : Bk w g (p.v x) t) : W7 w g 0 p x :=
  ⟨h.cell rfl, h.cell rfl, h.cell rfl, h.cell rfl, h.cell rfl, h.cell rfl, h.cell rfl, h.lt⟩
/- five new lists of a world -/
structure NewW (w : World) (base gu gf ga gs go : Nat) (x : KW) : Prop where
  u : w.rowIs gu 113 (x.us.length * 10) (rowU x.us x.us.length)
  f : w.rowIs gf 118 (x.fs.length * 3) (rowF x.fs x.fs.length)
  a : w.rowIs ga 64 (x.fa.length * 3) (rowA x.fa x.fa.length)
  s : w.rowIs gs 88 (x.se.length * 4) (rowS x.se x.se.length)
  o : w.rowIs go 49 (x.oo.length * 2) (rowO x.oo x.oo.length)
  lt : gu < gf
def nwp (gu gf ga gs go : Nat) (x : KW) : WP := ⟨some ⟨gu, 0, none⟩, x.us.length, some ⟨gf, 0, none⟩, x.fs.length, some ⟨ga, 0, none⟩, x.fa.length, some ⟨gs, 0, none⟩, x.se.length, some ⟨go, 0, none⟩, x.oo.length⟩
theorem NewW.later {w w' : World} {base gu gf ga gs go : Nat} {x : KW} (h : NewW w base gu gf ga gs go x) (hb : Below w.heap.size w w') : NewW w' base gu gf ga gs go x :=
  ⟨h.u.of_block (hb.block _ h.u.lt), h.f.of_block (hb.block _ h.f.lt), h.a.of_block (hb.block _ h.a.lt), h.s.of_block (hb.block _ h.s.lt), h.o.of_block (hb.block _ h.o.lt), h.lt⟩
theorem NewW.arg {w : World} {base gu gf ga gs go : Nat} {x : KW} (h : NewW w base gu gf ga gs go x) : ArgW w (nwp gu gf ga gs go x) x :=
  ⟨.inr ⟨gu, 0, rfl, h.u.lt, rowU_is rfl h.u⟩, .inr ⟨gf, 0, rfl, h.f.lt, rowF_is rfl h.f⟩, .inr ⟨ga, 0, rfl, h.a.lt, rowA_is rfl h.a⟩, .inr ⟨gs, 0, rfl, h.s.lt, rowS_is rfl h.s⟩, .inr ⟨go, 0, rfl, h.o.lt, rowO_is rfl h.o⟩⟩
end Go.Proofs.YtmfdggaijbcijaaGreat
end
