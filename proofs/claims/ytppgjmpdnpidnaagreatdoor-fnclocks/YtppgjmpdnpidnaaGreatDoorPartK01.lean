/- Texts of mine put together (a claim holds at most 60 files): RowS, RowsS, RowO, RowsO, WorldRows, BrdNums, RightWalks, WfPlain. -/
import Derived.Test.YtppgjmpdnpidnaaGreatDoorRows
import Derived.WalkKit
import Derived.ProofKit
import Derived.OpenShut
import Derived.ShutString
import Derived.WalkLawsBesides
import Derived.ChangeOld
import Derived.Below
import Derived.OwnWalk
import Derived.Deep.OwnRows
import Derived.Deep.QuietTactic
import Derived.BigQuiet
import Derived.Deep.Light
import Derived.Laws.StructEq
import Derived.Laws.MakeOwn
import Derived.Deep.Slices
import Derived.Test.YtppgjmpdnpidnaaGreatDoorPartK00
import Derived.Deep.Strs
import Derived.Laws.BitsLemmas

/- RowS -/
/- Lists of seat in memory. No condition. -/
section
namespace Go.Proofs.YtppgjmpdnpidnaaGreatDoor
open Go.ChangeShapes Go.WideShapes Go.ChangeAt Go.RowKit
set_option linter.unusedVariables false

structure K4 where
  c0 : Int
  c1 : Int
  c2 : Int
  c3 : Int
def K4.z : K4 := ⟨0, 0, 0, 0⟩
def K4.f (x : K4) (i : Nat) : Value := if i = 0 then .int .i64 x.c0 else if i = 1 then .int .i64 x.c1 else if i = 2 then .int .i64 x.c2 else .int .i64 x.c3
abbrev K4.v (x : K4) : Array Value := #[.int .i64 x.c0, .int .i64 x.c1, .int .i64 x.c2, .int .i64 x.c3]
def K4.b (x y : K4) : Bool := x.c0 == y.c0 && (x.c1 == y.c1 && (x.c2 == y.c2 && (x.c3 == y.c3)))
theorem K4.b_self (x : K4) : x.b x = true := by unfold K4.b; simp
/- such structs in memory, from place off of block g on -/
def SAt (w : World) (g off : Nat) (l : List K4) : Prop := ∀ i x, l[i]? = some x → ∀ f, f < 4 → w.cell? ⟨g, off + i * 4 + f, none⟩ = some (x.f f)
theorem SAt.all {w : World} {g off : Nat} {l : List K4} (h : SAt w g off l) {i : Nat} {x : K4} (hi : l[i]? = some x) :
    w.cell? ⟨g, off + i * 4, none⟩ = some (.int .i64 x.c0) ∧ w.cell? ⟨g, off + i * 4 + 1, none⟩ = some (.int .i64 x.c1) ∧ w.cell? ⟨g, off + i * 4 + 2, none⟩ = some (.int .i64 x.c2) ∧ w.cell? ⟨g, off + i * 4 + 3, none⟩ = some (.int .i64 x.c3) :=
  ⟨h i x hi 0 (by omega), h i x hi 1 (by omega), h i x hi 2 (by omega), h i x hi 3 (by omega)⟩
theorem SAt.later {w w' : World} {g off : Nat} {l : List K4} (h : SAt w g off l) (hg : g < w.heap.size) (hb : Below w.heap.size w w') : SAt w' g off l := fun i x hi f hf => by rw [hb.cell hg]; exact h i x hi f hf
/- one such struct in memory, at place off of block g -/
structure S1 (w : World) (g off : Nat) (x : K4) : Prop where
  c0 : w.cell? ⟨g, off, none⟩ = some (.int .i64 x.c0)
  c1 : w.cell? ⟨g, off + 1, none⟩ = some (.int .i64 x.c1)
  c2 : w.cell? ⟨g, off + 2, none⟩ = some (.int .i64 x.c2)
  c3 : w.cell? ⟨g, off + 3, none⟩ = some (.int .i64 x.c3)
  lt : g < w.heap.size
theorem SAt.one {w : World} {g off : Nat} {l : List K4} (h : SAt w g off l) (hg : g < w.heap.size) {i : Nat} {x : K4} (hi : l[i]? = some x) : S1 w g (off + i * 4) x :=
  ⟨h i x hi 0 (by omega), h i x hi 1 (by omega), h i x hi 2 (by omega), h i x hi 3 (by omega), hg⟩
theorem S1.later {w w' : World} {g off : Nat} {x : K4} (h : S1 w g off x) (hb : Below w.heap.size w w') : S1 w' g off x :=
  ⟨by rw [hb.cell h.lt]; exact h.c0, by rw [hb.cell h.lt]; exact h.c1, by rw [hb.cell h.lt]; exact h.c2, by rw [hb.cell h.lt]; exact h.c3, Nat.lt_of_lt_of_le h.lt hb.size⟩
theorem S1.new (w : World) (x : K4) (t : TypeId) : S1 (w.alloc (.cells x.v t)) w.heap.size 0 x :=
  ⟨cell_new _ _ _ _ _ rfl, cell_new _ _ _ _ _ rfl, cell_new _ _ _ _ _ rfl, cell_new _ _ _ _ _ rfl, by rw [size_new]; omega⟩
/- are both lists the same -/
def allS : List K4 → List K4 → Bool
  | [], [] => true
  | x :: l, y :: l' => x.b y && allS l l'
  | _, _ => false
theorem infoS : (Tryz.prog.info? 87).map (fun i => (i.zero, i.size, i.bytes)) = some (some (.agg K4.z.v), 4, 32) := by kernel_rfl
def rowS (l : List K4) (k : Nat) (j : Nat) : Value := if j < k * 4 then (l.getD (j / 4) K4.z).f (j % 4) else K4.z.f (j % 4)
/- a list that came in -/
def ArgS (w : World) (a : Option Addr) (l : List K4) : Prop := l = [] ∨ ∃ b off, a = some ⟨b, off, none⟩ ∧ b < w.heap.size ∧ SAt w b off l
theorem ArgS.later {w w' : World} {a : Option Addr} {l : List K4} (h : ArgS w a l) (hb : Below w.heap.size w w') : ArgS w' a l := by
  rcases h with h | ⟨b, off, h1, h2, h3⟩
  · exact .inl h
  · exact .inr ⟨b, off, h1, Nat.lt_of_lt_of_le h2 hb.size, h3.later h2 hb⟩
end Go.Proofs.YtppgjmpdnpidnaaGreatDoor
end

/- RowsS -/
/- Contracts of the exact laws' own helpers on seat and lists of them, and what such a list that came in is. Condition: the lists have at most 1048576 members. -/
section
namespace Go.Proofs.YtppgjmpdnpidnaaGreatDoor
open Go.ChangeShapes Go.WideShapes Go.ChangeAt Go.RowKit
set_option linter.unusedVariables false

theorem rowS_is {w : World} {g : Nat} {l : List K4} {m : Nat} {t : TypeId} (hl : l.length = m) (hrow : w.rowIs g t (m * 4) (rowS l m)) : SAt w g 0 l := fun i x hi f hf => by
  have hlt : i < m := by rw [← hl]; exact (List.getElem?_eq_some_iff.1 hi).1
  have hg : l.getD i K4.z = x := by rw [List.getD_eq_getElem?_getD, hi]; rfl
  rw [hrow.cell (by omega)]
  unfold rowS
  rw [if_pos (by omega), show (0 + i * 4 + f) / 4 = i from by omega, show (0 + i * 4 + f) % 4 = f from by omega, hg]
end Go.Proofs.YtppgjmpdnpidnaaGreatDoor
end

/- RowO -/
/- Lists of offer in memory. No condition. -/
section
namespace Go.Proofs.YtppgjmpdnpidnaaGreatDoor
open Go.ChangeShapes Go.WideShapes Go.ChangeAt Go.RowKit
set_option linter.unusedVariables false

structure K2 where
  c0 : Int
  c1 : Int
def K2.z : K2 := ⟨0, 0⟩
def K2.f (x : K2) (i : Nat) : Value := if i = 0 then .int .i64 x.c0 else .int .i64 x.c1
abbrev K2.v (x : K2) : Array Value := #[.int .i64 x.c0, .int .i64 x.c1]
def K2.b (x y : K2) : Bool := x.c0 == y.c0 && (x.c1 == y.c1)
theorem K2.b_self (x : K2) : x.b x = true := by unfold K2.b; simp
/- such structs in memory, from place off of block g on -/
def OAt (w : World) (g off : Nat) (l : List K2) : Prop := ∀ i x, l[i]? = some x → ∀ f, f < 2 → w.cell? ⟨g, off + i * 2 + f, none⟩ = some (x.f f)
theorem OAt.all {w : World} {g off : Nat} {l : List K2} (h : OAt w g off l) {i : Nat} {x : K2} (hi : l[i]? = some x) :
    w.cell? ⟨g, off + i * 2, none⟩ = some (.int .i64 x.c0) ∧ w.cell? ⟨g, off + i * 2 + 1, none⟩ = some (.int .i64 x.c1) :=
  ⟨h i x hi 0 (by omega), h i x hi 1 (by omega)⟩
theorem OAt.later {w w' : World} {g off : Nat} {l : List K2} (h : OAt w g off l) (hg : g < w.heap.size) (hb : Below w.heap.size w w') : OAt w' g off l := fun i x hi f hf => by rw [hb.cell hg]; exact h i x hi f hf
/- one such struct in memory, at place off of block g -/
structure O1 (w : World) (g off : Nat) (x : K2) : Prop where
  c0 : w.cell? ⟨g, off, none⟩ = some (.int .i64 x.c0)
  c1 : w.cell? ⟨g, off + 1, none⟩ = some (.int .i64 x.c1)
  lt : g < w.heap.size
theorem OAt.one {w : World} {g off : Nat} {l : List K2} (h : OAt w g off l) (hg : g < w.heap.size) {i : Nat} {x : K2} (hi : l[i]? = some x) : O1 w g (off + i * 2) x :=
  ⟨h i x hi 0 (by omega), h i x hi 1 (by omega), hg⟩
theorem O1.later {w w' : World} {g off : Nat} {x : K2} (h : O1 w g off x) (hb : Below w.heap.size w w') : O1 w' g off x :=
  ⟨by rw [hb.cell h.lt]; exact h.c0, by rw [hb.cell h.lt]; exact h.c1, Nat.lt_of_lt_of_le h.lt hb.size⟩
theorem O1.new (w : World) (x : K2) (t : TypeId) : O1 (w.alloc (.cells x.v t)) w.heap.size 0 x :=
  ⟨cell_new _ _ _ _ _ rfl, cell_new _ _ _ _ _ rfl, by rw [size_new]; omega⟩
/- are both lists the same -/
def allO : List K2 → List K2 → Bool
  | [], [] => true
  | x :: l, y :: l' => x.b y && allO l l'
  | _, _ => false
theorem infoO : (Tryz.prog.info? 85).map (fun i => (i.zero, i.size, i.bytes)) = some (some (.agg K2.z.v), 2, 16) := by kernel_rfl
def rowO (l : List K2) (k : Nat) (j : Nat) : Value := if j < k * 2 then (l.getD (j / 2) K2.z).f (j % 2) else K2.z.f (j % 2)
/- a list that came in -/
def ArgO (w : World) (a : Option Addr) (l : List K2) : Prop := l = [] ∨ ∃ b off, a = some ⟨b, off, none⟩ ∧ b < w.heap.size ∧ OAt w b off l
theorem ArgO.later {w w' : World} {a : Option Addr} {l : List K2} (h : ArgO w a l) (hb : Below w.heap.size w w') : ArgO w' a l := by
  rcases h with h | ⟨b, off, h1, h2, h3⟩
  · exact .inl h
  · exact .inr ⟨b, off, h1, Nat.lt_of_lt_of_le h2 hb.size, h3.later h2 hb⟩
end Go.Proofs.YtppgjmpdnpidnaaGreatDoor
end

/- RowsO -/
/- Contracts of the exact laws' own helpers on offer and lists of them, and what such a list that came in is. Condition: the lists have at most 1048576 members. -/
section
namespace Go.Proofs.YtppgjmpdnpidnaaGreatDoor
open Go.ChangeShapes Go.WideShapes Go.ChangeAt Go.RowKit
set_option linter.unusedVariables false

theorem rowO_is {w : World} {g : Nat} {l : List K2} {m : Nat} {t : TypeId} (hl : l.length = m) (hrow : w.rowIs g t (m * 2) (rowO l m)) : OAt w g 0 l := fun i x hi f hf => by
  have hlt : i < m := by rw [← hl]; exact (List.getElem?_eq_some_iff.1 hi).1
  have hg : l.getD i K2.z = x := by rw [List.getD_eq_getElem?_getD, hi]; rfl
  rw [hrow.cell (by omega)]
  unfold rowO
  rw [if_pos (by omega), show (0 + i * 2 + f) / 2 = i from by omega, show (0 + i * 2 + f) % 2 = f from by omega, hg]
end Go.Proofs.YtppgjmpdnpidnaaGreatDoor
end

/- WorldRows -/
/- Worlds in memory: seven cells, five lists. No condition. -/
section
namespace Go.Proofs.YtppgjmpdnpidnaaGreatDoor
open Go.ChangeShapes Go.WideShapes Go.ChangeAt Go.RowKit
set_option linter.unusedVariables false

/- a world: two numbers, five lists -/
structure KW where
  t : Int
  s : Int
  us : List K10
  fs : List K3
  fa : List KA
  se : List K4
  oo : List K2
def KW.n (x : KW) : Nat := x.us.length + x.fs.length + x.fa.length + x.se.length + x.oo.length
/- where its lists lie, and their room -/
structure WP where
  u : Option Addr
  uc : Nat
  f : Option Addr
  fc : Nat
  a : Option Addr
  ac : Nat
  s : Option Addr
  sc : Nat
  o : Option Addr
  oc : Nat
abbrev wv (t s : Int) (u : Option Addr) (um uc : Nat) (f : Option Addr) (fm fc : Nat) (a : Option Addr) (am ac : Nat) (se : Option Addr) (sm sc : Nat) (o : Option Addr) (om oc : Nat) : Array Value :=
  #[.int .i64 t, .int .i64 s, .slice u um uc, .slice f fm fc, .slice a am ac, .slice se sm sc, .slice o om oc]
abbrev WP.v (p : WP) (x : KW) : Array Value := wv x.t x.s p.u x.us.length p.uc p.f x.fs.length p.fc p.a x.fa.length p.ac p.s x.se.length p.sc p.o x.oo.length p.oc
structure ArgW (w : World) (p : WP) (x : KW) : Prop where
  u : ArgU w p.u x.us
  f : ArgF w p.f x.fs
  a : ArgA w p.a x.fa
  s : ArgS w p.s x.se
  o : ArgO w p.o x.oo
theorem ArgW.later {w w' : World} {p : WP} {x : KW} (h : ArgW w p x) (hb : Below w.heap.size w w') : ArgW w' p x := ⟨h.u.later hb, h.f.later hb, h.a.later hb, h.s.later hb, h.o.later hb⟩
/- a block of memory is these cells -/
def Bk (w : World) (g : Nat) (cs : Array Value) (t : TypeId) : Prop := w.heap[g]? = some (Obj.cells cs t (0, 0))
theorem Bk.lt {w : World} {g : Nat} {cs : Array Value} {t : TypeId} (h : Bk w g cs t) : g < w.heap.size := (Array.getElem?_eq_some_iff.1 h).1
theorem Bk.cell {w : World} {g : Nat} {cs : Array Value} {t : TypeId} (h : Bk w g cs t) {i : Nat} {v : Value} (hi : cs[i]? = some v) : w.cell? ⟨g, i, none⟩ = some v := by
  unfold Bk at h
  simp [World.cell?, h, hi]
theorem Bk.frozen {w : World} {g : Nat} {cs : Array Value} {t : TypeId} (h : Bk w g cs t) (i : Nat) : w.frozen? ⟨g, i, none⟩ = false := by
  unfold Bk at h
  simp [World.frozen?, h]
theorem Bk.below {w w' : World} {g : Nat} {cs : Array Value} {t : TypeId} (h : Bk w g cs t) (hb : Below w.heap.size w w') : Bk w' g cs t := by
  unfold Bk; rw [hb.block g h.lt]; exact h
theorem Bk.new (w : World) (cs : Array Value) (t : TypeId) : Bk (w.alloc (.cells cs t)) w.heap.size cs t := by
  show (w.heap.push _)[w.heap.size]? = _
  simp
theorem Bk.alloc {w : World} {g : Nat} {cs : Array Value} {t : TypeId} (h : Bk w g cs t) (o : Obj) : Bk (w.alloc o) g cs t := h.below ((Below.refl _ _).alloc (Nat.le_refl _) o)
theorem Bk.set {w : World} {g : Nat} {cs : Array Value} {t : TypeId} (h : Bk w g cs t) (i : Nat) (v : Value) : Bk (w.setCell ⟨g, i, none⟩ v) g (cs.setIfInBounds i v) t := by
  unfold Bk at *
  simp [World.setCell, Array.getElem?_modify, h]
theorem Bk.setOther {w : World} {g : Nat} {cs : Array Value} {t : TypeId} (h : Bk w g cs t) {a : Addr} (ha : g ≠ a.block) (v : Value) : Bk (w.setCell a v) g cs t := by
  unfold Bk at *
  rw [Below.heap_setCell _ _ _ _ ha]; exact h
/- the seven cells of a world, from place o of block g on -/
structure W7 (w : World) (g o : Nat) (p : WP) (x : KW) : Prop where
  c0 : w.cell? ⟨g, o, none⟩ = some (.int .i64 x.t)
  c1 : w.cell? ⟨g, o + 1, none⟩ = some (.int .i64 x.s)
  c2 : w.cell? ⟨g, o + 2, none⟩ = some (.slice p.u x.us.length p.uc)
  c3 : w.cell? ⟨g, o + 3, none⟩ = some (.slice p.f x.fs.length p.fc)
  c4 : w.cell? ⟨g, o + 4, none⟩ = some (.slice p.a x.fa.length p.ac)
  c5 : w.cell? ⟨g, o + 5, none⟩ = some (.slice p.s x.se.length p.sc)
  c6 : w.cell? ⟨g, o + 6, none⟩ = some (.slice p.o x.oo.length p.oc)
  lt : g < w.heap.size
theorem W7.later {w w' : World} {g o : Nat} {p : WP} {x : KW} (h : W7 w g o p x) (hb : Below w.heap.size w w') : W7 w' g o p x :=
  ⟨by rw [hb.cell h.lt]; exact h.c0, by rw [hb.cell h.lt]; exact h.c1, by rw [hb.cell h.lt]; exact h.c2, by rw [hb.cell h.lt]; exact h.c3, by rw [hb.cell h.lt]; exact h.c4, by rw [hb.cell h.lt]; exact h.c5, by rw [hb.cell h.lt]; exact h.c6, Nat.lt_of_lt_of_le h.lt hb.size⟩
theorem W7.new (w : World) (p : WP) (x : KW) (t : TypeId) : W7 (w.alloc (.cells (p.v x) t)) w.heap.size 0 p x :=
  ⟨cell_new _ _ _ _ _ rfl, cell_new _ _ _ _ _ rfl, cell_new _ _ _ _ _ rfl, cell_new _ _ _ _ _ rfl, cell_new _ _ _ _ _ rfl, cell_new _ _ _ _ _ rfl, cell_new _ _ _ _ _ rfl, by rw [size_new]; omega⟩
theorem Bk.w7 {w : World} {g : Nat} {p : WP} {x : KW} {t : TypeId} (h : Bk w g (p.v x) t) : W7 w g 0 p x :=
  ⟨h.cell rfl, h.cell rfl, h.cell rfl, h.cell rfl, h.cell rfl, h.cell rfl, h.cell rfl, h.lt⟩
/- five new lists of a world -/
structure NewW (w : World) (base gu gf ga gs go : Nat) (x : KW) : Prop where
  u : w.rowIs gu 75 (x.us.length * 10) (rowU x.us x.us.length)
  f : w.rowIs gf 78 (x.fs.length * 3) (rowF x.fs x.fs.length)
  a : w.rowIs ga 61 (x.fa.length * 3) (rowA x.fa x.fa.length)
  s : w.rowIs gs 87 (x.se.length * 4) (rowS x.se x.se.length)
  o : w.rowIs go 85 (x.oo.length * 2) (rowO x.oo x.oo.length)
  lt : gu < gf
def nwp (gu gf ga gs go : Nat) (x : KW) : WP := ⟨some ⟨gu, 0, none⟩, x.us.length, some ⟨gf, 0, none⟩, x.fs.length, some ⟨ga, 0, none⟩, x.fa.length, some ⟨gs, 0, none⟩, x.se.length, some ⟨go, 0, none⟩, x.oo.length⟩
theorem NewW.later {w w' : World} {base gu gf ga gs go : Nat} {x : KW} (h : NewW w base gu gf ga gs go x) (hb : Below w.heap.size w w') : NewW w' base gu gf ga gs go x :=
  ⟨h.u.of_block (hb.block _ h.u.lt), h.f.of_block (hb.block _ h.f.lt), h.a.of_block (hb.block _ h.a.lt), h.s.of_block (hb.block _ h.s.lt), h.o.of_block (hb.block _ h.o.lt), h.lt⟩
theorem NewW.arg {w : World} {base gu gf ga gs go : Nat} {x : KW} (h : NewW w base gu gf ga gs go x) : ArgW w (nwp gu gf ga gs go x) x :=
  ⟨.inr ⟨gu, 0, rfl, h.u.lt, rowU_is rfl h.u⟩, .inr ⟨gf, 0, rfl, h.f.lt, rowF_is rfl h.f⟩, .inr ⟨ga, 0, rfl, h.a.lt, rowA_is rfl h.a⟩, .inr ⟨gs, 0, rfl, h.s.lt, rowS_is rfl h.s⟩, .inr ⟨go, 0, rfl, h.o.lt, rowO_is rfl h.o⟩⟩
end Go.Proofs.YtppgjmpdnpidnaaGreatDoor
end

/- BrdNums -/
/- Contracts of the tests of numbers that a board is held against. No condition. -/
section
namespace Go.Proofs.YtppgjmpdnpidnaaGreatDoor
open Go.ChangeShapes Go.WideShapes Go.ChangeAt Go.RowKit
open Bd
set_option linter.unusedVariables false

theorem l1In_c (v lo hi : Int) (w : World) :
    Calls Tryz.prog 45 #[.int .i64 v, .int .i64 lo, .int .i64 hi] w fun e w' => e = .returned (.bool (inb v lo hi)) ∧ w' = w := by
  by_cases h1 : lo ≤ v
  · by_cases h2 : v ≤ hi
    · rw [inb_t h1 h2]
      go_enter Tryz.func45, Tryz.ntmps45
      go_wp2
      go_ret
      exact ⟨rfl, rfl⟩
    · rw [inb_f (by omega)]
      have d2 : decide (v ≤ hi) = false := decide_eq_false h2
      go_enter Tryz.func45, Tryz.ntmps45
      go_wp2
      go_ret
      exact ⟨rfl, rfl⟩
  · rw [inb_f (by omega)]
    have d2 : decide (lo ≤ v) = false := decide_eq_false h1
    go_enter Tryz.func45, Tryz.ntmps45
    go_wp2
    go_ret
    exact ⟨rfl, rfl⟩
theorem isId_c (v : Int) (w : World) :
    Calls Tryz.prog 85 #[.int .i64 v] w fun e w' => e = .returned (.bool (inb v 1 99)) ∧ w' = w := by
  by_cases h1 : 1 ≤ v
  · by_cases h2 : v ≤ 99
    · rw [inb_t h1 h2]
      go_enter Tryz.func85, Tryz.ntmps85
      go_wp2
      go_ret
      exact ⟨rfl, rfl⟩
    · rw [inb_f (by omega)]
      have d2 : decide (v ≤ 99) = false := decide_eq_false h2
      go_enter Tryz.func85, Tryz.ntmps85
      go_wp2
      go_ret
      exact ⟨rfl, rfl⟩
  · rw [inb_f (by omega)]
    have d2 : decide (1 ≤ v) = false := decide_eq_false h1
    go_enter Tryz.func85, Tryz.ntmps85
    go_wp2
    go_ret
    exact ⟨rfl, rfl⟩
theorem isSide_c (v : Int) (w : World) :
    Calls Tryz.prog 57 #[.int .i64 v] w fun e w' => e = .returned (.bool (inb v 0 3)) ∧ w' = w := by
  by_cases h1 : 0 ≤ v
  · by_cases h2 : v ≤ 3
    · rw [inb_t h1 h2]
      go_enter Tryz.func57, Tryz.ntmps57
      go_wp2
      go_ret
      exact ⟨rfl, rfl⟩
    · rw [inb_f (by omega)]
      have d2 : decide (v ≤ 3) = false := decide_eq_false h2
      go_enter Tryz.func57, Tryz.ntmps57
      go_wp2
      go_ret
      exact ⟨rfl, rfl⟩
  · rw [inb_f (by omega)]
    have d2 : decide (0 ≤ v) = false := decide_eq_false h1
    go_enter Tryz.func57, Tryz.ntmps57
    go_wp2
    go_ret
    exact ⟨rfl, rfl⟩
theorem isLife_c (v : Int) (w : World) :
    Calls Tryz.prog 87 #[.int .i64 v] w fun e w' => e = .returned (.bool (inb v 1 50)) ∧ w' = w := by
  by_cases h1 : 1 ≤ v
  · by_cases h2 : v ≤ 50
    · rw [inb_t h1 h2]
      go_enter Tryz.func87, Tryz.ntmps87
      go_wp2
      go_ret
      exact ⟨rfl, rfl⟩
    · rw [inb_f (by omega)]
      have d2 : decide (v ≤ 50) = false := decide_eq_false h2
      go_enter Tryz.func87, Tryz.ntmps87
      go_wp2
      go_ret
      exact ⟨rfl, rfl⟩
  · rw [inb_f (by omega)]
    have d2 : decide (1 ≤ v) = false := decide_eq_false h1
    go_enter Tryz.func87, Tryz.ntmps87
    go_wp2
    go_ret
    exact ⟨rfl, rfl⟩
theorem isCarry_c (v : Int) (w : World) :
    Calls Tryz.prog 88 #[.int .i64 v] w fun e w' => e = .returned (.bool (inb v 0 20)) ∧ w' = w := by
  by_cases h1 : 0 ≤ v
  · by_cases h2 : v ≤ 20
    · rw [inb_t h1 h2]
      go_enter Tryz.func88, Tryz.ntmps88
      go_wp2
      go_ret
      exact ⟨rfl, rfl⟩
    · rw [inb_f (by omega)]
      have d2 : decide (v ≤ 20) = false := decide_eq_false h2
      go_enter Tryz.func88, Tryz.ntmps88
      go_wp2
      go_ret
      exact ⟨rfl, rfl⟩
  · rw [inb_f (by omega)]
    have d2 : decide (0 ≤ v) = false := decide_eq_false h1
    go_enter Tryz.func88, Tryz.ntmps88
    go_wp2
    go_ret
    exact ⟨rfl, rfl⟩
theorem isOwner_c (v : Int) (w : World) :
    Calls Tryz.prog 86 #[.int .i64 v] w fun e w' => e = .returned (.bool (own v)) ∧ w' = w := by
  unfold own
  cases h : inb v 0 3
  · cases h9 : v == 9
    all_goals
      go_enter Tryz.func86, Tryz.ntmps86
      go_wp2_with (go_at_call 57; refine (isSide_c _ _).mono ?_; rintro e w' ⟨rfl, rfl⟩)
      go_ret
      exact ⟨rfl, rfl⟩
  · go_enter Tryz.func86, Tryz.ntmps86
    go_wp2_with (go_at_call 57; refine (isSide_c _ _).mono ?_; rintro e w' ⟨rfl, rfl⟩)
    go_ret
    exact ⟨rfl, rfl⟩
theorem l4Owner_c (v : Int) (w : World) :
    Calls Tryz.prog 99 #[.int .i64 v] w fun e w' => e = .returned (.bool (own v)) ∧ w' = w := by
  unfold own
  cases h : inb v 0 3
  · cases h9 : v == 9
    all_goals
      go_enter Tryz.func99, Tryz.ntmps99
      go_wp2_with (go_at_call 45; refine (l1In_c _ _ _ _).mono ?_; rintro e w' ⟨rfl, rfl⟩)
      go_ret
      exact ⟨rfl, rfl⟩
  · go_enter Tryz.func99, Tryz.ntmps99
    go_wp2_with (go_at_call 45; refine (l1In_c _ _ _ _).mono ?_; rintro e w' ⟨rfl, rfl⟩)
    go_ret
    exact ⟨rfl, rfl⟩
theorem l1Tile_c (x y : Int) (w : World) :
    Calls Tryz.prog 76 #[.int .i64 x, .int .i64 y] w fun e w' => e = .returned (.bool (tile x y)) ∧ w' = w := by
  unfold tile
  cases h : inb x 0 11
  all_goals
    go_enter Tryz.func76, Tryz.ntmps76
    go_wp2_with (go_at_call 45; refine (l1In_c _ _ _ _).mono ?_; rintro e w' ⟨rfl, rfl⟩)
    go_ret
    exact ⟨rfl, rfl⟩
theorem isTile_c (x y : Int) (w : World) :
    Calls Tryz.prog 53 #[.int .i64 x, .int .i64 y] w fun e w' => e = .returned (.bool (tile x y)) ∧ w' = w := by
  unfold tile inb
  by_cases h1 : 0 ≤ x
  · by_cases h2 : x ≤ 11
    · by_cases h3 : 0 ≤ y
      · by_cases h4 : y ≤ 11
        · rw [decide_eq_true (And.intro h1 h2), decide_eq_true (And.intro h3 h4)]
          go_enter Tryz.func53, Tryz.ntmps53
          go_wp2
          go_ret
          exact ⟨rfl, rfl⟩
        · rw [decide_eq_true (And.intro h1 h2), decide_eq_false (p := 0 ≤ y ∧ y ≤ 11) (by omega)]
          have d : decide (y ≤ 11) = false := decide_eq_false h4
          go_enter Tryz.func53, Tryz.ntmps53
          go_wp2
          go_ret
          exact ⟨rfl, rfl⟩
      · rw [decide_eq_true (And.intro h1 h2), decide_eq_false (p := 0 ≤ y ∧ y ≤ 11) (by omega)]
        have d : decide (0 ≤ y) = false := decide_eq_false h3
        go_enter Tryz.func53, Tryz.ntmps53
        go_wp2
        go_ret
        exact ⟨rfl, rfl⟩
    · rw [decide_eq_false (p := 0 ≤ x ∧ x ≤ 11) (by omega), Bool.false_and]
      have d : decide (x ≤ 11) = false := decide_eq_false h2
      go_enter Tryz.func53, Tryz.ntmps53
      go_wp2
      go_ret
      exact ⟨rfl, rfl⟩
  · rw [decide_eq_false (p := 0 ≤ x ∧ x ≤ 11) (by omega), Bool.false_and]
    have d : decide (0 ≤ x) = false := decide_eq_false h1
    go_enter Tryz.func53, Tryz.ntmps53
    go_wp2
    go_ret
    exact ⟨rfl, rfl⟩
end Go.Proofs.YtppgjmpdnpidnaaGreatDoor
end

/- RightWalks -/
/- Contracts of HasRight and of its model, and of their parts. No condition. -/
section
namespace Go.Proofs.YtppgjmpdnpidnaaGreatDoor
open Go.ChangeShapes Go.WideShapes Go.ChangeAt Go.RowKit
open Bd
set_option linter.unusedVariables false

/- has the mask that bit: as the program asks it, and as the model does -/
def hasI (m b : Int) : Bool := bits .and .i64 (m / 2 ^ b.toNat) 1 == 1
def hasS (m b : Int) : Bool := (m / 2 ^ b.toNat).tmod 2 == 1
theorem has_eq (m b : Int) (h0 : 0 ≤ m) (h1 : m ≤ 9223372036854775807) : hasI m b = hasS m b := by
  have hp : (0 : Int) < 2 ^ b.toNat := Int.pow_pos (by omega)
  have q0 : 0 ≤ m / 2 ^ b.toNat := Int.ediv_nonneg h0 (Int.le_of_lt hp)
  have q1 : m / 2 ^ b.toNat ≤ m := Int.ediv_le_self _ h0
  have h := bits_mask .i64 63 (by decide) (fun n h0 h1 => by rw [IntKind.wrap_i64]; omega) 1 (by decide) (m / 2 ^ b.toNat) q0 (by omega)
  have e : ((2 : Int) ^ 1 - 1) = 1 := by decide
  have e2 : ((2 : Int) ^ 1) = 2 := by decide
  rw [e, e2] at h
  unfold hasI hasS
  rw [h, Int.tmod_eq_emod_of_nonneg q0]
theorem hasBit_c (m b : Int) (h0 : 0 ≤ b) (h1 : b ≤ 62) (w : World) :
    Calls Tryz.prog 59 #[.int .i64 m, .int .i64 b] w fun e w' => e = .returned (.bool (hasI m b)) ∧ w' = w := by
  go_enter Tryz.func59, Tryz.ntmps59
  go_wp2
  go_ret
  exact ⟨rfl, rfl⟩
theorem l6Has_c (m b : Int) (h0 : 0 ≤ b) (h1 : b ≤ 62) (w : World) :
    Calls Tryz.prog 78 #[.int .i64 m, .int .i64 b] w fun e w' => e = .returned (.bool (hasS m b)) ∧ w' = w := by
  go_enter Tryz.func78, Tryz.ntmps78
  go_wp2
  go_ret
  exact ⟨rfl, rfl⟩
theorem isMask_c (v : Int) (w : World) :
    Calls Tryz.prog 58 #[.int .i64 v] w fun e w' => e = .returned (.bool (inb v 0 2047)) ∧ w' = w := by
  by_cases h1 : 0 ≤ v
  · by_cases h2 : v ≤ 2047
    · rw [inb_t h1 h2]
      go_enter Tryz.func58, Tryz.ntmps58
      go_wp2
      go_ret
      exact ⟨rfl, rfl⟩
    · rw [inb_f (by omega)]
      have d2 : decide (v ≤ 2047) = false := decide_eq_false h2
      go_enter Tryz.func58, Tryz.ntmps58
      go_wp2
      go_ret
      exact ⟨rfl, rfl⟩
  · rw [inb_f (by omega)]
    have d2 : decide (0 ≤ v) = false := decide_eq_false h1
    go_enter Tryz.func58, Tryz.ntmps58
    go_wp2
    go_ret
    exact ⟨rfl, rfl⟩
def hr (m k : Int) : Bool := inb k 1 11 && (inb m 0 2047 && hasS m (k - 1))
end Go.Proofs.YtppgjmpdnpidnaaGreatDoor
end

/- WfPlain -/
/- Plain functions of chapter 6 (worlds): the faults of factions, seats, offers and owners; h m b: has the mask m the bit b. No condition. -/
section
namespace Go.Proofs.YtppgjmpdnpidnaaGreatDoor
open Bd
set_option linter.unusedVariables false

/- each ally of side i (whose mask is m) is another one that has it, too; from side k on -/
def alB (h : Int → Int → Bool) (m i : Int) : Int → List KA → Bool
  | _, [] => true
  | k, g :: l => (!(h m k) || (!(k == i) && h g.c2 i)) && alB h m i (k + 1) l
/- the model's: each ally has it, too -/
def alS (h : Int → Int → Bool) (m i : Int) : Int → List KA → Bool
  | _, [] => true
  | k, g :: l => (!(h m k) || h g.c2 i) && alS h m i (k + 1) l
def faR (f : KA) : Bool := inb f.c0 0 1000000 && inb f.c2 0 15
def faG (f : KA) : Bool := f.c1 && (f.c2 != 0)
def faC (h : Int → Int → Bool) (fa : List KA) (i : Int) (f : KA) : Int := if faR f = false then 3 else if faG f = true then 1 else if alB h f.c2 i 0 fa = false then 1 else 0
def faF (h : Int → Int → Bool) (fa : List KA) : Int → List KA → Int
  | _, [] => 0
  | i, f :: l => if (faC h fa i f == 0) = false then faC h fa i f else faF h fa (i + 1) l
theorem alB_step {h : Int → Int → Bool} {m i : Int} {fa : List KA} {k : Nat} {g : KA} (hk : fa[k]? = some g) : alB h m i k (fa.drop k) = ((!(h m k) || (!((k : Int) == i) && h g.c2 i)) && alB h m i ((k + 1 : Nat) : Int) (fa.drop (k + 1))) := by
  have h' := List.getElem?_eq_some_iff.1 hk
  rw [List.drop_eq_getElem_cons h'.1, h'.2]
  show _ = _
  rw [show ((k + 1 : Nat) : Int) = (k : Int) + 1 from by omega]
  rfl
theorem alS_step {h : Int → Int → Bool} {m i : Int} {fa : List KA} {k : Nat} {g : KA} (hk : fa[k]? = some g) : alS h m i k (fa.drop k) = ((!(h m k) || h g.c2 i) && alS h m i ((k + 1 : Nat) : Int) (fa.drop (k + 1))) := by
  have h' := List.getElem?_eq_some_iff.1 hk
  rw [List.drop_eq_getElem_cons h'.1, h'.2]
  show _ = _
  rw [show ((k + 1 : Nat) : Int) = (k : Int) + 1 from by omega]
  rfl
theorem faF_step {h : Int → Int → Bool} {fa : List KA} {k : Nat} {f : KA} (hk : fa[k]? = some f) : faF h fa k (fa.drop k) = if (faC h fa k f == 0) = false then faC h fa k f else faF h fa ((k + 1 : Nat) : Int) (fa.drop (k + 1)) := by
  have h' := List.getElem?_eq_some_iff.1 hk
  rw [List.drop_eq_getElem_cons h'.1, h'.2, show ((k + 1 : Nat) : Int) = (k : Int) + 1 from by omega]
  rfl
/- four factions: the model's two questions are the program's one -/
theorem alB_four (h : Int → Int → Bool) (m : Int) (a b c d : KA) (i : Nat) (hi : i < 4) : alB h m i 0 [a, b, c, d] = (!(h m i) && alS h m i 0 [a, b, c, d]) := by
  have h4 : i = 0 ∨ i = 1 ∨ i = 2 ∨ i = 3 := by omega
  have e1 : ((0 : Nat) : Int) = 0 := rfl
  have e2 : ((1 : Nat) : Int) = 1 := rfl
  have e3 : ((2 : Nat) : Int) = 2 := rfl
  have e4 : ((3 : Nat) : Int) = 3 := rfl
  have e5 : (0 : Int) + 1 = 1 := rfl
  have e6 : (1 : Int) + 1 = 2 := rfl
  have e7 : (2 : Int) + 1 = 3 := rfl
  rcases h4 with rfl | rfl | rfl | rfl
  all_goals
    simp only [alB, alS, e1, e2, e3, e4, e5, e6, e7]
    generalize h m 0 = p0
    generalize h m 1 = p1
    generalize h m 2 = p2
    generalize h m 3 = p3
    cases p0 <;> cases p1 <;> cases p2 <;> cases p3 <;> simp
/- a seat -/
def goneA (fa : List KA) (i : Int) : Bool := (fa.getD i.toNat KA.z).c1
def allyA (fa : List KA) (i : Int) : Int := (fa.getD i.toNat KA.z).c2
def seR (s : K4) : Bool := inb s.c0 0 5 && (inb s.c1 0 3 && (inb s.c2 0 2047 && inb s.c3 0 999))
def seF (fa : List KA) : Option Int → List K4 → Int
  | _, [] => 0
  | p, s :: l => if seR s = false then 3 else if leP p s.c0 = true then 1 else if goneA fa s.c1 = true then 1 else seF fa (some s.c0) l
def prevC (l : List K4) (k : Nat) : Option Int := if k = 0 then none else (l[k - 1]?).map K4.c0
theorem prevC_next {l : List K4} {k : Nat} {u : K4} (h : l[k]? = some u) : prevC l (k + 1) = some u.c0 := by
  unfold prevC
  rw [if_neg (by omega), Nat.add_sub_cancel, h]; rfl
theorem seF_step {fa : List KA} {l : List K4} {k : Nat} {s : K4} {p : Option Int} (h : l[k]? = some s) : seF fa p (l.drop k) = if seR s = false then 3 else if leP p s.c0 = true then 1 else if goneA fa s.c1 = true then 1 else seF fa (some s.c0) (l.drop (k + 1)) := by
  have h' := List.getElem?_eq_some_iff.1 h
  rw [List.drop_eq_getElem_cons h'.1, h'.2]; rfl
/- an offer; q: those ahead -/
def memO (q : List K2) (x : K2) : Bool := q.any (fun y => y.b x)
def ofR (x : K2) : Bool := inb x.c0 0 3 && inb x.c1 0 3
def ofB (h : Int → Int → Bool) (fa : List KA) (q : List K2) (x : K2) : Bool := (x.c0 == x.c1) || (h (allyA fa x.c0) x.c1 || (goneA fa x.c0 || (goneA fa x.c1 || memO q x)))
def ofF (h : Int → Int → Bool) (fa : List KA) : List K2 → List K2 → Int
  | _, [] => 0
  | q, x :: l => if ofR x = false then 3 else if ofB h fa q x = true then 1 else ofF h fa (q ++ [x]) l
theorem ofF_step {h : Int → Int → Bool} {fa : List KA} {l : List K2} {k : Nat} {x : K2} (hk : l[k]? = some x) : ofF h fa (l.take k) (l.drop k) = if ofR x = false then 3 else if ofB h fa (l.take k) x = true then 1 else ofF h fa (l.take (k + 1)) (l.drop (k + 1)) := by
  have h' := List.getElem?_eq_some_iff.1 hk
  rw [List.drop_eq_getElem_cons h'.1, h'.2, List.take_add_one, hk]; rfl
/- the owners of units -/
def owF (fa : List KA) : List K10 → Int
  | [] => 0
  | u :: l => if ((u.c1 != 9) && goneA fa u.c1) = true then 1 else owF fa l
theorem owF_step {fa : List KA} {l : List K10} {k : Nat} {u : K10} (h : l[k]? = some u) : owF fa (l.drop k) = if ((u.c1 != 9) && goneA fa u.c1) = true then 1 else owF fa (l.drop (k + 1)) := by
  have h' := List.getElem?_eq_some_iff.1 h
  rw [List.drop_eq_getElem_cons h'.1, h'.2]; rfl
/- WorldFault -/
def or4 (a b c d : Int) : Int := if (a == 0) = false then a else if (b == 0) = false then b else if (c == 0) = false then c else d
def wf (h : Int → Int → Bool) (x : KW) : Int :=
  if (inb x.t 0 9999 && inb x.s 0 100000000) = false then 3 else if (bf x.us x.fs == 0) = false then bf x.us x.fs else
  if x.fa.length ≠ 4 ∨ 6 < x.se.length ∨ 6 < x.oo.length then 2 else or4 (faF h x.fa 0 x.fa) (seF x.fa none x.se) (ofF h x.fa [] x.oo) (owF x.fa x.us)
end Go.Proofs.YtppgjmpdnpidnaaGreatDoor
end
