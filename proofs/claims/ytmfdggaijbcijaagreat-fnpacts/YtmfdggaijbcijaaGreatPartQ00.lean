/- Texts of mine put together (a claim holds at most 60 files): Cells, RowU, OpenCmd, Later, One, RowsU, RowF, RowsF, ExactBoard, RowA. -/
import Derived.WalkKit
import Derived.Below
import Derived.Test.YtmfdggaijbcijaaGreatRows
import Derived.ProofKit
import Derived.OpenShut
import Derived.ShutString
import Derived.WalkLawsBesides
import Derived.ChangeOld
import Derived.OwnWalk
import Derived.Deep.OwnRows
import Derived.Deep.QuietTactic
import Derived.BigQuiet
import Derived.Deep.Light
import Derived.Laws.StructEq
import Derived.Laws.MakeOwn
import Derived.Deep.Slices
import Derived.ChangeArms
import Derived.WideShapes

/- Cells -/
/- Cells of blocks that a call has laid, behind further blocks. No condition. -/
section
namespace Go.Proofs.YtmfdggaijbcijaaGreat
open Go.RowKit

theorem cell_new (w : World) (cs : Array Value) (t : TypeId) (i : Nat) (v : Value) (h : cs[i]? = some v) : (w.alloc (.cells cs t)).cell? ⟨w.heap.size, i, none⟩ = some v := by
  have e : (w.alloc (.cells cs t)).heap[w.heap.size]? = some (.cells cs t) := by
    show (w.heap.push _)[w.heap.size]? = _
    simp
  unfold World.cell?
  rw [e]
  simp [h]
theorem cell_old (w : World) (o : Obj) (b i : Nat) (h : b < w.heap.size) : (w.alloc o).cell? ⟨b, i, none⟩ = w.cell? ⟨b, i, none⟩ :=
  ((Below.refl w.heap.size w).alloc (Nat.le_refl _) o).cell (p := ⟨b, i, none⟩) h
theorem size_new (w : World) (o : Obj) : (w.alloc o).heap.size = w.heap.size + 1 := World.size_alloc w o
end Go.Proofs.YtmfdggaijbcijaaGreat
end

/- RowU -/
/- Lists of unit in memory. No condition. -/
section
namespace Go.Proofs.YtmfdggaijbcijaaGreat
open Go.ChangeShapes Go.WideShapes Go.ChangeAt Go.RowKit
set_option linter.unusedVariables false

structure K10 where
  c0 : Int
  c1 : Int
  c2 : Int
  c3 : Int
  c4 : Int
  c5 : Int
  c6 : Int
  c7 : Int
  c8 : Int
  c9 : Int
def K10.z : K10 := ⟨0, 0, 0, 0, 0, 0, 0, 0, 0, 0⟩
def K10.f (x : K10) (i : Nat) : Int := if i = 0 then x.c0 else if i = 1 then x.c1 else if i = 2 then x.c2 else if i = 3 then x.c3 else if i = 4 then x.c4 else if i = 5 then x.c5 else if i = 6 then x.c6 else if i = 7 then x.c7 else if i = 8 then x.c8 else x.c9
abbrev K10.v (x : K10) : Array Value := #[.int .i64 x.c0, .int .i64 x.c1, .int .i64 x.c2, .int .i64 x.c3, .int .i64 x.c4, .int .i64 x.c5, .int .i64 x.c6, .int .i64 x.c7, .int .i64 x.c8, .int .i64 x.c9]
def K10.b (x y : K10) : Bool := x.c0 == y.c0 && (x.c1 == y.c1 && (x.c2 == y.c2 && (x.c3 == y.c3 && (x.c4 == y.c4 && (x.c5 == y.c5 && (x.c6 == y.c6 && (x.c7 == y.c7 && (x.c8 == y.c8 && (x.c9 == y.c9)))))))))
theorem K10.b_self (x : K10) : x.b x = true := by unfold K10.b; simp
theorem K10.b_eq {x y : K10} (h : x.b y = true) : x = y := by
  unfold K10.b at h
  simp at h
  cases x; cases y
  simp_all
/- such structs in memory, from place off of block g on -/
def UAt (w : World) (g off : Nat) (l : List K10) : Prop := ∀ i x, l[i]? = some x → ∀ f, f < 10 → w.cell? ⟨g, off + i * 10 + f, none⟩ = some (.int .i64 (x.f f))
theorem UAt.all {w : World} {g off : Nat} {l : List K10} (h : UAt w g off l) {i : Nat} {x : K10} (hi : l[i]? = some x) :
    w.cell? ⟨g, off + i * 10, none⟩ = some (.int .i64 x.c0) ∧ w.cell? ⟨g, off + i * 10 + 1, none⟩ = some (.int .i64 x.c1) ∧ w.cell? ⟨g, off + i * 10 + 2, none⟩ = some (.int .i64 x.c2) ∧ w.cell? ⟨g, off + i * 10 + 3, none⟩ = some (.int .i64 x.c3) ∧ w.cell? ⟨g, off + i * 10 + 4, none⟩ = some (.int .i64 x.c4) ∧ w.cell? ⟨g, off + i * 10 + 5, none⟩ = some (.int .i64 x.c5) ∧ w.cell? ⟨g, off + i * 10 + 6, none⟩ = some (.int .i64 x.c6) ∧ w.cell? ⟨g, off + i * 10 + 7, none⟩ = some (.int .i64 x.c7) ∧ w.cell? ⟨g, off + i * 10 + 8, none⟩ = some (.int .i64 x.c8) ∧ w.cell? ⟨g, off + i * 10 + 9, none⟩ = some (.int .i64 x.c9) :=
  ⟨h i x hi 0 (by omega), h i x hi 1 (by omega), h i x hi 2 (by omega), h i x hi 3 (by omega), h i x hi 4 (by omega), h i x hi 5 (by omega), h i x hi 6 (by omega), h i x hi 7 (by omega), h i x hi 8 (by omega), h i x hi 9 (by omega)⟩
theorem UAt.later {w w' : World} {g off : Nat} {l : List K10} (h : UAt w g off l) (hg : g < w.heap.size) (hb : Below w.heap.size w w') : UAt w' g off l := fun i x hi f hf => by rw [hb.cell hg]; exact h i x hi f hf
/- one such struct in memory, at place off of block g -/
structure U1 (w : World) (g off : Nat) (x : K10) : Prop where
  c0 : w.cell? ⟨g, off, none⟩ = some (.int .i64 x.c0)
  c1 : w.cell? ⟨g, off + 1, none⟩ = some (.int .i64 x.c1)
  c2 : w.cell? ⟨g, off + 2, none⟩ = some (.int .i64 x.c2)
  c3 : w.cell? ⟨g, off + 3, none⟩ = some (.int .i64 x.c3)
  c4 : w.cell? ⟨g, off + 4, none⟩ = some (.int .i64 x.c4)
  c5 : w.cell? ⟨g, off + 5, none⟩ = some (.int .i64 x.c5)
  c6 : w.cell? ⟨g, off + 6, none⟩ = some (.int .i64 x.c6)
  c7 : w.cell? ⟨g, off + 7, none⟩ = some (.int .i64 x.c7)
  c8 : w.cell? ⟨g, off + 8, none⟩ = some (.int .i64 x.c8)
  c9 : w.cell? ⟨g, off + 9, none⟩ = some (.int .i64 x.c9)
  lt : g < w.heap.size
theorem UAt.one {w : World} {g off : Nat} {l : List K10} (h : UAt w g off l) (hg : g < w.heap.size) {i : Nat} {x : K10} (hi : l[i]? = some x) : U1 w g (off + i * 10) x :=
  ⟨h i x hi 0 (by omega), h i x hi 1 (by omega), h i x hi 2 (by omega), h i x hi 3 (by omega), h i x hi 4 (by omega), h i x hi 5 (by omega), h i x hi 6 (by omega), h i x hi 7 (by omega), h i x hi 8 (by omega), h i x hi 9 (by omega), hg⟩
theorem U1.later {w w' : World} {g off : Nat} {x : K10} (h : U1 w g off x) (hb : Below w.heap.size w w') : U1 w' g off x :=
  ⟨by rw [hb.cell h.lt]; exact h.c0, by rw [hb.cell h.lt]; exact h.c1, by rw [hb.cell h.lt]; exact h.c2, by rw [hb.cell h.lt]; exact h.c3, by rw [hb.cell h.lt]; exact h.c4, by rw [hb.cell h.lt]; exact h.c5, by rw [hb.cell h.lt]; exact h.c6, by rw [hb.cell h.lt]; exact h.c7, by rw [hb.cell h.lt]; exact h.c8, by rw [hb.cell h.lt]; exact h.c9, Nat.lt_of_lt_of_le h.lt hb.size⟩
theorem U1.new (w : World) (x : K10) (t : TypeId) : U1 (w.alloc (.cells x.v t)) w.heap.size 0 x :=
  ⟨cell_new _ _ _ _ _ rfl, cell_new _ _ _ _ _ rfl, cell_new _ _ _ _ _ rfl, cell_new _ _ _ _ _ rfl, cell_new _ _ _ _ _ rfl, cell_new _ _ _ _ _ rfl, cell_new _ _ _ _ _ rfl, cell_new _ _ _ _ _ rfl, cell_new _ _ _ _ _ rfl, cell_new _ _ _ _ _ rfl, by rw [size_new]; omega⟩
set_option maxHeartbeats 1000000 in
theorem neqU (x y : K10) (w : World) : (binOp .neq 113 (.agg x.v) (.agg y.v)).run Tryz.prog w = .ok (.bool (!x.b y)) w := by
  rw [run_neq_struct, show (10000 : Nat) = 9999 + 1 from rfl, run_equalIn_agg w 9999 113 _ _ (by kernel_rfl) (by kernel_rfl)]
  simp only [Program.fieldsOf, Tryz.underlying113]
  unfold K10.b
  cases h0 : x.c0 == y.c0
  · go_simp; try rfl
  cases h1 : x.c1 == y.c1
  · go_simp; try rfl
  cases h2 : x.c2 == y.c2
  · go_simp; try rfl
  cases h3 : x.c3 == y.c3
  · go_simp; try rfl
  cases h4 : x.c4 == y.c4
  · go_simp; try rfl
  cases h5 : x.c5 == y.c5
  · go_simp; try rfl
  cases h6 : x.c6 == y.c6
  · go_simp; try rfl
  cases h7 : x.c7 == y.c7
  · go_simp; try rfl
  cases h8 : x.c8 == y.c8
  · go_simp; try rfl
  cases h9 : x.c9 == y.c9
  · go_simp; try rfl
  go_simp
  try rfl
/- are both lists the same -/
def allU : List K10 → List K10 → Bool
  | [], [] => true
  | x :: l, y :: l' => x.b y && allU l l'
  | _, _ => false
theorem infoU : (Tryz.prog.info? 113).map (fun i => (i.zero, i.size, i.bytes)) = some (some (.agg K10.z.v), 10, 80) := by kernel_rfl
def rowU (l : List K10) (k : Nat) (j : Nat) : Value := if j < k * 10 then .int .i64 ((l.getD (j / 10) K10.z).f (j % 10)) else .int .i64 0
/- a list that came in -/
def ArgU (w : World) (a : Option Addr) (l : List K10) : Prop := l = [] ∨ ∃ b off, a = some ⟨b, off, none⟩ ∧ b < w.heap.size ∧ UAt w b off l
theorem ArgU.later {w w' : World} {a : Option Addr} {l : List K10} (h : ArgU w a l) (hb : Below w.heap.size w w') : ArgU w' a l := by
  rcases h with h | ⟨b, off, h1, h2, h3⟩
  · exact .inl h
  · exact .inr ⟨b, off, h1, Nat.lt_of_lt_of_le h2 hb.size, h3.later h2 hb⟩
end Go.Proofs.YtmfdggaijbcijaaGreat
end

/- OpenCmd -/
/- A struct whose fields are all numbers of the kind int64, as an argument: its cells are such numbers. No condition. -/
section
namespace Go.Proofs.YtmfdggaijbcijaaGreat
open Go.ChangeShapes Go.WideShapes Go.ChangeAt Go.RowKit
set_option linter.unusedVariables false

def i64Fields (e : TypeId) (fs : Array Field) : Bool := (List.range fs.size).all fun i => match fs[i]? with
  | some f => f.offset == i && f.type == e
  | none => false
theorem i64Fields.at {e : TypeId} {fs : Array Field} (h : i64Fields e fs = true) {i : Nat} (hi : i < fs.size) : ∃ f, fs[i]? = some f ∧ f.offset = i ∧ f.type = e := by
  have h1 := List.all_eq_true.1 h i (List.mem_range.2 hi)
  rw [Array.getElem?_eq_getElem hi] at h1 ⊢
  simp at h1
  exact ⟨_, rfl, h1.1, h1.2⟩
end Go.Proofs.YtmfdggaijbcijaaGreat
end

/- Later -/
/- A region that draws its order, whose operations read old cells and whose callees only make new memory: one walk in the order of the text serves every order. No condition. -/
section
namespace Go.Proofs.YtmfdggaijbcijaaGreat
open Go.RowKit

/- a world behind w in which all that was there is as it was -/
def Later (w : World) : Type := { w' : World // Below w.heap.size w w' }
def Later.at {w : World} (n : Later w) : World := n.1
theorem Later.bel {w : World} (n : Later w) : Below w.heap.size w n.at := n.2

theorem wp_region_later {P : Program} {id : Nat} {Q : Exit → Act → World → Prop} {a : Act} {w : World} {l : List Oper} (hm : P.follows .mixedOrders = true) (hB : Region.lexB .any l.toArray = true)
    (h : Nonempty (Later w) → wpQuiet P l.toArray (fun w' => ∃ n : Later w, w' = n.at) (fun a' => ∀ w', (∃ n : Later w, w' = n.at) → Q .normal a' w') l a) : (Code.region id l.toArray true).wp P Q a w :=
  wp_region_quiet (C := fun w' => ∃ n : Later w, w' = n.at) hm hB ⟨⟨w.drew, (Below.refl _ _).drew⟩, rfl⟩ (by simpa using h ⟨⟨w, Below.refl _ _⟩⟩)

theorem Later.call {P : Program} {f : FuncId} {args : Array Value} {w : World} {n : Later w} {v : Value}
    (h : Calls P f args n.at fun e w' => e = .returned v ∧ Below n.at.heap.size n.at w') : Calls P f args n.at fun e w'' => e = .returned v ∧ ∃ m : Later w, w'' = m.at :=
  h.mono fun _ w' ⟨he, hm⟩ => ⟨he, ⟨w', n.bel.trans (hm.mono n.bel.size)⟩, rfl⟩
theorem Later.call0 {P : Program} {f : FuncId} {args : Array Value} {w : World} {n : Later w} {v : Value}
    (h : Calls P f args n.at fun e w' => e = .returned v ∧ w' = n.at) : Calls P f args n.at fun e w'' => e = .returned v ∧ ∃ m : Later w, w'' = m.at :=
  Later.call (h.mono fun _ w' ⟨he, hm⟩ => ⟨he, by rw [hm]; exact Below.refl _ _⟩)

theorem Later.cell {w : World} {b o : Nat} {v : Value} (hb : b < w.heap.size) (h : w.cell? ⟨b, o, none⟩ = some v) (n : Later w) : n.at.cell? ⟨b, o, none⟩ = some v := by
  rw [n.bel.cell (p := ⟨b, o, none⟩) hb]; exact h
end Go.Proofs.YtmfdggaijbcijaaGreat
end

/- One -/
/- Addresses and cells. No condition. -/
section
namespace Go.Proofs.YtmfdggaijbcijaaGreat
open Go.RowKit

theorem add_plain' (b off n : Nat) : (⟨b, off, none⟩ : Addr).add n = ⟨b, off + n, none⟩ := by unfold Addr.add; split <;> simp_all
theorem cell_lt2 {w : World} {a : Addr} {v : Value} (h : w.cell? a = some v) : a.block < w.heap.size := by
  unfold World.cell? at h
  by_cases hb : a.block < w.heap.size
  · exact hb
  · rw [Array.getElem?_eq_none (by omega)] at h
    cases h
theorem below_drewN (w : World) (n : Nat) : Below w.heap.size w (w.drewN n) := ⟨rfl, rfl, rfl, Nat.le_refl _, fun _ _ => rfl⟩
theorem drewN_trans (w : World) (a b : Nat) : (w.drewN a).drewN b = w.drewN (a + b) := by unfold World.drewN; simp [Nat.add_assoc]
end Go.Proofs.YtmfdggaijbcijaaGreat
end

/- RowsU -/
/- Contracts of the exact laws' own helpers on unit and lists of them, and what such a list that came in is. Condition: the lists have at most 1048576 members. -/
section
namespace Go.Proofs.YtmfdggaijbcijaaGreat
open Go.ChangeShapes Go.WideShapes Go.ChangeAt Go.RowKit
set_option linter.unusedVariables false

theorem rowU_is {w : World} {g : Nat} {l : List K10} {m : Nat} {t : TypeId} (hl : l.length = m) (hrow : w.rowIs g t (m * 10) (rowU l m)) : UAt w g 0 l := fun i x hi f hf => by
  have hlt : i < m := by rw [← hl]; exact (List.getElem?_eq_some_iff.1 hi).1
  have hg : l.getD i K10.z = x := by rw [List.getD_eq_getElem?_getD, hi]; rfl
  rw [hrow.cell (by omega)]
  unfold rowU
  rw [if_pos (by omega), show (0 + i * 10 + f) / 10 = i from by omega, show (0 + i * 10 + f) % 10 = f from by omega, hg]
end Go.Proofs.YtmfdggaijbcijaaGreat
end

/- RowF -/
/- Lists of field in memory. No condition. -/
section
namespace Go.Proofs.YtmfdggaijbcijaaGreat
open Go.ChangeShapes Go.WideShapes Go.ChangeAt Go.RowKit
set_option linter.unusedVariables false

structure K3 where
  c0 : Int
  c1 : Int
  c2 : Int
def K3.z : K3 := ⟨0, 0, 0⟩
def K3.f (x : K3) (i : Nat) : Int := if i = 0 then x.c0 else if i = 1 then x.c1 else x.c2
abbrev K3.v (x : K3) : Array Value := #[.int .i64 x.c0, .int .i64 x.c1, .int .i64 x.c2]
def K3.b (x y : K3) : Bool := x.c0 == y.c0 && (x.c1 == y.c1 && (x.c2 == y.c2))
theorem K3.b_self (x : K3) : x.b x = true := by unfold K3.b; simp
theorem K3.b_eq {x y : K3} (h : x.b y = true) : x = y := by
  unfold K3.b at h
  simp at h
  cases x; cases y
  simp_all
/- such structs in memory, from place off of block g on -/
def FAt (w : World) (g off : Nat) (l : List K3) : Prop := ∀ i x, l[i]? = some x → ∀ f, f < 3 → w.cell? ⟨g, off + i * 3 + f, none⟩ = some (.int .i64 (x.f f))
theorem FAt.all {w : World} {g off : Nat} {l : List K3} (h : FAt w g off l) {i : Nat} {x : K3} (hi : l[i]? = some x) :
    w.cell? ⟨g, off + i * 3, none⟩ = some (.int .i64 x.c0) ∧ w.cell? ⟨g, off + i * 3 + 1, none⟩ = some (.int .i64 x.c1) ∧ w.cell? ⟨g, off + i * 3 + 2, none⟩ = some (.int .i64 x.c2) :=
  ⟨h i x hi 0 (by omega), h i x hi 1 (by omega), h i x hi 2 (by omega)⟩
theorem FAt.later {w w' : World} {g off : Nat} {l : List K3} (h : FAt w g off l) (hg : g < w.heap.size) (hb : Below w.heap.size w w') : FAt w' g off l := fun i x hi f hf => by rw [hb.cell hg]; exact h i x hi f hf
/- one such struct in memory, at place off of block g -/
structure F1 (w : World) (g off : Nat) (x : K3) : Prop where
  c0 : w.cell? ⟨g, off, none⟩ = some (.int .i64 x.c0)
  c1 : w.cell? ⟨g, off + 1, none⟩ = some (.int .i64 x.c1)
  c2 : w.cell? ⟨g, off + 2, none⟩ = some (.int .i64 x.c2)
  lt : g < w.heap.size
theorem FAt.one {w : World} {g off : Nat} {l : List K3} (h : FAt w g off l) (hg : g < w.heap.size) {i : Nat} {x : K3} (hi : l[i]? = some x) : F1 w g (off + i * 3) x :=
  ⟨h i x hi 0 (by omega), h i x hi 1 (by omega), h i x hi 2 (by omega), hg⟩
theorem F1.later {w w' : World} {g off : Nat} {x : K3} (h : F1 w g off x) (hb : Below w.heap.size w w') : F1 w' g off x :=
  ⟨by rw [hb.cell h.lt]; exact h.c0, by rw [hb.cell h.lt]; exact h.c1, by rw [hb.cell h.lt]; exact h.c2, Nat.lt_of_lt_of_le h.lt hb.size⟩
theorem F1.new (w : World) (x : K3) (t : TypeId) : F1 (w.alloc (.cells x.v t)) w.heap.size 0 x :=
  ⟨cell_new _ _ _ _ _ rfl, cell_new _ _ _ _ _ rfl, cell_new _ _ _ _ _ rfl, by rw [size_new]; omega⟩
set_option maxHeartbeats 1000000 in
theorem neqF (x y : K3) (w : World) : (binOp .neq 118 (.agg x.v) (.agg y.v)).run Tryz.prog w = .ok (.bool (!x.b y)) w := by
  rw [run_neq_struct, show (10000 : Nat) = 9999 + 1 from rfl, run_equalIn_agg w 9999 118 _ _ (by kernel_rfl) (by kernel_rfl)]
  simp only [Program.fieldsOf, Tryz.underlying118]
  unfold K3.b
  cases h0 : x.c0 == y.c0
  · go_simp; try rfl
  cases h1 : x.c1 == y.c1
  · go_simp; try rfl
  cases h2 : x.c2 == y.c2
  · go_simp; try rfl
  go_simp
  try rfl
/- are both lists the same -/
def allF : List K3 → List K3 → Bool
  | [], [] => true
  | x :: l, y :: l' => x.b y && allF l l'
  | _, _ => false
theorem infoF : (Tryz.prog.info? 118).map (fun i => (i.zero, i.size, i.bytes)) = some (some (.agg K3.z.v), 3, 24) := by kernel_rfl
theorem makeF (m : Nat) (hm : m ≤ 1048576) (w : World) : (Instr.makeSlice 25 (.int .i64 (m : Int)) (.int .i64 (m : Int))).run Tryz.prog w = .ok (.slice (some ⟨w.heap.size, 0, none⟩) m m) (w.alloc (.cells (madeCells K3.z.v (m * 3)) 118)) := by
  obtain ⟨i0, hi, hz0, hz1, hz2⟩ := info_parts infoF
  have h := run_make (P := Tryz.prog) w 25 118 i0 (.agg K3.z.v) Tryz.underlying25 hi hz0 .i64 .i64 (m : Int) (m : Int) (by omega) (Int.le_refl _) (by rw [hz2]; omega) (by omega)
  rw [hz1, Int.toNat_natCast] at h
  exact h
def rowF (l : List K3) (k : Nat) (j : Nat) : Value := if j < k * 3 then .int .i64 ((l.getD (j / 3) K3.z).f (j % 3)) else .int .i64 0
/- a list that came in -/
def ArgF (w : World) (a : Option Addr) (l : List K3) : Prop := l = [] ∨ ∃ b off, a = some ⟨b, off, none⟩ ∧ b < w.heap.size ∧ FAt w b off l
theorem ArgF.later {w w' : World} {a : Option Addr} {l : List K3} (h : ArgF w a l) (hb : Below w.heap.size w w') : ArgF w' a l := by
  rcases h with h | ⟨b, off, h1, h2, h3⟩
  · exact .inl h
  · exact .inr ⟨b, off, h1, Nat.lt_of_lt_of_le h2 hb.size, h3.later h2 hb⟩
end Go.Proofs.YtmfdggaijbcijaaGreat
end

/- RowsF -/
/- Contracts of the exact laws' own helpers on field and lists of them, and what such a list that came in is. Condition: the lists have at most 1048576 members. -/
section
namespace Go.Proofs.YtmfdggaijbcijaaGreat
open Go.ChangeShapes Go.WideShapes Go.ChangeAt Go.RowKit
set_option linter.unusedVariables false

theorem rowF_is {w : World} {g : Nat} {l : List K3} {m : Nat} {t : TypeId} (hl : l.length = m) (hrow : w.rowIs g t (m * 3) (rowF l m)) : FAt w g 0 l := fun i x hi f hf => by
  have hlt : i < m := by rw [← hl]; exact (List.getElem?_eq_some_iff.1 hi).1
  have hg : l.getD i K3.z = x := by rw [List.getD_eq_getElem?_getD, hi]; rfl
  rw [hrow.cell (by omega)]
  unfold rowF
  rw [if_pos (by omega), show (0 + i * 3 + f) / 3 = i from by omega, show (0 + i * 3 + f) % 3 = f from by omega, hg]
end Go.Proofs.YtmfdggaijbcijaaGreat
end

/- ExactBoard -/
/- Contracts of the exact laws' own helpers on boards. Condition: the lists have at most 1048576 members. -/
section
namespace Go.Proofs.YtmfdggaijbcijaaGreat
open Go.ChangeShapes Go.WideShapes Go.ChangeAt Go.RowKit
set_option linter.unusedVariables false

theorem rowTwo (w : World) (s f : Value) (t : TypeId) : (w.alloc (.cells #[s, f] t)).rowIs w.heap.size t 2 (fun i => if i = 0 then s else f) := by
  refine ⟨#[s, f], ?_, rfl, fun i hi => ?_⟩
  · show (w.heap.push _)[w.heap.size]? = _
    simp
  · have h : i = 0 ∨ i = 1 := by omega
    rcases h with rfl | rfl <;> rfl
abbrev brdV (a : Option Addr) (m c : Nat) (a' : Option Addr) (m' c' : Nat) : Array Value := #[.slice a m c, .slice a' m' c']
/- two new lists of a board -/
structure NewB (w : World) (base g g' : Nat) (us : List K10) (fs : List K3) : Prop where
  u : w.rowIs g 113 (us.length * 10) (rowU us us.length)
  f : w.rowIs g' 118 (fs.length * 3) (rowF fs fs.length)
  le : base ≤ g
  lt : g < g'
theorem NewB.later {w w' : World} {base g g' : Nat} {us : List K10} {fs : List K3} (h : NewB w base g g' us fs) (hb : Below w.heap.size w w') : NewB w' base g g' us fs :=
  ⟨h.u.of_block (hb.block g h.u.lt), h.f.of_block (hb.block g' h.f.lt), h.le, h.lt⟩
theorem bel_set {n : Nat} {w w' : World} (h : Below n w w') (b o : Nat) (hb : n ≤ b) (v : Value) : Below n w (w'.setCell ⟨b, o, none⟩ v) := h.setCell hb v
end Go.Proofs.YtmfdggaijbcijaaGreat
end

/- RowA -/
/- Lists of faction in memory. No condition. -/
section
namespace Go.Proofs.YtmfdggaijbcijaaGreat
open Go.ChangeShapes Go.WideShapes Go.ChangeAt Go.RowKit
set_option linter.unusedVariables false

structure KA where
  c0 : Int
  c1 : Bool
  c2 : Int
def KA.z : KA := ⟨0, false, 0⟩
def KA.f (x : KA) (i : Nat) : Value := if i = 0 then .int .i64 x.c0 else if i = 1 then .bool x.c1 else .int .i64 x.c2
abbrev KA.v (x : KA) : Array Value := #[.int .i64 x.c0, .bool x.c1, .int .i64 x.c2]
def KA.b (x y : KA) : Bool := x.c0 == y.c0 && (x.c1 == y.c1 && (x.c2 == y.c2))
theorem KA.b_self (x : KA) : x.b x = true := by unfold KA.b; simp
theorem KA.b_eq {x y : KA} (h : x.b y = true) : x = y := by
  unfold KA.b at h
  simp at h
  cases x; cases y
  simp_all
/- such structs in memory, from place off of block g on -/
def AAt (w : World) (g off : Nat) (l : List KA) : Prop := ∀ i x, l[i]? = some x → ∀ f, f < 3 → w.cell? ⟨g, off + i * 3 + f, none⟩ = some (x.f f)
theorem AAt.all {w : World} {g off : Nat} {l : List KA} (h : AAt w g off l) {i : Nat} {x : KA} (hi : l[i]? = some x) :
    w.cell? ⟨g, off + i * 3, none⟩ = some (.int .i64 x.c0) ∧ w.cell? ⟨g, off + i * 3 + 1, none⟩ = some (.bool x.c1) ∧ w.cell? ⟨g, off + i * 3 + 2, none⟩ = some (.int .i64 x.c2) :=
  ⟨h i x hi 0 (by omega), h i x hi 1 (by omega), h i x hi 2 (by omega)⟩
theorem AAt.later {w w' : World} {g off : Nat} {l : List KA} (h : AAt w g off l) (hg : g < w.heap.size) (hb : Below w.heap.size w w') : AAt w' g off l := fun i x hi f hf => by rw [hb.cell hg]; exact h i x hi f hf
/- one such struct in memory, at place off of block g -/
structure A1 (w : World) (g off : Nat) (x : KA) : Prop where
  c0 : w.cell? ⟨g, off, none⟩ = some (.int .i64 x.c0)
  c1 : w.cell? ⟨g, off + 1, none⟩ = some (.bool x.c1)
  c2 : w.cell? ⟨g, off + 2, none⟩ = some (.int .i64 x.c2)
  lt : g < w.heap.size
theorem AAt.one {w : World} {g off : Nat} {l : List KA} (h : AAt w g off l) (hg : g < w.heap.size) {i : Nat} {x : KA} (hi : l[i]? = some x) : A1 w g (off + i * 3) x :=
  ⟨h i x hi 0 (by omega), h i x hi 1 (by omega), h i x hi 2 (by omega), hg⟩
theorem A1.later {w w' : World} {g off : Nat} {x : KA} (h : A1 w g off x) (hb : Below w.heap.size w w') : A1 w' g off x :=
  ⟨by rw [hb.cell h.lt]; exact h.c0, by rw [hb.cell h.lt]; exact h.c1, by rw [hb.cell h.lt]; exact h.c2, Nat.lt_of_lt_of_le h.lt hb.size⟩
theorem A1.new (w : World) (x : KA) (t : TypeId) : A1 (w.alloc (.cells x.v t)) w.heap.size 0 x :=
  ⟨cell_new _ _ _ _ _ rfl, cell_new _ _ _ _ _ rfl, cell_new _ _ _ _ _ rfl, by rw [size_new]; omega⟩
set_option maxHeartbeats 1000000 in
theorem neqA (x y : KA) (w : World) : (binOp .neq 64 (.agg x.v) (.agg y.v)).run Tryz.prog w = .ok (.bool (!x.b y)) w := by
  rw [run_neq_struct, show (10000 : Nat) = 9999 + 1 from rfl, run_equalIn_agg w 9999 64 _ _ (by kernel_rfl) (by kernel_rfl)]
  simp only [Program.fieldsOf, Tryz.underlying64]
  unfold KA.b
  cases h0 : x.c0 == y.c0
  · go_simp; try rfl
  cases h1 : x.c1 == y.c1
  · go_simp; try rfl
  cases h2 : x.c2 == y.c2
  · go_simp; try rfl
  go_simp
  try rfl
/- are both lists the same -/
def allA : List KA → List KA → Bool
  | [], [] => true
  | x :: l, y :: l' => x.b y && allA l l'
  | _, _ => false
theorem infoA : (Tryz.prog.info? 64).map (fun i => (i.zero, i.size, i.bytes)) = some (some (.agg KA.z.v), 3, 24) := by kernel_rfl
theorem makeA (m : Nat) (hm : m ≤ 1048576) (w : World) : (Instr.makeSlice 28 (.int .i64 (m : Int)) (.int .i64 (m : Int))).run Tryz.prog w = .ok (.slice (some ⟨w.heap.size, 0, none⟩) m m) (w.alloc (.cells (madeCells KA.z.v (m * 3)) 64)) := by
  obtain ⟨i0, hi, hz0, hz1, hz2⟩ := info_parts infoA
  have h := run_make (P := Tryz.prog) w 28 64 i0 (.agg KA.z.v) Tryz.underlying28 hi hz0 .i64 .i64 (m : Int) (m : Int) (by omega) (Int.le_refl _) (by rw [hz2]; omega) (by omega)
  rw [hz1, Int.toNat_natCast] at h
  exact h
def rowA (l : List KA) (k : Nat) (j : Nat) : Value := if j < k * 3 then (l.getD (j / 3) KA.z).f (j % 3) else KA.z.f (j % 3)
/- a list that came in -/
def ArgA (w : World) (a : Option Addr) (l : List KA) : Prop := l = [] ∨ ∃ b off, a = some ⟨b, off, none⟩ ∧ b < w.heap.size ∧ AAt w b off l
theorem ArgA.later {w w' : World} {a : Option Addr} {l : List KA} (h : ArgA w a l) (hb : Below w.heap.size w w') : ArgA w' a l := by
  rcases h with h | ⟨b, off, h1, h2, h3⟩
  · exact .inl h
  · exact .inr ⟨b, off, h1, Nat.lt_of_lt_of_le h2 hb.size, h3.later h2 hb⟩
end Go.Proofs.YtmfdggaijbcijaaGreat
end
