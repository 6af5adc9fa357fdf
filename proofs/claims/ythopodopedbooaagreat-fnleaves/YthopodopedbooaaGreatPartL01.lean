/- Texts of mine put together (a claim holds at most 60 files): OpenCmd, Later, One, RowsU, RowsF, ExactBoard, RowA, RowsA, RowS. -/
import Derived.Test.YthopodopedbooaaGreatRows
import Derived.WalkKit
import Derived.ProofKit
import Derived.OpenShut
import Derived.Below
import Derived.ChangeArms
import Derived.WideShapes
import Derived.Deep.QuietTactic
import Derived.BigQuiet
import Derived.Test.YthopodopedbooaaGreatPartL00
import Derived.ShutString
import Derived.WalkLawsBesides
import Derived.ChangeOld
import Derived.OwnWalk
import Derived.Deep.OwnRows
import Derived.Deep.Light
import Derived.Laws.StructEq
import Derived.Laws.MakeOwn
import Derived.Deep.Slices
import Derived.Deep.Strs

/- OpenCmd -/
/- A struct whose fields are all numbers of the kind int64, as an argument: its cells are such numbers. No condition. -/
section
namespace Go.Proofs.YthopodopedbooaaGreat
open Go.ChangeShapes Go.WideShapes Go.ChangeAt Go.RowKit
set_option linter.unusedVariables false

def i64Fields (e : TypeId) (fs : Array Field) : Bool := (List.range fs.size).all fun i => match fs[i]? with
  | some f => f.offset == i && f.type == e
  | none => false
theorem i64Fields.at {e : TypeId} {fs : Array Field} (h : i64Fields e fs = true) {i : Nat} (hi : i < fs.size) : ∃ f, fs[i]? = some f ∧ f.offset = i ∧ f.type = e := by
  have h1 := List.all_eq_true.1 h i (List.mem_range.2 hi)
  rw [Array.getElem?_eq_getElem hi] at h1 ⊢
  simp at h1
  exact ⟨_, rfl, h1.1, h1.2⟩
theorem cells_i64 {H : Type} {enc : TypeId × Value → H} {P : Program} {w : World} {base : Nat} {sp : Nat → Bool} {held : Bool} {fuel : Nat} {t e : TypeId} {fs : Array Field} {cs : List Value} {x : DataW H × List MemPlace}
    (ht : P.underlying t = some (.struct fs)) (he : P.underlying e = some (.int .i64)) (hce : P.cellsOf e = 1) (hct : P.cellsOf t = fs.size) (hok : i64Fields e fs = true)
    (h : DataW.trod enc P w base sp held fuel t cs = some x) : ∃ zs : List Int, cs = zs.map (Value.int .i64) ∧ zs.length = fs.size ∧ ∀ z ∈ zs, (Lit.int .i64 z).wf = true := by
  obtain ⟨xs, n, _, rfl, hl, hlen, hf⟩ := DataW.trod_struct ht h
  rw [hct] at hl
  have key : ∀ i, i < fs.size → ∃ z, cs[i]? = some (.int .i64 z) ∧ (Lit.int .i64 z).wf = true := by
    intro i hi
    obtain ⟨f, hfi, ho, hty⟩ := i64Fields.at hok hi
    have h1 := hf i f hfi
    rw [ho, hty, hce, List.getElem?_eq_getElem (by omega)] at h1
    obtain ⟨z, hc, _, hw⟩ := DataW.trod_int he h1
    refine ⟨z, ?_, hw⟩
    have := congrArg (·[0]?) hc
    simpa [List.getElem?_take, List.getElem?_drop] using this
  refine ⟨cs.map intOf, ?_, by simpa using hl, ?_⟩
  · apply List.ext_getElem?
    intro i
    by_cases hi : i < fs.size
    · obtain ⟨z, hz, _⟩ := key i hi
      simp [hz, intOf]
    · rw [List.getElem?_eq_none (by omega), List.getElem?_eq_none (by simp; omega)]
  · intro z hz
    obtain ⟨i, hi, e⟩ := List.getElem_of_mem hz
    obtain ⟨z', hz', hw⟩ := key i (by simpa [hl] using hi)
    simp at e hi
    rw [List.getElem?_eq_getElem hi] at hz'
    rw [← e, Option.some.inj hz']
    exact hw
theorem open_six {H : Type} {enc : TypeId × Value → H} {P : Program} {w : World} {base b0 : Nat} {sp : Nat → Bool} {held : Bool} {r : Reach} {t e : TypeId} {fs : Array Field} {v : Value} {d : DataW H} {p : List MemPlace}
    (ht : P.underlying t = some (.struct fs)) (he : P.underlying e = some (.int .i64)) (hce : P.cellsOf e = 1) (hct : P.cellsOf t = fs.size) (hsz : fs.size = 6) (hok : i64Fields e fs = true)
    (hv : Value.okWide P w r b0 t v) (h : DataW.Trod enc P w base sp held t v d p) :
    ∃ x0 x1 x2 x3 x4 x5 : Int, v = .agg #[.int .i64 x0, .int .i64 x1, .int .i64 x2, .int .i64 x3, .int .i64 x4, .int .i64 x5] ∧ (Lit.int .i64 x0).wf = true ∧ (Lit.int .i64 x1).wf = true ∧ (Lit.int .i64 x2).wf = true ∧ (Lit.int .i64 x3).wf = true ∧ (Lit.int .i64 x4).wf = true ∧ (Lit.int .i64 x5).wf = true := by
  obtain ⟨cs, rfl, hs⟩ := okWide_struct ht hv
  obtain ⟨fuel, hf⟩ := h
  obtain ⟨zs, hz, hl, hw⟩ := cells_i64 ht he hce hct hok hf
  rw [hsz] at hl
  match zs, hl with
  | [x0, x1, x2, x3, x4, x5], _ =>
    refine ⟨x0, x1, x2, x3, x4, x5, ?_, hw _ (by simp), hw _ (by simp), hw _ (by simp), hw _ (by simp), hw _ (by simp), hw _ (by simp)⟩
    have : cs.toList = [.int .i64 x0, .int .i64 x1, .int .i64 x2, .int .i64 x3, .int .i64 x4, .int .i64 x5] := by simpa [Value.cells] using hz
    rw [← Array.toArray_toList (xs := cs), this]
end Go.Proofs.YthopodopedbooaaGreat
end

/- Later -/
/- A region that draws its order, whose operations read old cells and whose callees only make new memory: one walk in the order of the text serves every order. No condition. -/
section
namespace Go.Proofs.YthopodopedbooaaGreat
open Go.RowKit

/- a world behind w in which all that was there is as it was -/
def Later (w : World) : Type := { w' : World // Below w.heap.size w w' }
def Later.at {w : World} (n : Later w) : World := n.1
theorem Later.bel {w : World} (n : Later w) : Below w.heap.size w n.at := n.2

theorem wp_region_later {P : Program} {id : Nat} {Q : Exit → Act → World → Prop} {a : Act} {w : World} {l : List Oper} (hm : P.follows .mixedOrders = true) (hB : Region.lexB .any l.toArray = true)
    (h : Nonempty (Later w) → wpQuiet P l.toArray (fun w' => ∃ n : Later w, w' = n.at) (fun a' => ∀ w', (∃ n : Later w, w' = n.at) → Q .normal a' w') l a) : (Code.region id l.toArray true).wp P Q a w :=
  wp_region_quiet (C := fun w' => ∃ n : Later w, w' = n.at) hm hB ⟨⟨w.drew, (Below.refl _ _).drew⟩, rfl⟩ (by simpa using h ⟨⟨w, Below.refl _ _⟩⟩)

theorem Later.call {P : Program} {f : FuncId} {args : Array Value} {w : World} {n : Later w} {v : Value}
    (h : Calls P f args n.at fun e w' => e = .returned v ∧ Below n.at.heap.size n.at w') : Calls P f args n.at fun e w'' => e = .returned v ∧ ∃ m : Later w, w'' = m.at :=
  h.mono fun _ w' ⟨he, hm⟩ => ⟨he, ⟨w', n.bel.trans (hm.mono n.bel.size)⟩, rfl⟩
theorem Later.call1 {P : Program} {f : FuncId} {args : Array Value} {w : World} {n : Later w} {v : Value} {o : Obj}
    (h : Calls P f args n.at fun e w' => e = .returned v ∧ w' = n.at.alloc o) : Calls P f args n.at fun e w'' => e = .returned v ∧ ∃ m : Later w, w'' = m.at :=
  Later.call (h.mono fun _ w' ⟨he, hm⟩ => ⟨he, by rw [hm]; exact (Below.refl _ _).alloc (Nat.le_refl _) _⟩)
theorem Later.call0 {P : Program} {f : FuncId} {args : Array Value} {w : World} {n : Later w} {v : Value}
    (h : Calls P f args n.at fun e w' => e = .returned v ∧ w' = n.at) : Calls P f args n.at fun e w'' => e = .returned v ∧ ∃ m : Later w, w'' = m.at :=
  Later.call (h.mono fun _ w' ⟨he, hm⟩ => ⟨he, by rw [hm]; exact Below.refl _ _⟩)

theorem Later.cell {w : World} {b o : Nat} {v : Value} (hb : b < w.heap.size) (h : w.cell? ⟨b, o, none⟩ = some v) (n : Later w) : n.at.cell? ⟨b, o, none⟩ = some v := by
  rw [n.bel.cell (p := ⟨b, o, none⟩) hb]; exact h
end Go.Proofs.YthopodopedbooaaGreat
end

/- One -/
/- Addresses and cells. No condition. -/
section
namespace Go.Proofs.YthopodopedbooaaGreat
open Go.RowKit

theorem add_plain' (b off n : Nat) : (⟨b, off, none⟩ : Addr).add n = ⟨b, off + n, none⟩ := by unfold Addr.add; split <;> simp_all
theorem cell_lt2 {w : World} {a : Addr} {v : Value} (h : w.cell? a = some v) : a.block < w.heap.size := by
  unfold World.cell? at h
  by_cases hb : a.block < w.heap.size
  · exact hb
  · rw [Array.getElem?_eq_none (by omega)] at h
    cases h
theorem below_drewN (w : World) (n : Nat) : Below w.heap.size w (w.drewN n) := ⟨rfl, rfl, rfl, Nat.le_refl _, fun _ _ => rfl⟩
theorem drewN_trans (w : World) (a b : Nat) : (w.drewN a).drewN b = w.drewN (a + b) := by unfold World.drewN; simp [Nat.add_assoc]
end Go.Proofs.YthopodopedbooaaGreat
end

/- RowsU -/
/- Contracts of the exact laws' own helpers on unit and lists of them, and what such a list that came in is. Condition: the lists have at most 1048576 members. -/
section
namespace Go.Proofs.YthopodopedbooaaGreat
open Go.ChangeShapes Go.WideShapes Go.ChangeAt Go.RowKit
set_option linter.unusedVariables false

theorem rowU_is {w : World} {g : Nat} {l : List K10} {m : Nat} {t : TypeId} (hl : l.length = m) (hrow : w.rowIs g t (m * 10) (rowU l m)) : UAt w g 0 l := fun i x hi f hf => by
  have hlt : i < m := by rw [← hl]; exact (List.getElem?_eq_some_iff.1 hi).1
  have hg : l.getD i K10.z = x := by rw [List.getD_eq_getElem?_getD, hi]; rfl
  rw [hrow.cell (by omega)]
  unfold rowU
  rw [if_pos (by omega), show (0 + i * 10 + f) / 10 = i from by omega, show (0 + i * 10 + f) % 10 = f from by omega, hg]
end Go.Proofs.YthopodopedbooaaGreat
end

/- RowsF -/
/- Contracts of the exact laws' own helpers on field and lists of them, and what such a list that came in is. Condition: the lists have at most 1048576 members. -/
section
namespace Go.Proofs.YthopodopedbooaaGreat
open Go.ChangeShapes Go.WideShapes Go.ChangeAt Go.RowKit
set_option linter.unusedVariables false

theorem rowF_is {w : World} {g : Nat} {l : List K3} {m : Nat} {t : TypeId} (hl : l.length = m) (hrow : w.rowIs g t (m * 3) (rowF l m)) : FAt w g 0 l := fun i x hi f hf => by
  have hlt : i < m := by rw [← hl]; exact (List.getElem?_eq_some_iff.1 hi).1
  have hg : l.getD i K3.z = x := by rw [List.getD_eq_getElem?_getD, hi]; rfl
  rw [hrow.cell (by omega)]
  unfold rowF
  rw [if_pos (by omega), show (0 + i * 3 + f) / 3 = i from by omega, show (0 + i * 3 + f) % 3 = f from by omega, hg]
end Go.Proofs.YthopodopedbooaaGreat
end

/- ExactBoard -/
/- Contracts of the exact laws' own helpers on boards. Condition: the lists have at most 1048576 members. -/
section
namespace Go.Proofs.YthopodopedbooaaGreat
open Go.ChangeShapes Go.WideShapes Go.ChangeAt Go.RowKit
set_option linter.unusedVariables false

theorem rowTwo (w : World) (s f : Value) (t : TypeId) : (w.alloc (.cells #[s, f] t)).rowIs w.heap.size t 2 (fun i => if i = 0 then s else f) := by
  refine ⟨#[s, f], ?_, rfl, fun i hi => ?_⟩
  · show (w.heap.push _)[w.heap.size]? = _
    simp
  · have h : i = 0 ∨ i = 1 := by omega
    rcases h with rfl | rfl <;> rfl
abbrev brdV (a : Option Addr) (m c : Nat) (a' : Option Addr) (m' c' : Nat) : Array Value := #[.slice a m c, .slice a' m' c']
/- two new lists of a board -/
structure NewB (w : World) (base g g' : Nat) (us : List K10) (fs : List K3) : Prop where
  u : w.rowIs g 105 (us.length * 10) (rowU us us.length)
  f : w.rowIs g' 133 (fs.length * 3) (rowF fs fs.length)
  le : base ≤ g
  lt : g < g'
theorem NewB.later {w w' : World} {base g g' : Nat} {us : List K10} {fs : List K3} (h : NewB w base g g' us fs) (hb : Below w.heap.size w w') : NewB w' base g g' us fs :=
  ⟨h.u.of_block (hb.block g h.u.lt), h.f.of_block (hb.block g' h.f.lt), h.le, h.lt⟩
theorem NewB.argU {w : World} {base g g' : Nat} {us : List K10} {fs : List K3} (h : NewB w base g g' us fs) : ArgU w (some ⟨g, 0, none⟩) us := .inr ⟨g, 0, rfl, h.u.lt, rowU_is rfl h.u⟩
theorem NewB.argF {w : World} {base g g' : Nat} {us : List K10} {fs : List K3} (h : NewB w base g g' us fs) : ArgF w (some ⟨g', 0, none⟩) fs := .inr ⟨g', 0, rfl, h.f.lt, rowF_is rfl h.f⟩
theorem row_other {w : World} {g : Nat} {t : TypeId} {n : Nat} {f : Nat → Value} (h : w.rowIs g t n f) {a : Addr} (ha : g ≠ a.block) (v : Value) : (w.setCell a v).rowIs g t n f := h.of_block (Below.heap_setCell _ a v g ha)
theorem bel_set {n : Nat} {w w' : World} (h : Below n w w') (b o : Nat) (hb : n ≤ b) (v : Value) : Below n w (w'.setCell ⟨b, o, none⟩ v) := h.setCell hb v
theorem three_two (w : World) (s f z : Value) (t t2 : TypeId) : let W := ((w.alloc (.cells #[s, f] t)).alloc (.cells #[z, z] t2)).alloc (.cells #[z, z] t2)
    W.rowIs w.heap.size t 2 (fun i => if i = 0 then s else f) ∧ W.rowIs (w.heap.size + 1) t2 2 (fun i => if i = 0 then z else z) ∧ W.rowIs (w.heap.size + 1 + 1) t2 2 (fun i => if i = 0 then z else z) ∧ Below w.heap.size w W ∧ W.heap.size = w.heap.size + 1 + 1 + 1 := by
  intro W
  have s1 : (w.alloc (.cells #[s, f] t)).heap.size = w.heap.size + 1 := size_new _ _
  have s2 : ((w.alloc (.cells #[s, f] t)).alloc (.cells #[z, z] t2)).heap.size = w.heap.size + 1 + 1 := by rw [size_new, s1]
  have s3 : W.heap.size = w.heap.size + 1 + 1 + 1 := by show (World.alloc _ _).heap.size = _; rw [size_new, s2]
  have b1 : Below (w.alloc (.cells #[s, f] t)).heap.size (w.alloc (.cells #[s, f] t)) W := ((Below.refl _ _).alloc (Nat.le_refl _) _).alloc (by rw [s2, s1]; omega) _
  have b2 : Below ((w.alloc (.cells #[s, f] t)).alloc (.cells #[z, z] t2)).heap.size ((w.alloc (.cells #[s, f] t)).alloc (.cells #[z, z] t2)) W := (Below.refl _ _).alloc (Nat.le_refl _) _
  have r0 := rowTwo w s f t
  have r1 := rowTwo (w.alloc (.cells #[s, f] t)) z z t2
  have r2 := rowTwo ((w.alloc (.cells #[s, f] t)).alloc (.cells #[z, z] t2)) z z t2
  rw [s1] at r1
  rw [s2] at r2
  exact ⟨r0.of_block (b1.block _ r0.lt), r1.of_block (b2.block _ r1.lt), r2, (((Below.refl _ _).alloc (Nat.le_refl _) _).alloc (by rw [s1]; omega) _).alloc (by rw [s2]; omega) _, s3⟩
end Go.Proofs.YthopodopedbooaaGreat
end

/- RowA -/
/- Lists of faction in memory. No condition. -/
section
namespace Go.Proofs.YthopodopedbooaaGreat
open Go.ChangeShapes Go.WideShapes Go.ChangeAt Go.RowKit
set_option linter.unusedVariables false

structure KA where
  c0 : Int
  c1 : Bool
  c2 : Int
def KA.z : KA := ⟨0, false, 0⟩
def KA.f (x : KA) (i : Nat) : Value := if i = 0 then .int .i64 x.c0 else if i = 1 then .bool x.c1 else .int .i64 x.c2
abbrev KA.v (x : KA) : Array Value := #[.int .i64 x.c0, .bool x.c1, .int .i64 x.c2]
def KA.b (x y : KA) : Bool := x.c0 == y.c0 && (x.c1 == y.c1 && (x.c2 == y.c2))
theorem KA.b_self (x : KA) : x.b x = true := by unfold KA.b; simp
theorem KA.b_eq {x y : KA} (h : x.b y = true) : x = y := by
  unfold KA.b at h
  simp at h
  cases x; cases y
  simp_all
/- such structs in memory, from place off of block g on -/
def AAt (w : World) (g off : Nat) (l : List KA) : Prop := ∀ i x, l[i]? = some x → ∀ f, f < 3 → w.cell? ⟨g, off + i * 3 + f, none⟩ = some (x.f f)
theorem AAt.all {w : World} {g off : Nat} {l : List KA} (h : AAt w g off l) {i : Nat} {x : KA} (hi : l[i]? = some x) :
    w.cell? ⟨g, off + i * 3, none⟩ = some (.int .i64 x.c0) ∧ w.cell? ⟨g, off + i * 3 + 1, none⟩ = some (.bool x.c1) ∧ w.cell? ⟨g, off + i * 3 + 2, none⟩ = some (.int .i64 x.c2) :=
  ⟨h i x hi 0 (by omega), h i x hi 1 (by omega), h i x hi 2 (by omega)⟩
theorem AAt.later {w w' : World} {g off : Nat} {l : List KA} (h : AAt w g off l) (hg : g < w.heap.size) (hb : Below w.heap.size w w') : AAt w' g off l := fun i x hi f hf => by rw [hb.cell hg]; exact h i x hi f hf
/- one such struct in memory, at place off of block g -/
structure A1 (w : World) (g off : Nat) (x : KA) : Prop where
  c0 : w.cell? ⟨g, off, none⟩ = some (.int .i64 x.c0)
  c1 : w.cell? ⟨g, off + 1, none⟩ = some (.bool x.c1)
  c2 : w.cell? ⟨g, off + 2, none⟩ = some (.int .i64 x.c2)
  lt : g < w.heap.size
theorem AAt.one {w : World} {g off : Nat} {l : List KA} (h : AAt w g off l) (hg : g < w.heap.size) {i : Nat} {x : KA} (hi : l[i]? = some x) : A1 w g (off + i * 3) x :=
  ⟨h i x hi 0 (by omega), h i x hi 1 (by omega), h i x hi 2 (by omega), hg⟩
theorem A1.later {w w' : World} {g off : Nat} {x : KA} (h : A1 w g off x) (hb : Below w.heap.size w w') : A1 w' g off x :=
  ⟨by rw [hb.cell h.lt]; exact h.c0, by rw [hb.cell h.lt]; exact h.c1, by rw [hb.cell h.lt]; exact h.c2, Nat.lt_of_lt_of_le h.lt hb.size⟩
theorem A1.new (w : World) (x : KA) (t : TypeId) : A1 (w.alloc (.cells x.v t)) w.heap.size 0 x :=
  ⟨cell_new _ _ _ _ _ rfl, cell_new _ _ _ _ _ rfl, cell_new _ _ _ _ _ rfl, by rw [size_new]; omega⟩
set_option maxHeartbeats 1000000 in
theorem neqA (x y : KA) (w : World) : (binOp .neq 53 (.agg x.v) (.agg y.v)).run Tryz.prog w = .ok (.bool (!x.b y)) w := by
  rw [run_neq_struct, show (10000 : Nat) = 9999 + 1 from rfl, run_equalIn_agg w 9999 53 _ _ (by kernel_rfl) (by kernel_rfl)]
  simp only [Program.fieldsOf, Tryz.underlying53]
  unfold KA.b
  cases h0 : x.c0 == y.c0
  · go_simp; try rfl
  cases h1 : x.c1 == y.c1
  · go_simp; try rfl
  cases h2 : x.c2 == y.c2
  · go_simp; try rfl
  go_simp
  try rfl
/- are both lists the same -/
def allA : List KA → List KA → Bool
  | [], [] => true
  | x :: l, y :: l' => x.b y && allA l l'
  | _, _ => false
theorem allA_ne : ∀ (l l' : List KA), l.length ≠ l'.length → allA l l' = false
  | [], [], h => absurd rfl h
  | [], _ :: _, _ => rfl
  | _ :: _, [], _ => rfl
  | x :: l, y :: l', h => by unfold allA; rw [allA_ne l l' (by simpa using h), Bool.and_false]
theorem allA_step {l l' : List KA} {k : Nat} {x y : KA} (hx : l[k]? = some x) (hy : l'[k]? = some y) : allA (l.drop k) (l'.drop k) = (x.b y && allA (l.drop (k + 1)) (l'.drop (k + 1))) := by
  have e1 : l.drop k = x :: l.drop (k + 1) := by
    have h := (List.getElem?_eq_some_iff.1 hx)
    rw [List.drop_eq_getElem_cons h.1, h.2]
  have e2 : l'.drop k = y :: l'.drop (k + 1) := by
    have h := (List.getElem?_eq_some_iff.1 hy)
    rw [List.drop_eq_getElem_cons h.1, h.2]
  rw [e1, e2]; rfl
theorem infoA : (Tryz.prog.info? 53).map (fun i => (i.zero, i.size, i.bytes)) = some (some (.agg KA.z.v), 3, 24) := by kernel_rfl
theorem makeA (m : Nat) (hm : m ≤ 1048576) (w : World) : (Instr.makeSlice 28 (.int .i64 (m : Int)) (.int .i64 (m : Int))).run Tryz.prog w = .ok (.slice (some ⟨w.heap.size, 0, none⟩) m m) (w.alloc (.cells (madeCells KA.z.v (m * 3)) 53)) := by
  obtain ⟨i0, hi, hz0, hz1, hz2⟩ := info_parts infoA
  have h := run_make (P := Tryz.prog) w 28 53 i0 (.agg KA.z.v) Tryz.underlying28 hi hz0 .i64 .i64 (m : Int) (m : Int) (by omega) (Int.le_refl _) (by rw [hz2]; omega) (by omega)
  rw [hz1, Int.toNat_natCast] at h
  exact h
theorem row0A (w : World) (n : Nat) (t : TypeId) : (w.alloc (.cells (madeCells KA.z.v n) t)).rowIs w.heap.size t n (fun i => KA.z.f (i % 3)) := by
  refine ⟨madeCells KA.z.v n, ?_, size_madeCells _ _, fun i hi => ?_⟩
  · show (w.heap.push _)[w.heap.size]? = _
    simp
  · have h6 : i % 3 = 0 ∨ i % 3 = 1 ∨ i % 3 = 2 := by omega
    simp only [madeCells]
    rw [Array.getElem?_map, Array.getElem?_range, if_pos hi]
    simp only [Option.map_some]
    congr 1
    show (KA.z.v)[i % 3]! = _
    rcases h6 with h | h | h <;> rw [h] <;> rfl
def rowA (l : List KA) (k : Nat) (j : Nat) : Value := if j < k * 3 then (l.getD (j / 3) KA.z).f (j % 3) else KA.z.f (j % 3)
theorem rowA_at (l : List KA) (k i : Nat) (hi : i < 3) : rowA l k (k * 3 + i) = KA.z.f i := by unfold rowA; rw [if_neg (by omega), show (k * 3 + i) % 3 = i from by omega]
theorem rowA_set (l : List KA) (k : Nat) (x : KA) (h : l.getD k KA.z = x) (j : Nat) :
    (if j = k * 3 + 2 then (.int .i64 x.c2 : Value) else if j = k * 3 + 1 then (.bool x.c1 : Value) else if j = k * 3 then (.int .i64 x.c0 : Value) else rowA l k j) = rowA l (k + 1) j := by
  have key : ∀ i, i < 3 → rowA l (k + 1) (k * 3 + i) = x.f i := fun i hi => by
    unfold rowA
    rw [if_pos (by omega), show (k * 3 + i) / 3 = k from by omega, show (k * 3 + i) % 3 = i from by omega, h]
  by_cases e2 : j = k * 3 + 2
  · rw [if_pos e2, e2, key 2 (by omega)]; rfl
  rw [if_neg e2]
  by_cases e1 : j = k * 3 + 1
  · rw [if_pos e1, e1, key 1 (by omega)]; rfl
  rw [if_neg e1]
  by_cases e0 : j = k * 3
  · rw [if_pos e0, e0]; exact (key 0 (by omega)).symm
  rw [if_neg e0]
  unfold rowA
  by_cases hj : j < k * 3
  · rw [if_pos hj, if_pos (by omega)]
  · rw [if_neg hj, if_neg (by omega)]
/- a list that came in -/
def ArgA (w : World) (a : Option Addr) (l : List KA) : Prop := l = [] ∨ ∃ b off, a = some ⟨b, off, none⟩ ∧ b < w.heap.size ∧ AAt w b off l
theorem ArgA.later {w w' : World} {a : Option Addr} {l : List KA} (h : ArgA w a l) (hb : Below w.heap.size w w') : ArgA w' a l := by
  rcases h with h | ⟨b, off, h1, h2, h3⟩
  · exact .inl h
  · exact .inr ⟨b, off, h1, Nat.lt_of_lt_of_le h2 hb.size, h3.later h2 hb⟩
end Go.Proofs.YthopodopedbooaaGreat
end

/- RowsA -/
/- Contracts of the exact laws' own helpers on faction and lists of them, and what such a list that came in is. Condition: the lists have at most 1048576 members. -/
section
namespace Go.Proofs.YthopodopedbooaaGreat
open Go.ChangeShapes Go.WideShapes Go.ChangeAt Go.RowKit
set_option linter.unusedVariables false

theorem rowA_is {w : World} {g : Nat} {l : List KA} {m : Nat} {t : TypeId} (hl : l.length = m) (hrow : w.rowIs g t (m * 3) (rowA l m)) : AAt w g 0 l := fun i x hi f hf => by
  have hlt : i < m := by rw [← hl]; exact (List.getElem?_eq_some_iff.1 hi).1
  have hg : l.getD i KA.z = x := by rw [List.getD_eq_getElem?_getD, hi]; rfl
  rw [hrow.cell (by omega)]
  unfold rowA
  rw [if_pos (by omega), show (0 + i * 3 + f) / 3 = i from by omega, show (0 + i * 3 + f) % 3 = f from by omega, hg]
end Go.Proofs.YthopodopedbooaaGreat
end

/- RowS -/
/- Lists of seat in memory. No condition. -/
section
namespace Go.Proofs.YthopodopedbooaaGreat
open Go.ChangeShapes Go.WideShapes Go.ChangeAt Go.RowKit
set_option linter.unusedVariables false

structure K4 where
  c0 : Int
  c1 : Int
  c2 : Int
  c3 : Int
def K4.z : K4 := ⟨0, 0, 0, 0⟩
def K4.f (x : K4) (i : Nat) : Value := if i = 0 then .int .i64 x.c0 else if i = 1 then .int .i64 x.c1 else if i = 2 then .int .i64 x.c2 else .int .i64 x.c3
abbrev K4.v (x : K4) : Array Value := #[.int .i64 x.c0, .int .i64 x.c1, .int .i64 x.c2, .int .i64 x.c3]
def K4.b (x y : K4) : Bool := x.c0 == y.c0 && (x.c1 == y.c1 && (x.c2 == y.c2 && (x.c3 == y.c3)))
theorem K4.b_self (x : K4) : x.b x = true := by unfold K4.b; simp
theorem K4.b_eq {x y : K4} (h : x.b y = true) : x = y := by
  unfold K4.b at h
  simp at h
  cases x; cases y
  simp_all
/- such structs in memory, from place off of block g on -/
def SAt (w : World) (g off : Nat) (l : List K4) : Prop := ∀ i x, l[i]? = some x → ∀ f, f < 4 → w.cell? ⟨g, off + i * 4 + f, none⟩ = some (x.f f)
theorem SAt.all {w : World} {g off : Nat} {l : List K4} (h : SAt w g off l) {i : Nat} {x : K4} (hi : l[i]? = some x) :
    w.cell? ⟨g, off + i * 4, none⟩ = some (.int .i64 x.c0) ∧ w.cell? ⟨g, off + i * 4 + 1, none⟩ = some (.int .i64 x.c1) ∧ w.cell? ⟨g, off + i * 4 + 2, none⟩ = some (.int .i64 x.c2) ∧ w.cell? ⟨g, off + i * 4 + 3, none⟩ = some (.int .i64 x.c3) :=
  ⟨h i x hi 0 (by omega), h i x hi 1 (by omega), h i x hi 2 (by omega), h i x hi 3 (by omega)⟩
theorem SAt.later {w w' : World} {g off : Nat} {l : List K4} (h : SAt w g off l) (hg : g < w.heap.size) (hb : Below w.heap.size w w') : SAt w' g off l := fun i x hi f hf => by rw [hb.cell hg]; exact h i x hi f hf
/- one such struct in memory, at place off of block g -/
structure S1 (w : World) (g off : Nat) (x : K4) : Prop where
  c0 : w.cell? ⟨g, off, none⟩ = some (.int .i64 x.c0)
  c1 : w.cell? ⟨g, off + 1, none⟩ = some (.int .i64 x.c1)
  c2 : w.cell? ⟨g, off + 2, none⟩ = some (.int .i64 x.c2)
  c3 : w.cell? ⟨g, off + 3, none⟩ = some (.int .i64 x.c3)
  lt : g < w.heap.size
theorem SAt.one {w : World} {g off : Nat} {l : List K4} (h : SAt w g off l) (hg : g < w.heap.size) {i : Nat} {x : K4} (hi : l[i]? = some x) : S1 w g (off + i * 4) x :=
  ⟨h i x hi 0 (by omega), h i x hi 1 (by omega), h i x hi 2 (by omega), h i x hi 3 (by omega), hg⟩
theorem S1.later {w w' : World} {g off : Nat} {x : K4} (h : S1 w g off x) (hb : Below w.heap.size w w') : S1 w' g off x :=
  ⟨by rw [hb.cell h.lt]; exact h.c0, by rw [hb.cell h.lt]; exact h.c1, by rw [hb.cell h.lt]; exact h.c2, by rw [hb.cell h.lt]; exact h.c3, Nat.lt_of_lt_of_le h.lt hb.size⟩
theorem S1.new (w : World) (x : K4) (t : TypeId) : S1 (w.alloc (.cells x.v t)) w.heap.size 0 x :=
  ⟨cell_new _ _ _ _ _ rfl, cell_new _ _ _ _ _ rfl, cell_new _ _ _ _ _ rfl, cell_new _ _ _ _ _ rfl, by rw [size_new]; omega⟩
set_option maxHeartbeats 1000000 in
theorem neqS (x y : K4) (w : World) : (binOp .neq 58 (.agg x.v) (.agg y.v)).run Tryz.prog w = .ok (.bool (!x.b y)) w := by
  rw [run_neq_struct, show (10000 : Nat) = 9999 + 1 from rfl, run_equalIn_agg w 9999 58 _ _ (by kernel_rfl) (by kernel_rfl)]
  simp only [Program.fieldsOf, Tryz.underlying58]
  unfold K4.b
  cases h0 : x.c0 == y.c0
  · go_simp; try rfl
  cases h1 : x.c1 == y.c1
  · go_simp; try rfl
  cases h2 : x.c2 == y.c2
  · go_simp; try rfl
  cases h3 : x.c3 == y.c3
  · go_simp; try rfl
  go_simp
  try rfl
/- are both lists the same -/
def allS : List K4 → List K4 → Bool
  | [], [] => true
  | x :: l, y :: l' => x.b y && allS l l'
  | _, _ => false
theorem allS_ne : ∀ (l l' : List K4), l.length ≠ l'.length → allS l l' = false
  | [], [], h => absurd rfl h
  | [], _ :: _, _ => rfl
  | _ :: _, [], _ => rfl
  | x :: l, y :: l', h => by unfold allS; rw [allS_ne l l' (by simpa using h), Bool.and_false]
theorem allS_step {l l' : List K4} {k : Nat} {x y : K4} (hx : l[k]? = some x) (hy : l'[k]? = some y) : allS (l.drop k) (l'.drop k) = (x.b y && allS (l.drop (k + 1)) (l'.drop (k + 1))) := by
  have e1 : l.drop k = x :: l.drop (k + 1) := by
    have h := (List.getElem?_eq_some_iff.1 hx)
    rw [List.drop_eq_getElem_cons h.1, h.2]
  have e2 : l'.drop k = y :: l'.drop (k + 1) := by
    have h := (List.getElem?_eq_some_iff.1 hy)
    rw [List.drop_eq_getElem_cons h.1, h.2]
  rw [e1, e2]; rfl
theorem infoS : (Tryz.prog.info? 58).map (fun i => (i.zero, i.size, i.bytes)) = some (some (.agg K4.z.v), 4, 32) := by kernel_rfl
theorem makeS (m : Nat) (hm : m ≤ 1048576) (w : World) : (Instr.makeSlice 29 (.int .i64 (m : Int)) (.int .i64 (m : Int))).run Tryz.prog w = .ok (.slice (some ⟨w.heap.size, 0, none⟩) m m) (w.alloc (.cells (madeCells K4.z.v (m * 4)) 58)) := by
  obtain ⟨i0, hi, hz0, hz1, hz2⟩ := info_parts infoS
  have h := run_make (P := Tryz.prog) w 29 58 i0 (.agg K4.z.v) Tryz.underlying29 hi hz0 .i64 .i64 (m : Int) (m : Int) (by omega) (Int.le_refl _) (by rw [hz2]; omega) (by omega)
  rw [hz1, Int.toNat_natCast] at h
  exact h
theorem row0S (w : World) (n : Nat) (t : TypeId) : (w.alloc (.cells (madeCells K4.z.v n) t)).rowIs w.heap.size t n (fun i => K4.z.f (i % 4)) := by
  refine ⟨madeCells K4.z.v n, ?_, size_madeCells _ _, fun i hi => ?_⟩
  · show (w.heap.push _)[w.heap.size]? = _
    simp
  · have h6 : i % 4 = 0 ∨ i % 4 = 1 ∨ i % 4 = 2 ∨ i % 4 = 3 := by omega
    simp only [madeCells]
    rw [Array.getElem?_map, Array.getElem?_range, if_pos hi]
    simp only [Option.map_some]
    congr 1
    show (K4.z.v)[i % 4]! = _
    rcases h6 with h | h | h | h <;> rw [h] <;> rfl
def rowS (l : List K4) (k : Nat) (j : Nat) : Value := if j < k * 4 then (l.getD (j / 4) K4.z).f (j % 4) else K4.z.f (j % 4)
theorem rowS_at (l : List K4) (k i : Nat) (hi : i < 4) : rowS l k (k * 4 + i) = K4.z.f i := by unfold rowS; rw [if_neg (by omega), show (k * 4 + i) % 4 = i from by omega]
theorem rowS_set (l : List K4) (k : Nat) (x : K4) (h : l.getD k K4.z = x) (j : Nat) :
    (if j = k * 4 + 3 then (.int .i64 x.c3 : Value) else if j = k * 4 + 2 then (.int .i64 x.c2 : Value) else if j = k * 4 + 1 then (.int .i64 x.c1 : Value) else if j = k * 4 then (.int .i64 x.c0 : Value) else rowS l k j) = rowS l (k + 1) j := by
  have key : ∀ i, i < 4 → rowS l (k + 1) (k * 4 + i) = x.f i := fun i hi => by
    unfold rowS
    rw [if_pos (by omega), show (k * 4 + i) / 4 = k from by omega, show (k * 4 + i) % 4 = i from by omega, h]
  by_cases e3 : j = k * 4 + 3
  · rw [if_pos e3, e3, key 3 (by omega)]; rfl
  rw [if_neg e3]
  by_cases e2 : j = k * 4 + 2
  · rw [if_pos e2, e2, key 2 (by omega)]; rfl
  rw [if_neg e2]
  by_cases e1 : j = k * 4 + 1
  · rw [if_pos e1, e1, key 1 (by omega)]; rfl
  rw [if_neg e1]
  by_cases e0 : j = k * 4
  · rw [if_pos e0, e0]; exact (key 0 (by omega)).symm
  rw [if_neg e0]
  unfold rowS
  by_cases hj : j < k * 4
  · rw [if_pos hj, if_pos (by omega)]
  · rw [if_neg hj, if_neg (by omega)]
/- a list that came in -/
def ArgS (w : World) (a : Option Addr) (l : List K4) : Prop := l = [] ∨ ∃ b off, a = some ⟨b, off, none⟩ ∧ b < w.heap.size ∧ SAt w b off l
theorem ArgS.later {w w' : World} {a : Option Addr} {l : List K4} (h : ArgS w a l) (hb : Below w.heap.size w w') : ArgS w' a l := by
  rcases h with h | ⟨b, off, h1, h2, h3⟩
  · exact .inl h
  · exact .inr ⟨b, off, h1, Nat.lt_of_lt_of_le h2 hb.size, h3.later h2 hb⟩
end Go.Proofs.YthopodopedbooaaGreat
end
