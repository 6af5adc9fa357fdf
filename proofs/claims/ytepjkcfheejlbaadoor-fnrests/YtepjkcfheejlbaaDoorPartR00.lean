/- Texts of mine put together (a claim holds at most 60 files): Cells, RowU, OpenCmd, Later, One, RowsU, RowF, RowsF. -/
import Derived.WalkKit
import Derived.Below
import Derived.Test.YtepjkcfheejlbaaDoorRows
import Derived.ProofKit
import Derived.OpenShut
import Derived.ShutString
import Derived.WalkLawsBesides
import Derived.ChangeOld
import Derived.OwnWalk
import Derived.Deep.OwnRows
import Derived.Deep.QuietTactic
import Derived.BigQuiet
import Derived.Deep.Light
import Derived.Laws.StructEq
import Derived.Laws.MakeOwn
import Derived.Deep.Slices
import Derived.ChangeArms
import Derived.WideShapes

/- Cells -/
/- Cells of blocks that a call has laid, behind further blocks. No condition. -/
section
namespace Go.Proofs.YtepjkcfheejlbaaDoor
open Go.RowKit

theorem cell_new (w : World) (cs : Array Value) (t : TypeId) (i : Nat) (v : Value) (h : cs[i]? = some v) : (w.alloc (.cells cs t)).cell? ⟨w.heap.size, i, none⟩ = some v := by
  have e : (w.alloc (.cells cs t)).heap[w.heap.size]? = some (.cells cs t) := by
    show (w.heap.push _)[w.heap.size]? = _
    simp
  unfold World.cell?
  rw [e]
  simp [h]
theorem cell_old (w : World) (o : Obj) (b i : Nat) (h : b < w.heap.size) : (w.alloc o).cell? ⟨b, i, none⟩ = w.cell? ⟨b, i, none⟩ :=
  ((Below.refl w.heap.size w).alloc (Nat.le_refl _) o).cell (p := ⟨b, i, none⟩) h
theorem frozen_old (w : World) (o : Obj) (b i : Nat) (h : b < w.heap.size) : (w.alloc o).frozen? ⟨b, i, none⟩ = w.frozen? ⟨b, i, none⟩ :=
  ((Below.refl w.heap.size w).alloc (Nat.le_refl _) o).frozen (p := ⟨b, i, none⟩) h
theorem frozen_new (w : World) (cs : Array Value) (t : TypeId) (i : Nat) : (w.alloc (.cells cs t)).frozen? ⟨w.heap.size, i, none⟩ = false := by
  have e : (w.alloc (.cells cs t)).heap[w.heap.size]? = some (.cells cs t) := by
    show (w.heap.push _)[w.heap.size]? = _
    simp
  unfold World.frozen?
  rw [e]
  simp
theorem size_new (w : World) (o : Obj) : (w.alloc o).heap.size = w.heap.size + 1 := World.size_alloc w o
end Go.Proofs.YtepjkcfheejlbaaDoor
end

/- RowU -/
/- Lists of unit in memory. No condition. -/
section
namespace Go.Proofs.YtepjkcfheejlbaaDoor
open Go.ChangeShapes Go.WideShapes Go.ChangeAt Go.RowKit
set_option linter.unusedVariables false

structure K10 where
  c0 : Int
  c1 : Int
  c2 : Int
  c3 : Int
  c4 : Int
  c5 : Int
  c6 : Int
  c7 : Int
  c8 : Int
  c9 : Int
def K10.z : K10 := ⟨0, 0, 0, 0, 0, 0, 0, 0, 0, 0⟩
def K10.f (x : K10) (i : Nat) : Int := if i = 0 then x.c0 else if i = 1 then x.c1 else if i = 2 then x.c2 else if i = 3 then x.c3 else if i = 4 then x.c4 else if i = 5 then x.c5 else if i = 6 then x.c6 else if i = 7 then x.c7 else if i = 8 then x.c8 else x.c9
abbrev K10.v (x : K10) : Array Value := #[.int .i64 x.c0, .int .i64 x.c1, .int .i64 x.c2, .int .i64 x.c3, .int .i64 x.c4, .int .i64 x.c5, .int .i64 x.c6, .int .i64 x.c7, .int .i64 x.c8, .int .i64 x.c9]
def K10.b (x y : K10) : Bool := x.c0 == y.c0 && (x.c1 == y.c1 && (x.c2 == y.c2 && (x.c3 == y.c3 && (x.c4 == y.c4 && (x.c5 == y.c5 && (x.c6 == y.c6 && (x.c7 == y.c7 && (x.c8 == y.c8 && (x.c9 == y.c9)))))))))
theorem K10.b_self (x : K10) : x.b x = true := by unfold K10.b; simp
theorem K10.b_eq {x y : K10} (h : x.b y = true) : x = y := by
  unfold K10.b at h
  simp at h
  cases x; cases y
  simp_all
/- such structs in memory, from place off of block g on -/
def UAt (w : World) (g off : Nat) (l : List K10) : Prop := ∀ i x, l[i]? = some x → ∀ f, f < 10 → w.cell? ⟨g, off + i * 10 + f, none⟩ = some (.int .i64 (x.f f))
theorem UAt.all {w : World} {g off : Nat} {l : List K10} (h : UAt w g off l) {i : Nat} {x : K10} (hi : l[i]? = some x) :
    w.cell? ⟨g, off + i * 10, none⟩ = some (.int .i64 x.c0) ∧ w.cell? ⟨g, off + i * 10 + 1, none⟩ = some (.int .i64 x.c1) ∧ w.cell? ⟨g, off + i * 10 + 2, none⟩ = some (.int .i64 x.c2) ∧ w.cell? ⟨g, off + i * 10 + 3, none⟩ = some (.int .i64 x.c3) ∧ w.cell? ⟨g, off + i * 10 + 4, none⟩ = some (.int .i64 x.c4) ∧ w.cell? ⟨g, off + i * 10 + 5, none⟩ = some (.int .i64 x.c5) ∧ w.cell? ⟨g, off + i * 10 + 6, none⟩ = some (.int .i64 x.c6) ∧ w.cell? ⟨g, off + i * 10 + 7, none⟩ = some (.int .i64 x.c7) ∧ w.cell? ⟨g, off + i * 10 + 8, none⟩ = some (.int .i64 x.c8) ∧ w.cell? ⟨g, off + i * 10 + 9, none⟩ = some (.int .i64 x.c9) :=
  ⟨h i x hi 0 (by omega), h i x hi 1 (by omega), h i x hi 2 (by omega), h i x hi 3 (by omega), h i x hi 4 (by omega), h i x hi 5 (by omega), h i x hi 6 (by omega), h i x hi 7 (by omega), h i x hi 8 (by omega), h i x hi 9 (by omega)⟩
theorem UAt.later {w w' : World} {g off : Nat} {l : List K10} (h : UAt w g off l) (hg : g < w.heap.size) (hb : Below w.heap.size w w') : UAt w' g off l := fun i x hi f hf => by rw [hb.cell hg]; exact h i x hi f hf
/- one such struct in memory, at place off of block g -/
structure U1 (w : World) (g off : Nat) (x : K10) : Prop where
  c0 : w.cell? ⟨g, off, none⟩ = some (.int .i64 x.c0)
  c1 : w.cell? ⟨g, off + 1, none⟩ = some (.int .i64 x.c1)
  c2 : w.cell? ⟨g, off + 2, none⟩ = some (.int .i64 x.c2)
  c3 : w.cell? ⟨g, off + 3, none⟩ = some (.int .i64 x.c3)
  c4 : w.cell? ⟨g, off + 4, none⟩ = some (.int .i64 x.c4)
  c5 : w.cell? ⟨g, off + 5, none⟩ = some (.int .i64 x.c5)
  c6 : w.cell? ⟨g, off + 6, none⟩ = some (.int .i64 x.c6)
  c7 : w.cell? ⟨g, off + 7, none⟩ = some (.int .i64 x.c7)
  c8 : w.cell? ⟨g, off + 8, none⟩ = some (.int .i64 x.c8)
  c9 : w.cell? ⟨g, off + 9, none⟩ = some (.int .i64 x.c9)
  lt : g < w.heap.size
theorem UAt.one {w : World} {g off : Nat} {l : List K10} (h : UAt w g off l) (hg : g < w.heap.size) {i : Nat} {x : K10} (hi : l[i]? = some x) : U1 w g (off + i * 10) x :=
  ⟨h i x hi 0 (by omega), h i x hi 1 (by omega), h i x hi 2 (by omega), h i x hi 3 (by omega), h i x hi 4 (by omega), h i x hi 5 (by omega), h i x hi 6 (by omega), h i x hi 7 (by omega), h i x hi 8 (by omega), h i x hi 9 (by omega), hg⟩
theorem U1.later {w w' : World} {g off : Nat} {x : K10} (h : U1 w g off x) (hb : Below w.heap.size w w') : U1 w' g off x :=
  ⟨by rw [hb.cell h.lt]; exact h.c0, by rw [hb.cell h.lt]; exact h.c1, by rw [hb.cell h.lt]; exact h.c2, by rw [hb.cell h.lt]; exact h.c3, by rw [hb.cell h.lt]; exact h.c4, by rw [hb.cell h.lt]; exact h.c5, by rw [hb.cell h.lt]; exact h.c6, by rw [hb.cell h.lt]; exact h.c7, by rw [hb.cell h.lt]; exact h.c8, by rw [hb.cell h.lt]; exact h.c9, Nat.lt_of_lt_of_le h.lt hb.size⟩
theorem U1.new (w : World) (x : K10) (t : TypeId) : U1 (w.alloc (.cells x.v t)) w.heap.size 0 x :=
  ⟨cell_new _ _ _ _ _ rfl, cell_new _ _ _ _ _ rfl, cell_new _ _ _ _ _ rfl, cell_new _ _ _ _ _ rfl, cell_new _ _ _ _ _ rfl, cell_new _ _ _ _ _ rfl, cell_new _ _ _ _ _ rfl, cell_new _ _ _ _ _ rfl, cell_new _ _ _ _ _ rfl, cell_new _ _ _ _ _ rfl, by rw [size_new]; omega⟩
set_option maxHeartbeats 1000000 in
theorem neqU (x y : K10) (w : World) : (binOp .neq 37 (.agg x.v) (.agg y.v)).run Tryd.prog w = .ok (.bool (!x.b y)) w := by
  rw [run_neq_struct, show (10000 : Nat) = 9999 + 1 from rfl, run_equalIn_agg w 9999 37 _ _ (by kernel_rfl) (by kernel_rfl)]
  simp only [Program.fieldsOf, Tryd.underlying37]
  unfold K10.b
  cases h0 : x.c0 == y.c0
  · go_simp; try rfl
  cases h1 : x.c1 == y.c1
  · go_simp; try rfl
  cases h2 : x.c2 == y.c2
  · go_simp; try rfl
  cases h3 : x.c3 == y.c3
  · go_simp; try rfl
  cases h4 : x.c4 == y.c4
  · go_simp; try rfl
  cases h5 : x.c5 == y.c5
  · go_simp; try rfl
  cases h6 : x.c6 == y.c6
  · go_simp; try rfl
  cases h7 : x.c7 == y.c7
  · go_simp; try rfl
  cases h8 : x.c8 == y.c8
  · go_simp; try rfl
  cases h9 : x.c9 == y.c9
  · go_simp; try rfl
  go_simp
  try rfl
/- are both lists the same -/
def allU : List K10 → List K10 → Bool
  | [], [] => true
  | x :: l, y :: l' => x.b y && allU l l'
  | _, _ => false
theorem allU_ne : ∀ (l l' : List K10), l.length ≠ l'.length → allU l l' = false
  | [], [], h => absurd rfl h
  | [], _ :: _, _ => rfl
  | _ :: _, [], _ => rfl
  | x :: l, y :: l', h => by unfold allU; rw [allU_ne l l' (by simpa using h), Bool.and_false]
theorem allU_step {l l' : List K10} {k : Nat} {x y : K10} (hx : l[k]? = some x) (hy : l'[k]? = some y) : allU (l.drop k) (l'.drop k) = (x.b y && allU (l.drop (k + 1)) (l'.drop (k + 1))) := by
  have e1 : l.drop k = x :: l.drop (k + 1) := by
    have h := (List.getElem?_eq_some_iff.1 hx)
    rw [List.drop_eq_getElem_cons h.1, h.2]
  have e2 : l'.drop k = y :: l'.drop (k + 1) := by
    have h := (List.getElem?_eq_some_iff.1 hy)
    rw [List.drop_eq_getElem_cons h.1, h.2]
  rw [e1, e2]; rfl
theorem infoU : (Tryd.prog.info? 37).map (fun i => (i.zero, i.size, i.bytes)) = some (some (.agg K10.z.v), 10, 80) := by kernel_rfl
theorem makeU (m : Nat) (hm : m ≤ 1048576) (w : World) : (Instr.makeSlice 24 (.int .i64 (m : Int)) (.int .i64 (m : Int))).run Tryd.prog w = .ok (.slice (some ⟨w.heap.size, 0, none⟩) m m) (w.alloc (.cells (madeCells K10.z.v (m * 10)) 37)) := by
  obtain ⟨i0, hi, hz0, hz1, hz2⟩ := info_parts infoU
  have h := run_make (P := Tryd.prog) w 24 37 i0 (.agg K10.z.v) Tryd.underlying24 hi hz0 .i64 .i64 (m : Int) (m : Int) (by omega) (Int.le_refl _) (by rw [hz2]; omega) (by omega)
  rw [hz1, Int.toNat_natCast] at h
  exact h
theorem row0U (w : World) (n : Nat) (t : TypeId) : (w.alloc (.cells (madeCells K10.z.v n) t)).rowIs w.heap.size t n (fun _ => .int .i64 0) := by
  refine ⟨madeCells K10.z.v n, ?_, size_madeCells _ _, fun i hi => ?_⟩
  · show (w.heap.push _)[w.heap.size]? = _
    simp
  · have h6 : i % 10 = 0 ∨ i % 10 = 1 ∨ i % 10 = 2 ∨ i % 10 = 3 ∨ i % 10 = 4 ∨ i % 10 = 5 ∨ i % 10 = 6 ∨ i % 10 = 7 ∨ i % 10 = 8 ∨ i % 10 = 9 := by omega
    simp only [madeCells]
    rw [Array.getElem?_map, Array.getElem?_range, if_pos hi]
    simp only [Option.map_some]
    congr 1
    show (K10.z.v)[i % 10]! = _
    rcases h6 with h | h | h | h | h | h | h | h | h | h <;> rw [h] <;> rfl
def rowU (l : List K10) (k : Nat) (j : Nat) : Value := if j < k * 10 then .int .i64 ((l.getD (j / 10) K10.z).f (j % 10)) else .int .i64 0
theorem rowU_at (l : List K10) (k i : Nat) : rowU l k (k * 10 + i) = .int .i64 0 := by unfold rowU; rw [if_neg (by omega)]
theorem rowU_set (l : List K10) (k : Nat) (x : K10) (h : l.getD k K10.z = x) (j : Nat) :
    (if j = k * 10 + 9 then Value.int .i64 x.c9 else if j = k * 10 + 8 then Value.int .i64 x.c8 else if j = k * 10 + 7 then Value.int .i64 x.c7 else if j = k * 10 + 6 then Value.int .i64 x.c6 else if j = k * 10 + 5 then Value.int .i64 x.c5 else if j = k * 10 + 4 then Value.int .i64 x.c4 else if j = k * 10 + 3 then Value.int .i64 x.c3 else if j = k * 10 + 2 then Value.int .i64 x.c2 else if j = k * 10 + 1 then Value.int .i64 x.c1 else if j = k * 10 then Value.int .i64 x.c0 else rowU l k j) = rowU l (k + 1) j := by
  have key : ∀ i, i < 10 → rowU l (k + 1) (k * 10 + i) = .int .i64 (x.f i) := fun i hi => by
    unfold rowU
    rw [if_pos (by omega), show (k * 10 + i) / 10 = k from by omega, show (k * 10 + i) % 10 = i from by omega, h]
  by_cases e9 : j = k * 10 + 9
  · rw [if_pos e9, e9, key 9 (by omega)]; rfl
  rw [if_neg e9]
  by_cases e8 : j = k * 10 + 8
  · rw [if_pos e8, e8, key 8 (by omega)]; rfl
  rw [if_neg e8]
  by_cases e7 : j = k * 10 + 7
  · rw [if_pos e7, e7, key 7 (by omega)]; rfl
  rw [if_neg e7]
  by_cases e6 : j = k * 10 + 6
  · rw [if_pos e6, e6, key 6 (by omega)]; rfl
  rw [if_neg e6]
  by_cases e5 : j = k * 10 + 5
  · rw [if_pos e5, e5, key 5 (by omega)]; rfl
  rw [if_neg e5]
  by_cases e4 : j = k * 10 + 4
  · rw [if_pos e4, e4, key 4 (by omega)]; rfl
  rw [if_neg e4]
  by_cases e3 : j = k * 10 + 3
  · rw [if_pos e3, e3, key 3 (by omega)]; rfl
  rw [if_neg e3]
  by_cases e2 : j = k * 10 + 2
  · rw [if_pos e2, e2, key 2 (by omega)]; rfl
  rw [if_neg e2]
  by_cases e1 : j = k * 10 + 1
  · rw [if_pos e1, e1, key 1 (by omega)]; rfl
  rw [if_neg e1]
  by_cases e0 : j = k * 10
  · rw [if_pos e0, e0]; exact (key 0 (by omega)).symm
  rw [if_neg e0]
  unfold rowU
  by_cases hj : j < k * 10
  · rw [if_pos hj, if_pos (by omega)]
  · rw [if_neg hj, if_neg (by omega)]
/- a list that came in -/
def ArgU (w : World) (a : Option Addr) (l : List K10) : Prop := l = [] ∨ ∃ b off, a = some ⟨b, off, none⟩ ∧ b < w.heap.size ∧ UAt w b off l
theorem ArgU.later {w w' : World} {a : Option Addr} {l : List K10} (h : ArgU w a l) (hb : Below w.heap.size w w') : ArgU w' a l := by
  rcases h with h | ⟨b, off, h1, h2, h3⟩
  · exact .inl h
  · exact .inr ⟨b, off, h1, Nat.lt_of_lt_of_le h2 hb.size, h3.later h2 hb⟩
end Go.Proofs.YtepjkcfheejlbaaDoor
end

/- OpenCmd -/
/- A struct whose fields are all numbers of the kind int64, as an argument: its cells are such numbers. No condition. -/
section
namespace Go.Proofs.YtepjkcfheejlbaaDoor
open Go.ChangeShapes Go.WideShapes Go.ChangeAt Go.RowKit
set_option linter.unusedVariables false

def i64Fields (e : TypeId) (fs : Array Field) : Bool := (List.range fs.size).all fun i => match fs[i]? with
  | some f => f.offset == i && f.type == e
  | none => false
theorem i64Fields.at {e : TypeId} {fs : Array Field} (h : i64Fields e fs = true) {i : Nat} (hi : i < fs.size) : ∃ f, fs[i]? = some f ∧ f.offset = i ∧ f.type = e := by
  have h1 := List.all_eq_true.1 h i (List.mem_range.2 hi)
  rw [Array.getElem?_eq_getElem hi] at h1 ⊢
  simp at h1
  exact ⟨_, rfl, h1.1, h1.2⟩
theorem cells_i64 {H : Type} {enc : TypeId × Value → H} {P : Program} {w : World} {base : Nat} {sp : Nat → Bool} {held : Bool} {fuel : Nat} {t e : TypeId} {fs : Array Field} {cs : List Value} {x : DataW H × List MemPlace}
    (ht : P.underlying t = some (.struct fs)) (he : P.underlying e = some (.int .i64)) (hce : P.cellsOf e = 1) (hct : P.cellsOf t = fs.size) (hok : i64Fields e fs = true)
    (h : DataW.trod enc P w base sp held fuel t cs = some x) : ∃ zs : List Int, cs = zs.map (Value.int .i64) ∧ zs.length = fs.size ∧ ∀ z ∈ zs, (Lit.int .i64 z).wf = true := by
  obtain ⟨xs, n, _, rfl, hl, hlen, hf⟩ := DataW.trod_struct ht h
  rw [hct] at hl
  have key : ∀ i, i < fs.size → ∃ z, cs[i]? = some (.int .i64 z) ∧ (Lit.int .i64 z).wf = true := by
    intro i hi
    obtain ⟨f, hfi, ho, hty⟩ := i64Fields.at hok hi
    have h1 := hf i f hfi
    rw [ho, hty, hce, List.getElem?_eq_getElem (by omega)] at h1
    obtain ⟨z, hc, _, hw⟩ := DataW.trod_int he h1
    refine ⟨z, ?_, hw⟩
    have := congrArg (·[0]?) hc
    simpa [List.getElem?_take, List.getElem?_drop] using this
  refine ⟨cs.map intOf, ?_, by simpa using hl, ?_⟩
  · apply List.ext_getElem?
    intro i
    by_cases hi : i < fs.size
    · obtain ⟨z, hz, _⟩ := key i hi
      simp [hz, intOf]
    · rw [List.getElem?_eq_none (by omega), List.getElem?_eq_none (by simp; omega)]
  · intro z hz
    obtain ⟨i, hi, e⟩ := List.getElem_of_mem hz
    obtain ⟨z', hz', hw⟩ := key i (by simpa [hl] using hi)
    simp at e hi
    rw [List.getElem?_eq_getElem hi] at hz'
    rw [← e, Option.some.inj hz']
    exact hw
theorem open_six {H : Type} {enc : TypeId × Value → H} {P : Program} {w : World} {base b0 : Nat} {sp : Nat → Bool} {held : Bool} {r : Reach} {t e : TypeId} {fs : Array Field} {v : Value} {d : DataW H} {p : List MemPlace}
    (ht : P.underlying t = some (.struct fs)) (he : P.underlying e = some (.int .i64)) (hce : P.cellsOf e = 1) (hct : P.cellsOf t = fs.size) (hsz : fs.size = 6) (hok : i64Fields e fs = true)
    (hv : Value.okWide P w r b0 t v) (h : DataW.Trod enc P w base sp held t v d p) :
    ∃ x0 x1 x2 x3 x4 x5 : Int, v = .agg #[.int .i64 x0, .int .i64 x1, .int .i64 x2, .int .i64 x3, .int .i64 x4, .int .i64 x5] ∧ (Lit.int .i64 x0).wf = true ∧ (Lit.int .i64 x1).wf = true ∧ (Lit.int .i64 x2).wf = true ∧ (Lit.int .i64 x3).wf = true ∧ (Lit.int .i64 x4).wf = true ∧ (Lit.int .i64 x5).wf = true := by
  obtain ⟨cs, rfl, hs⟩ := okWide_struct ht hv
  obtain ⟨fuel, hf⟩ := h
  obtain ⟨zs, hz, hl, hw⟩ := cells_i64 ht he hce hct hok hf
  rw [hsz] at hl
  match zs, hl with
  | [x0, x1, x2, x3, x4, x5], _ =>
    refine ⟨x0, x1, x2, x3, x4, x5, ?_, hw _ (by simp), hw _ (by simp), hw _ (by simp), hw _ (by simp), hw _ (by simp), hw _ (by simp)⟩
    have : cs.toList = [.int .i64 x0, .int .i64 x1, .int .i64 x2, .int .i64 x3, .int .i64 x4, .int .i64 x5] := by simpa [Value.cells] using hz
    rw [← Array.toArray_toList (xs := cs), this]
end Go.Proofs.YtepjkcfheejlbaaDoor
end

/- Later -/
/- A region that draws its order, whose operations read old cells and whose callees only make new memory: one walk in the order of the text serves every order. No condition. -/
section
namespace Go.Proofs.YtepjkcfheejlbaaDoor
open Go.RowKit

/- a world behind w in which all that was there is as it was -/
def Later (w : World) : Type := { w' : World // Below w.heap.size w w' }
def Later.at {w : World} (n : Later w) : World := n.1
theorem Later.bel {w : World} (n : Later w) : Below w.heap.size w n.at := n.2

theorem wp_region_later {P : Program} {id : Nat} {Q : Exit → Act → World → Prop} {a : Act} {w : World} {l : List Oper} (hm : P.follows .mixedOrders = true) (hB : Region.lexB .any l.toArray = true)
    (h : Nonempty (Later w) → wpQuiet P l.toArray (fun w' => ∃ n : Later w, w' = n.at) (fun a' => ∀ w', (∃ n : Later w, w' = n.at) → Q .normal a' w') l a) : (Code.region id l.toArray true).wp P Q a w :=
  wp_region_quiet (C := fun w' => ∃ n : Later w, w' = n.at) hm hB ⟨⟨w.drew, (Below.refl _ _).drew⟩, rfl⟩ (by simpa using h ⟨⟨w, Below.refl _ _⟩⟩)

theorem Later.call {P : Program} {f : FuncId} {args : Array Value} {w : World} {n : Later w} {v : Value}
    (h : Calls P f args n.at fun e w' => e = .returned v ∧ Below n.at.heap.size n.at w') : Calls P f args n.at fun e w'' => e = .returned v ∧ ∃ m : Later w, w'' = m.at :=
  h.mono fun _ w' ⟨he, hm⟩ => ⟨he, ⟨w', n.bel.trans (hm.mono n.bel.size)⟩, rfl⟩
theorem Later.call1 {P : Program} {f : FuncId} {args : Array Value} {w : World} {n : Later w} {v : Value} {o : Obj}
    (h : Calls P f args n.at fun e w' => e = .returned v ∧ w' = n.at.alloc o) : Calls P f args n.at fun e w'' => e = .returned v ∧ ∃ m : Later w, w'' = m.at :=
  Later.call (h.mono fun _ w' ⟨he, hm⟩ => ⟨he, by rw [hm]; exact (Below.refl _ _).alloc (Nat.le_refl _) _⟩)
theorem Later.call0 {P : Program} {f : FuncId} {args : Array Value} {w : World} {n : Later w} {v : Value}
    (h : Calls P f args n.at fun e w' => e = .returned v ∧ w' = n.at) : Calls P f args n.at fun e w'' => e = .returned v ∧ ∃ m : Later w, w'' = m.at :=
  Later.call (h.mono fun _ w' ⟨he, hm⟩ => ⟨he, by rw [hm]; exact Below.refl _ _⟩)

theorem Later.cell {w : World} {b o : Nat} {v : Value} (hb : b < w.heap.size) (h : w.cell? ⟨b, o, none⟩ = some v) (n : Later w) : n.at.cell? ⟨b, o, none⟩ = some v := by
  rw [n.bel.cell (p := ⟨b, o, none⟩) hb]; exact h
end Go.Proofs.YtepjkcfheejlbaaDoor
end

/- One -/
/- Addresses and cells. No condition. -/
section
namespace Go.Proofs.YtepjkcfheejlbaaDoor
open Go.RowKit

theorem add_plain' (b off n : Nat) : (⟨b, off, none⟩ : Addr).add n = ⟨b, off + n, none⟩ := by unfold Addr.add; split <;> simp_all
theorem cell_lt2 {w : World} {a : Addr} {v : Value} (h : w.cell? a = some v) : a.block < w.heap.size := by
  unfold World.cell? at h
  by_cases hb : a.block < w.heap.size
  · exact hb
  · rw [Array.getElem?_eq_none (by omega)] at h
    cases h
theorem below_drewN (w : World) (n : Nat) : Below w.heap.size w (w.drewN n) := ⟨rfl, rfl, rfl, Nat.le_refl _, fun _ _ => rfl⟩
theorem drewN_trans (w : World) (a b : Nat) : (w.drewN a).drewN b = w.drewN (a + b) := by unfold World.drewN; simp [Nat.add_assoc]
end Go.Proofs.YtepjkcfheejlbaaDoor
end

/- RowsU -/
/- Contracts of the exact laws' own helpers on unit and lists of them, and what such a list that came in is. Condition: the lists have at most 1048576 members. -/
section
namespace Go.Proofs.YtepjkcfheejlbaaDoor
open Go.ChangeShapes Go.WideShapes Go.ChangeAt Go.RowKit
set_option linter.unusedVariables false

theorem rowU_is {w : World} {g : Nat} {l : List K10} {m : Nat} {t : TypeId} (hl : l.length = m) (hrow : w.rowIs g t (m * 10) (rowU l m)) : UAt w g 0 l := fun i x hi f hf => by
  have hlt : i < m := by rw [← hl]; exact (List.getElem?_eq_some_iff.1 hi).1
  have hg : l.getD i K10.z = x := by rw [List.getD_eq_getElem?_getD, hi]; rfl
  rw [hrow.cell (by omega)]
  unfold rowU
  rw [if_pos (by omega), show (0 + i * 10 + f) / 10 = i from by omega, show (0 + i * 10 + f) % 10 = f from by omega, hg]
end Go.Proofs.YtepjkcfheejlbaaDoor
end

/- RowF -/
/- Lists of field in memory. No condition. -/
section
namespace Go.Proofs.YtepjkcfheejlbaaDoor
open Go.ChangeShapes Go.WideShapes Go.ChangeAt Go.RowKit
set_option linter.unusedVariables false

structure K3 where
  c0 : Int
  c1 : Int
  c2 : Int
def K3.z : K3 := ⟨0, 0, 0⟩
def K3.f (x : K3) (i : Nat) : Int := if i = 0 then x.c0 else if i = 1 then x.c1 else x.c2
abbrev K3.v (x : K3) : Array Value := #[.int .i64 x.c0, .int .i64 x.c1, .int .i64 x.c2]
def K3.b (x y : K3) : Bool := x.c0 == y.c0 && (x.c1 == y.c1 && (x.c2 == y.c2))
theorem K3.b_self (x : K3) : x.b x = true := by unfold K3.b; simp
theorem K3.b_eq {x y : K3} (h : x.b y = true) : x = y := by
  unfold K3.b at h
  simp at h
  cases x; cases y
  simp_all
/- such structs in memory, from place off of block g on -/
def FAt (w : World) (g off : Nat) (l : List K3) : Prop := ∀ i x, l[i]? = some x → ∀ f, f < 3 → w.cell? ⟨g, off + i * 3 + f, none⟩ = some (.int .i64 (x.f f))
theorem FAt.all {w : World} {g off : Nat} {l : List K3} (h : FAt w g off l) {i : Nat} {x : K3} (hi : l[i]? = some x) :
    w.cell? ⟨g, off + i * 3, none⟩ = some (.int .i64 x.c0) ∧ w.cell? ⟨g, off + i * 3 + 1, none⟩ = some (.int .i64 x.c1) ∧ w.cell? ⟨g, off + i * 3 + 2, none⟩ = some (.int .i64 x.c2) :=
  ⟨h i x hi 0 (by omega), h i x hi 1 (by omega), h i x hi 2 (by omega)⟩
theorem FAt.later {w w' : World} {g off : Nat} {l : List K3} (h : FAt w g off l) (hg : g < w.heap.size) (hb : Below w.heap.size w w') : FAt w' g off l := fun i x hi f hf => by rw [hb.cell hg]; exact h i x hi f hf
/- one such struct in memory, at place off of block g -/
structure F1 (w : World) (g off : Nat) (x : K3) : Prop where
  c0 : w.cell? ⟨g, off, none⟩ = some (.int .i64 x.c0)
  c1 : w.cell? ⟨g, off + 1, none⟩ = some (.int .i64 x.c1)
  c2 : w.cell? ⟨g, off + 2, none⟩ = some (.int .i64 x.c2)
  lt : g < w.heap.size
theorem FAt.one {w : World} {g off : Nat} {l : List K3} (h : FAt w g off l) (hg : g < w.heap.size) {i : Nat} {x : K3} (hi : l[i]? = some x) : F1 w g (off + i * 3) x :=
  ⟨h i x hi 0 (by omega), h i x hi 1 (by omega), h i x hi 2 (by omega), hg⟩
theorem F1.later {w w' : World} {g off : Nat} {x : K3} (h : F1 w g off x) (hb : Below w.heap.size w w') : F1 w' g off x :=
  ⟨by rw [hb.cell h.lt]; exact h.c0, by rw [hb.cell h.lt]; exact h.c1, by rw [hb.cell h.lt]; exact h.c2, Nat.lt_of_lt_of_le h.lt hb.size⟩
theorem F1.new (w : World) (x : K3) (t : TypeId) : F1 (w.alloc (.cells x.v t)) w.heap.size 0 x :=
  ⟨cell_new _ _ _ _ _ rfl, cell_new _ _ _ _ _ rfl, cell_new _ _ _ _ _ rfl, by rw [size_new]; omega⟩
set_option maxHeartbeats 1000000 in
theorem neqF (x y : K3) (w : World) : (binOp .neq 53 (.agg x.v) (.agg y.v)).run Tryd.prog w = .ok (.bool (!x.b y)) w := by
  rw [run_neq_struct, show (10000 : Nat) = 9999 + 1 from rfl, run_equalIn_agg w 9999 53 _ _ (by kernel_rfl) (by kernel_rfl)]
  simp only [Program.fieldsOf, Tryd.underlying53]
  unfold K3.b
  cases h0 : x.c0 == y.c0
  · go_simp; try rfl
  cases h1 : x.c1 == y.c1
  · go_simp; try rfl
  cases h2 : x.c2 == y.c2
  · go_simp; try rfl
  go_simp
  try rfl
/- are both lists the same -/
def allF : List K3 → List K3 → Bool
  | [], [] => true
  | x :: l, y :: l' => x.b y && allF l l'
  | _, _ => false
theorem allF_ne : ∀ (l l' : List K3), l.length ≠ l'.length → allF l l' = false
  | [], [], h => absurd rfl h
  | [], _ :: _, _ => rfl
  | _ :: _, [], _ => rfl
  | x :: l, y :: l', h => by unfold allF; rw [allF_ne l l' (by simpa using h), Bool.and_false]
theorem allF_step {l l' : List K3} {k : Nat} {x y : K3} (hx : l[k]? = some x) (hy : l'[k]? = some y) : allF (l.drop k) (l'.drop k) = (x.b y && allF (l.drop (k + 1)) (l'.drop (k + 1))) := by
  have e1 : l.drop k = x :: l.drop (k + 1) := by
    have h := (List.getElem?_eq_some_iff.1 hx)
    rw [List.drop_eq_getElem_cons h.1, h.2]
  have e2 : l'.drop k = y :: l'.drop (k + 1) := by
    have h := (List.getElem?_eq_some_iff.1 hy)
    rw [List.drop_eq_getElem_cons h.1, h.2]
  rw [e1, e2]; rfl
theorem infoF : (Tryd.prog.info? 53).map (fun i => (i.zero, i.size, i.bytes)) = some (some (.agg K3.z.v), 3, 24) := by kernel_rfl
theorem makeF (m : Nat) (hm : m ≤ 1048576) (w : World) : (Instr.makeSlice 25 (.int .i64 (m : Int)) (.int .i64 (m : Int))).run Tryd.prog w = .ok (.slice (some ⟨w.heap.size, 0, none⟩) m m) (w.alloc (.cells (madeCells K3.z.v (m * 3)) 53)) := by
  obtain ⟨i0, hi, hz0, hz1, hz2⟩ := info_parts infoF
  have h := run_make (P := Tryd.prog) w 25 53 i0 (.agg K3.z.v) Tryd.underlying25 hi hz0 .i64 .i64 (m : Int) (m : Int) (by omega) (Int.le_refl _) (by rw [hz2]; omega) (by omega)
  rw [hz1, Int.toNat_natCast] at h
  exact h
theorem row0F (w : World) (n : Nat) (t : TypeId) : (w.alloc (.cells (madeCells K3.z.v n) t)).rowIs w.heap.size t n (fun _ => .int .i64 0) := by
  refine ⟨madeCells K3.z.v n, ?_, size_madeCells _ _, fun i hi => ?_⟩
  · show (w.heap.push _)[w.heap.size]? = _
    simp
  · have h6 : i % 3 = 0 ∨ i % 3 = 1 ∨ i % 3 = 2 := by omega
    simp only [madeCells]
    rw [Array.getElem?_map, Array.getElem?_range, if_pos hi]
    simp only [Option.map_some]
    congr 1
    show (K3.z.v)[i % 3]! = _
    rcases h6 with h | h | h <;> rw [h] <;> rfl
def rowF (l : List K3) (k : Nat) (j : Nat) : Value := if j < k * 3 then .int .i64 ((l.getD (j / 3) K3.z).f (j % 3)) else .int .i64 0
theorem rowF_at (l : List K3) (k i : Nat) : rowF l k (k * 3 + i) = .int .i64 0 := by unfold rowF; rw [if_neg (by omega)]
theorem rowF_set (l : List K3) (k : Nat) (x : K3) (h : l.getD k K3.z = x) (j : Nat) :
    (if j = k * 3 + 2 then Value.int .i64 x.c2 else if j = k * 3 + 1 then Value.int .i64 x.c1 else if j = k * 3 then Value.int .i64 x.c0 else rowF l k j) = rowF l (k + 1) j := by
  have key : ∀ i, i < 3 → rowF l (k + 1) (k * 3 + i) = .int .i64 (x.f i) := fun i hi => by
    unfold rowF
    rw [if_pos (by omega), show (k * 3 + i) / 3 = k from by omega, show (k * 3 + i) % 3 = i from by omega, h]
  by_cases e2 : j = k * 3 + 2
  · rw [if_pos e2, e2, key 2 (by omega)]; rfl
  rw [if_neg e2]
  by_cases e1 : j = k * 3 + 1
  · rw [if_pos e1, e1, key 1 (by omega)]; rfl
  rw [if_neg e1]
  by_cases e0 : j = k * 3
  · rw [if_pos e0, e0]; exact (key 0 (by omega)).symm
  rw [if_neg e0]
  unfold rowF
  by_cases hj : j < k * 3
  · rw [if_pos hj, if_pos (by omega)]
  · rw [if_neg hj, if_neg (by omega)]
/- a list that came in -/
def ArgF (w : World) (a : Option Addr) (l : List K3) : Prop := l = [] ∨ ∃ b off, a = some ⟨b, off, none⟩ ∧ b < w.heap.size ∧ FAt w b off l
theorem ArgF.later {w w' : World} {a : Option Addr} {l : List K3} (h : ArgF w a l) (hb : Below w.heap.size w w') : ArgF w' a l := by
  rcases h with h | ⟨b, off, h1, h2, h3⟩
  · exact .inl h
  · exact .inr ⟨b, off, h1, Nat.lt_of_lt_of_le h2 hb.size, h3.later h2 hb⟩
end Go.Proofs.YtepjkcfheejlbaaDoor
end

/- RowsF -/
/- Contracts of the exact laws' own helpers on field and lists of them, and what such a list that came in is. Condition: the lists have at most 1048576 members. -/
section
namespace Go.Proofs.YtepjkcfheejlbaaDoor
open Go.ChangeShapes Go.WideShapes Go.ChangeAt Go.RowKit
set_option linter.unusedVariables false

theorem rowF_is {w : World} {g : Nat} {l : List K3} {m : Nat} {t : TypeId} (hl : l.length = m) (hrow : w.rowIs g t (m * 3) (rowF l m)) : FAt w g 0 l := fun i x hi f hf => by
  have hlt : i < m := by rw [← hl]; exact (List.getElem?_eq_some_iff.1 hi).1
  have hg : l.getD i K3.z = x := by rw [List.getD_eq_getElem?_getD, hi]; rfl
  rw [hrow.cell (by omega)]
  unfold rowF
  rw [if_pos (by omega), show (0 + i * 3 + f) / 3 = i from by omega, show (0 + i * 3 + f) % 3 = f from by omega, hg]
end Go.Proofs.YtepjkcfheejlbaaDoor
end
