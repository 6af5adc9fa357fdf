/- Lists of unit in memory. No condition. -/
import Derived.Test.YtibkdkjcncfmgaaRows
import Derived.WalkKit
import Derived.ProofKit
import Derived.OpenShut
import Derived.ShutString
import Derived.WalkLawsBesides
import Derived.ChangeOld
import Derived.Below
import Derived.OwnWalk
import Derived.Deep.OwnRows
import Derived.Deep.QuietTactic
import Derived.BigQuiet
import Derived.Deep.Light
import Derived.Laws.StructEq
import Derived.Laws.MakeOwn
import Derived.Deep.Slices
import Derived.Test.YtibkdkjcncfmgaaCells
namespace Go.Proofs.Ytibkdkjcncfmgaa
open Go.ChangeShapes Go.WideShapes Go.ChangeAt Go.RowKit
set_option linter.unusedVariables false

structure K10 where
  c0 : Int
  c1 : Int
  c2 : Int
  c3 : Int
  c4 : Int
  c5 : Int
  c6 : Int
  c7 : Int
  c8 : Int
  c9 : Int
def K10.z : K10 := ⟨0, 0, 0, 0, 0, 0, 0, 0, 0, 0⟩
def K10.f (x : K10) (i : Nat) : Int := if i = 0 then x.c0 else if i = 1 then x.c1 else if i = 2 then x.c2 else if i = 3 then x.c3 else if i = 4 then x.c4 else if i = 5 then x.c5 else if i = 6 then x.c6 else if i = 7 then x.c7 else if i = 8 then x.c8 else x.c9
abbrev K10.v (x : K10) : Array Value := #[.int .i64 x.c0, .int .i64 x.c1, .int .i64 x.c2, .int .i64 x.c3, .int .i64 x.c4, .int .i64 x.c5, .int .i64 x.c6, .int .i64 x.c7, .int .i64 x.c8, .int .i64 x.c9]
def K10.b (x y : K10) : Bool := x.c0 == y.c0 && (x.c1 == y.c1 && (x.c2 == y.c2 && (x.c3 == y.c3 && (x.c4 == y.c4 && (x.c5 == y.c5 && (x.c6 == y.c6 && (x.c7 == y.c7 && (x.c8 == y.c8 && (x.c9 == y.c9)))))))))
theorem K10.b_self (x : K10) : x.b x = true := by unfold K10.b; simp
theorem K10.b_eq {x y : K10} (h : x.b y = true) : x = y := by
  unfold K10.b at h
  simp at h
  cases x; cases y
  simp_all
/- such structs in memory, from place off of block g on -/
def UAt (w : World) (g off : Nat) (l : List K10) : Prop := ∀ i x, l[i]? = some x → ∀ f, f < 10 → w.cell? ⟨g, off + i * 10 + f, none⟩ = some (.int .i64 (x.f f))
theorem UAt.all {w : World} {g off : Nat} {l : List K10} (h : UAt w g off l) {i : Nat} {x : K10} (hi : l[i]? = some x) :
    w.cell? ⟨g, off + i * 10, none⟩ = some (.int .i64 x.c0) ∧ w.cell? ⟨g, off + i * 10 + 1, none⟩ = some (.int .i64 x.c1) ∧ w.cell? ⟨g, off + i * 10 + 2, none⟩ = some (.int .i64 x.c2) ∧ w.cell? ⟨g, off + i * 10 + 3, none⟩ = some (.int .i64 x.c3) ∧ w.cell? ⟨g, off + i * 10 + 4, none⟩ = some (.int .i64 x.c4) ∧ w.cell? ⟨g, off + i * 10 + 5, none⟩ = some (.int .i64 x.c5) ∧ w.cell? ⟨g, off + i * 10 + 6, none⟩ = some (.int .i64 x.c6) ∧ w.cell? ⟨g, off + i * 10 + 7, none⟩ = some (.int .i64 x.c7) ∧ w.cell? ⟨g, off + i * 10 + 8, none⟩ = some (.int .i64 x.c8) ∧ w.cell? ⟨g, off + i * 10 + 9, none⟩ = some (.int .i64 x.c9) :=
  ⟨h i x hi 0 (by omega), h i x hi 1 (by omega), h i x hi 2 (by omega), h i x hi 3 (by omega), h i x hi 4 (by omega), h i x hi 5 (by omega), h i x hi 6 (by omega), h i x hi 7 (by omega), h i x hi 8 (by omega), h i x hi 9 (by omega)⟩
theorem UAt.later {w w' : World} {g off : Nat} {l : List K10} (h : UAt w g off l) (hg : g < w.heap.size) (hb : Below w.heap.size w w') : UAt w' g off l := fun i x hi f hf => by rw [hb.cell hg]; exact h i x hi f hf
/- one such struct in memory, at place off of block g -/
structure U1 (w : World) (g off : Nat) (x : K10) : Prop where
  c0 : w.cell? ⟨g, off, none⟩ = some (.int .i64 x.c0)
  c1 : w.cell? ⟨g, off + 1, none⟩ = some (.int .i64 x.c1)
  c2 : w.cell? ⟨g, off + 2, none⟩ = some (.int .i64 x.c2)
  c3 : w.cell? ⟨g, off + 3, none⟩ = some (.int .i64 x.c3)
  c4 : w.cell? ⟨g, off + 4, none⟩ = some (.int .i64 x.c4)
  c5 : w.cell? ⟨g, off + 5, none⟩ = some (.int .i64 x.c5)
  c6 : w.cell? ⟨g, off + 6, none⟩ = some (.int .i64 x.c6)
  c7 : w.cell? ⟨g, off + 7, none⟩ = some (.int .i64 x.c7)
  c8 : w.cell? ⟨g, off + 8, none⟩ = some (.int .i64 x.c8)
  c9 : w.cell? ⟨g, off + 9, none⟩ = some (.int .i64 x.c9)
  lt : g < w.heap.size
theorem UAt.one {w : World} {g off : Nat} {l : List K10} (h : UAt w g off l) (hg : g < w.heap.size) {i : Nat} {x : K10} (hi : l[i]? = some x) : U1 w g (off + i * 10) x :=
  ⟨h i x hi 0 (by omega), h i x hi 1 (by omega), h i x hi 2 (by omega), h i x hi 3 (by omega), h i x hi 4 (by omega), h i x hi 5 (by omega), h i x hi 6 (by omega), h i x hi 7 (by omega), h i x hi 8 (by omega), h i x hi 9 (by omega), hg⟩
theorem U1.later {w w' : World} {g off : Nat} {x : K10} (h : U1 w g off x) (hb : Below w.heap.size w w') : U1 w' g off x :=
  ⟨by rw [hb.cell h.lt]; exact h.c0, by rw [hb.cell h.lt]; exact h.c1, by rw [hb.cell h.lt]; exact h.c2, by rw [hb.cell h.lt]; exact h.c3, by rw [hb.cell h.lt]; exact h.c4, by rw [hb.cell h.lt]; exact h.c5, by rw [hb.cell h.lt]; exact h.c6, by rw [hb.cell h.lt]; exact h.c7, by rw [hb.cell h.lt]; exact h.c8, by rw [hb.cell h.lt]; exact h.c9, Nat.lt_of_lt_of_le h.lt hb.size⟩
theorem U1.new (w : World) (x : K10) (t : TypeId) : U1 (w.alloc (.cells x.v t)) w.heap.size 0 x :=
  ⟨cell_new _ _ _ _ _ rfl, cell_new _ _ _ _ _ rfl, cell_new _ _ _ _ _ rfl, cell_new _ _ _ _ _ rfl, cell_new _ _ _ _ _ rfl, cell_new _ _ _ _ _ rfl, cell_new _ _ _ _ _ rfl, cell_new _ _ _ _ _ rfl, cell_new _ _ _ _ _ rfl, cell_new _ _ _ _ _ rfl, by rw [size_new]; omega⟩
set_option maxHeartbeats 1000000 in
theorem neqU (x y : K10) (w : World) : (binOp .neq 29 (.agg x.v) (.agg y.v)).run Try.prog w = .ok (.bool (!x.b y)) w := by
  rw [run_neq_struct, show (10000 : Nat) = 9999 + 1 from rfl, run_equalIn_agg w 9999 29 _ _ (by kernel_rfl) (by kernel_rfl)]
  simp only [Program.fieldsOf, Try.underlying29]
  unfold K10.b
  cases h0 : x.c0 == y.c0
  · go_simp; try rfl
  cases h1 : x.c1 == y.c1
  · go_simp; try rfl
  cases h2 : x.c2 == y.c2
  · go_simp; try rfl
  cases h3 : x.c3 == y.c3
  · go_simp; try rfl
  cases h4 : x.c4 == y.c4
  · go_simp; try rfl
  cases h5 : x.c5 == y.c5
  · go_simp; try rfl
  cases h6 : x.c6 == y.c6
  · go_simp; try rfl
  cases h7 : x.c7 == y.c7
  · go_simp; try rfl
  cases h8 : x.c8 == y.c8
  · go_simp; try rfl
  cases h9 : x.c9 == y.c9
  · go_simp; try rfl
  go_simp
  try rfl
/- are both lists the same -/
def allU : List K10 → List K10 → Bool
  | [], [] => true
  | x :: l, y :: l' => x.b y && allU l l'
  | _, _ => false
theorem allU_ne : ∀ (l l' : List K10), l.length ≠ l'.length → allU l l' = false
  | [], [], h => absurd rfl h
  | [], _ :: _, _ => rfl
  | _ :: _, [], _ => rfl
  | x :: l, y :: l', h => by unfold allU; rw [allU_ne l l' (by simpa using h), Bool.and_false]
theorem allU_step {l l' : List K10} {k : Nat} {x y : K10} (hx : l[k]? = some x) (hy : l'[k]? = some y) : allU (l.drop k) (l'.drop k) = (x.b y && allU (l.drop (k + 1)) (l'.drop (k + 1))) := by
  have e1 : l.drop k = x :: l.drop (k + 1) := by
    have h := (List.getElem?_eq_some_iff.1 hx)
    rw [List.drop_eq_getElem_cons h.1, h.2]
  have e2 : l'.drop k = y :: l'.drop (k + 1) := by
    have h := (List.getElem?_eq_some_iff.1 hy)
    rw [List.drop_eq_getElem_cons h.1, h.2]
  rw [e1, e2]; rfl
theorem infoU : (Try.prog.info? 29).map (fun i => (i.zero, i.size, i.bytes)) = some (some (.agg K10.z.v), 10, 80) := by kernel_rfl
theorem makeU (m : Nat) (hm : m ≤ 1048576) (w : World) : (Instr.makeSlice 24 (.int .i64 (m : Int)) (.int .i64 (m : Int))).run Try.prog w = .ok (.slice (some ⟨w.heap.size, 0, none⟩) m m) (w.alloc (.cells (madeCells K10.z.v (m * 10)) 29)) := by
  obtain ⟨i0, hi, hz0, hz1, hz2⟩ := info_parts infoU
  have h := run_make (P := Try.prog) w 24 29 i0 (.agg K10.z.v) Try.underlying24 hi hz0 .i64 .i64 (m : Int) (m : Int) (by omega) (Int.le_refl _) (by rw [hz2]; omega) (by omega)
  rw [hz1, Int.toNat_natCast] at h
  exact h
theorem row0U (w : World) (n : Nat) (t : TypeId) : (w.alloc (.cells (madeCells K10.z.v n) t)).rowIs w.heap.size t n (fun _ => .int .i64 0) := by
  refine ⟨madeCells K10.z.v n, ?_, size_madeCells _ _, fun i hi => ?_⟩
  · show (w.heap.push _)[w.heap.size]? = _
    simp
  · have h6 : i % 10 = 0 ∨ i % 10 = 1 ∨ i % 10 = 2 ∨ i % 10 = 3 ∨ i % 10 = 4 ∨ i % 10 = 5 ∨ i % 10 = 6 ∨ i % 10 = 7 ∨ i % 10 = 8 ∨ i % 10 = 9 := by omega
    simp only [madeCells]
    rw [Array.getElem?_map, Array.getElem?_range, if_pos hi]
    simp only [Option.map_some]
    congr 1
    show (K10.z.v)[i % 10]! = _
    rcases h6 with h | h | h | h | h | h | h | h | h | h <;> rw [h] <;> rfl
def rowU (l : List K10) (k : Nat) (j : Nat) : Value := if j < k * 10 then .int .i64 ((l.getD (j / 10) K10.z).f (j % 10)) else .int .i64 0
theorem rowU_at (l : List K10) (k i : Nat) : rowU l k (k * 10 + i) = .int .i64 0 := by unfold rowU; rw [if_neg (by omega)]
theorem rowU_set (l : List K10) (k : Nat) (x : K10) (h : l.getD k K10.z = x) (j : Nat) :
    (if j = k * 10 + 9 then Value.int .i64 x.c9 else if j = k * 10 + 8 then Value.int .i64 x.c8 else if j = k * 10 + 7 then Value.int .i64 x.c7 else if j = k * 10 + 6 then Value.int .i64 x.c6 else if j = k * 10 + 5 then Value.int .i64 x.c5 else if j = k * 10 + 4 then Value.int .i64 x.c4 else if j = k * 10 + 3 then Value.int .i64 x.c3 else if j = k * 10 + 2 then Value.int .i64 x.c2 else if j = k * 10 + 1 then Value.int .i64 x.c1 else if j = k * 10 then Value.int .i64 x.c0 else rowU l k j) = rowU l (k + 1) j := by
  have key : ∀ i, i < 10 → rowU l (k + 1) (k * 10 + i) = .int .i64 (x.f i) := fun i hi => by
    unfold rowU
    rw [if_pos (by omega), show (k * 10 + i) / 10 = k from by omega, show (k * 10 + i) % 10 = i from by omega, h]
  by_cases e9 : j = k * 10 + 9
  · rw [if_pos e9, e9, key 9 (by omega)]; rfl
  rw [if_neg e9]
  by_cases e8 : j = k * 10 + 8
  · rw [if_pos e8, e8, key 8 (by omega)]; rfl
  rw [if_neg e8]
  by_cases e7 : j = k * 10 + 7
  · rw [if_pos e7, e7, key 7 (by omega)]; rfl
  rw [if_neg e7]
  by_cases e6 : j = k * 10 + 6
  · rw [if_pos e6, e6, key 6 (by omega)]; rfl
  rw [if_neg e6]
  by_cases e5 : j = k * 10 + 5
  · rw [if_pos e5, e5, key 5 (by omega)]; rfl
  rw [if_neg e5]
  by_cases e4 : j = k * 10 + 4
  · rw [if_pos e4, e4, key 4 (by omega)]; rfl
  rw [if_neg e4]
  by_cases e3 : j = k * 10 + 3
  · rw [if_pos e3, e3, key 3 (by omega)]; rfl
  rw [if_neg e3]
  by_cases e2 : j = k * 10 + 2
  · rw [if_pos e2, e2, key 2 (by omega)]; rfl
  rw [if_neg e2]
  by_cases e1 : j = k * 10 + 1
  · rw [if_pos e1, e1, key 1 (by omega)]; rfl
  rw [if_neg e1]
  by_cases e0 : j = k * 10
  · rw [if_pos e0, e0]; exact (key 0 (by omega)).symm
  rw [if_neg e0]
  unfold rowU
  by_cases hj : j < k * 10
  · rw [if_pos hj, if_pos (by omega)]
  · rw [if_neg hj, if_neg (by omega)]
/- a list that came in -/
def ArgU (w : World) (a : Option Addr) (l : List K10) : Prop := l = [] ∨ ∃ b off, a = some ⟨b, off, none⟩ ∧ b < w.heap.size ∧ UAt w b off l
theorem ArgU.later {w w' : World} {a : Option Addr} {l : List K10} (h : ArgU w a l) (hb : Below w.heap.size w w') : ArgU w' a l := by
  rcases h with h | ⟨b, off, h1, h2, h3⟩
  · exact .inl h
  · exact .inr ⟨b, off, h1, Nat.lt_of_lt_of_le h2 hb.size, h3.later h2 hb⟩
end Go.Proofs.Ytibkdkjcncfmgaa
