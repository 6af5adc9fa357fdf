/- Lists of offer in memory. No condition. -/
import Derived.Test.YtibkdkjcncfmgaaRows
import Derived.WalkKit
import Derived.ProofKit
import Derived.OpenShut
import Derived.ShutString
import Derived.WalkLawsBesides
import Derived.ChangeOld
import Derived.Below
import Derived.OwnWalk
import Derived.Deep.OwnRows
import Derived.Deep.QuietTactic
import Derived.BigQuiet
import Derived.Deep.Light
import Derived.Laws.StructEq
import Derived.Laws.MakeOwn
import Derived.Deep.Slices
import Derived.Test.YtibkdkjcncfmgaaCells
namespace Go.Proofs.Ytibkdkjcncfmgaa
open Go.ChangeShapes Go.WideShapes Go.ChangeAt Go.RowKit
set_option linter.unusedVariables false

structure K2 where
  c0 : Int
  c1 : Int
def K2.z : K2 := ⟨0, 0⟩
def K2.f (x : K2) (i : Nat) : Value := if i = 0 then .int .i64 x.c0 else .int .i64 x.c1
abbrev K2.v (x : K2) : Array Value := #[.int .i64 x.c0, .int .i64 x.c1]
def K2.b (x y : K2) : Bool := x.c0 == y.c0 && (x.c1 == y.c1)
theorem K2.b_self (x : K2) : x.b x = true := by unfold K2.b; simp
theorem K2.b_eq {x y : K2} (h : x.b y = true) : x = y := by
  unfold K2.b at h
  simp at h
  cases x; cases y
  simp_all
/- such structs in memory, from place off of block g on -/
def OAt (w : World) (g off : Nat) (l : List K2) : Prop := ∀ i x, l[i]? = some x → ∀ f, f < 2 → w.cell? ⟨g, off + i * 2 + f, none⟩ = some (x.f f)
theorem OAt.all {w : World} {g off : Nat} {l : List K2} (h : OAt w g off l) {i : Nat} {x : K2} (hi : l[i]? = some x) :
    w.cell? ⟨g, off + i * 2, none⟩ = some (.int .i64 x.c0) ∧ w.cell? ⟨g, off + i * 2 + 1, none⟩ = some (.int .i64 x.c1) :=
  ⟨h i x hi 0 (by omega), h i x hi 1 (by omega)⟩
theorem OAt.later {w w' : World} {g off : Nat} {l : List K2} (h : OAt w g off l) (hg : g < w.heap.size) (hb : Below w.heap.size w w') : OAt w' g off l := fun i x hi f hf => by rw [hb.cell hg]; exact h i x hi f hf
/- one such struct in memory, at place off of block g -/
structure O1 (w : World) (g off : Nat) (x : K2) : Prop where
  c0 : w.cell? ⟨g, off, none⟩ = some (.int .i64 x.c0)
  c1 : w.cell? ⟨g, off + 1, none⟩ = some (.int .i64 x.c1)
  lt : g < w.heap.size
theorem OAt.one {w : World} {g off : Nat} {l : List K2} (h : OAt w g off l) (hg : g < w.heap.size) {i : Nat} {x : K2} (hi : l[i]? = some x) : O1 w g (off + i * 2) x :=
  ⟨h i x hi 0 (by omega), h i x hi 1 (by omega), hg⟩
theorem O1.later {w w' : World} {g off : Nat} {x : K2} (h : O1 w g off x) (hb : Below w.heap.size w w') : O1 w' g off x :=
  ⟨by rw [hb.cell h.lt]; exact h.c0, by rw [hb.cell h.lt]; exact h.c1, Nat.lt_of_lt_of_le h.lt hb.size⟩
theorem O1.new (w : World) (x : K2) (t : TypeId) : O1 (w.alloc (.cells x.v t)) w.heap.size 0 x :=
  ⟨cell_new _ _ _ _ _ rfl, cell_new _ _ _ _ _ rfl, by rw [size_new]; omega⟩
set_option maxHeartbeats 1000000 in
theorem neqO (x y : K2) (w : World) : (binOp .neq 169 (.agg x.v) (.agg y.v)).run Try.prog w = .ok (.bool (!x.b y)) w := by
  rw [run_neq_struct, show (10000 : Nat) = 9999 + 1 from rfl, run_equalIn_agg w 9999 169 _ _ (by kernel_rfl) (by kernel_rfl)]
  simp only [Program.fieldsOf, Try.underlying169]
  unfold K2.b
  cases h0 : x.c0 == y.c0
  · go_simp; try rfl
  cases h1 : x.c1 == y.c1
  · go_simp; try rfl
  go_simp
  try rfl
/- are both lists the same -/
def allO : List K2 → List K2 → Bool
  | [], [] => true
  | x :: l, y :: l' => x.b y && allO l l'
  | _, _ => false
theorem allO_ne : ∀ (l l' : List K2), l.length ≠ l'.length → allO l l' = false
  | [], [], h => absurd rfl h
  | [], _ :: _, _ => rfl
  | _ :: _, [], _ => rfl
  | x :: l, y :: l', h => by unfold allO; rw [allO_ne l l' (by simpa using h), Bool.and_false]
theorem allO_step {l l' : List K2} {k : Nat} {x y : K2} (hx : l[k]? = some x) (hy : l'[k]? = some y) : allO (l.drop k) (l'.drop k) = (x.b y && allO (l.drop (k + 1)) (l'.drop (k + 1))) := by
  have e1 : l.drop k = x :: l.drop (k + 1) := by
    have h := (List.getElem?_eq_some_iff.1 hx)
    rw [List.drop_eq_getElem_cons h.1, h.2]
  have e2 : l'.drop k = y :: l'.drop (k + 1) := by
    have h := (List.getElem?_eq_some_iff.1 hy)
    rw [List.drop_eq_getElem_cons h.1, h.2]
  rw [e1, e2]; rfl
theorem infoO : (Try.prog.info? 169).map (fun i => (i.zero, i.size, i.bytes)) = some (some (.agg K2.z.v), 2, 16) := by kernel_rfl
theorem makeO (m : Nat) (hm : m ≤ 1048576) (w : World) : (Instr.makeSlice 69 (.int .i64 (m : Int)) (.int .i64 (m : Int))).run Try.prog w = .ok (.slice (some ⟨w.heap.size, 0, none⟩) m m) (w.alloc (.cells (madeCells K2.z.v (m * 2)) 169)) := by
  obtain ⟨i0, hi, hz0, hz1, hz2⟩ := info_parts infoO
  have h := run_make (P := Try.prog) w 69 169 i0 (.agg K2.z.v) Try.underlying69 hi hz0 .i64 .i64 (m : Int) (m : Int) (by omega) (Int.le_refl _) (by rw [hz2]; omega) (by omega)
  rw [hz1, Int.toNat_natCast] at h
  exact h
theorem row0O (w : World) (n : Nat) (t : TypeId) : (w.alloc (.cells (madeCells K2.z.v n) t)).rowIs w.heap.size t n (fun i => K2.z.f (i % 2)) := by
  refine ⟨madeCells K2.z.v n, ?_, size_madeCells _ _, fun i hi => ?_⟩
  · show (w.heap.push _)[w.heap.size]? = _
    simp
  · have h6 : i % 2 = 0 ∨ i % 2 = 1 := by omega
    simp only [madeCells]
    rw [Array.getElem?_map, Array.getElem?_range, if_pos hi]
    simp only [Option.map_some]
    congr 1
    show (K2.z.v)[i % 2]! = _
    rcases h6 with h | h <;> rw [h] <;> rfl
def rowO (l : List K2) (k : Nat) (j : Nat) : Value := if j < k * 2 then (l.getD (j / 2) K2.z).f (j % 2) else K2.z.f (j % 2)
theorem rowO_at (l : List K2) (k i : Nat) (hi : i < 2) : rowO l k (k * 2 + i) = K2.z.f i := by unfold rowO; rw [if_neg (by omega), show (k * 2 + i) % 2 = i from by omega]
theorem rowO_set (l : List K2) (k : Nat) (x : K2) (h : l.getD k K2.z = x) (j : Nat) :
    (if j = k * 2 + 1 then (.int .i64 x.c1 : Value) else if j = k * 2 then (.int .i64 x.c0 : Value) else rowO l k j) = rowO l (k + 1) j := by
  have key : ∀ i, i < 2 → rowO l (k + 1) (k * 2 + i) = x.f i := fun i hi => by
    unfold rowO
    rw [if_pos (by omega), show (k * 2 + i) / 2 = k from by omega, show (k * 2 + i) % 2 = i from by omega, h]
  by_cases e1 : j = k * 2 + 1
  · rw [if_pos e1, e1, key 1 (by omega)]; rfl
  rw [if_neg e1]
  by_cases e0 : j = k * 2
  · rw [if_pos e0, e0]; exact (key 0 (by omega)).symm
  rw [if_neg e0]
  unfold rowO
  by_cases hj : j < k * 2
  · rw [if_pos hj, if_pos (by omega)]
  · rw [if_neg hj, if_neg (by omega)]
/- a list that came in -/
def ArgO (w : World) (a : Option Addr) (l : List K2) : Prop := l = [] ∨ ∃ b off, a = some ⟨b, off, none⟩ ∧ b < w.heap.size ∧ OAt w b off l
theorem ArgO.later {w w' : World} {a : Option Addr} {l : List K2} (h : ArgO w a l) (hb : Below w.heap.size w w') : ArgO w' a l := by
  rcases h with h | ⟨b, off, h1, h2, h3⟩
  · exact .inl h
  · exact .inr ⟨b, off, h1, Nat.lt_of_lt_of_le h2 hb.size, h3.later h2 hb⟩
end Go.Proofs.Ytibkdkjcncfmgaa
