/- Lists of field in memory. No condition. -/
import Derived.Test.YtibkdkjcncfmgaaRows
import Derived.WalkKit
import Derived.ProofKit
import Derived.OpenShut
import Derived.ShutString
import Derived.WalkLawsBesides
import Derived.ChangeOld
import Derived.Below
import Derived.OwnWalk
import Derived.Deep.OwnRows
import Derived.Deep.QuietTactic
import Derived.BigQuiet
import Derived.Deep.Light
import Derived.Laws.StructEq
import Derived.Laws.MakeOwn
import Derived.Deep.Slices
import Derived.Test.YtibkdkjcncfmgaaCells
namespace Go.Proofs.Ytibkdkjcncfmgaa
open Go.ChangeShapes Go.WideShapes Go.ChangeAt Go.RowKit
set_option linter.unusedVariables false

structure K3 where
  c0 : Int
  c1 : Int
  c2 : Int
def K3.z : K3 := ⟨0, 0, 0⟩
def K3.f (x : K3) (i : Nat) : Int := if i = 0 then x.c0 else if i = 1 then x.c1 else x.c2
abbrev K3.v (x : K3) : Array Value := #[.int .i64 x.c0, .int .i64 x.c1, .int .i64 x.c2]
def K3.b (x y : K3) : Bool := x.c0 == y.c0 && (x.c1 == y.c1 && (x.c2 == y.c2))
theorem K3.b_self (x : K3) : x.b x = true := by unfold K3.b; simp
theorem K3.b_eq {x y : K3} (h : x.b y = true) : x = y := by
  unfold K3.b at h
  simp at h
  cases x; cases y
  simp_all
/- such structs in memory, from place off of block g on -/
def FAt (w : World) (g off : Nat) (l : List K3) : Prop := ∀ i x, l[i]? = some x → ∀ f, f < 3 → w.cell? ⟨g, off + i * 3 + f, none⟩ = some (.int .i64 (x.f f))
theorem FAt.all {w : World} {g off : Nat} {l : List K3} (h : FAt w g off l) {i : Nat} {x : K3} (hi : l[i]? = some x) :
    w.cell? ⟨g, off + i * 3, none⟩ = some (.int .i64 x.c0) ∧ w.cell? ⟨g, off + i * 3 + 1, none⟩ = some (.int .i64 x.c1) ∧ w.cell? ⟨g, off + i * 3 + 2, none⟩ = some (.int .i64 x.c2) :=
  ⟨h i x hi 0 (by omega), h i x hi 1 (by omega), h i x hi 2 (by omega)⟩
theorem FAt.later {w w' : World} {g off : Nat} {l : List K3} (h : FAt w g off l) (hg : g < w.heap.size) (hb : Below w.heap.size w w') : FAt w' g off l := fun i x hi f hf => by rw [hb.cell hg]; exact h i x hi f hf
/- one such struct in memory, at place off of block g -/
structure F1 (w : World) (g off : Nat) (x : K3) : Prop where
  c0 : w.cell? ⟨g, off, none⟩ = some (.int .i64 x.c0)
  c1 : w.cell? ⟨g, off + 1, none⟩ = some (.int .i64 x.c1)
  c2 : w.cell? ⟨g, off + 2, none⟩ = some (.int .i64 x.c2)
  lt : g < w.heap.size
theorem FAt.one {w : World} {g off : Nat} {l : List K3} (h : FAt w g off l) (hg : g < w.heap.size) {i : Nat} {x : K3} (hi : l[i]? = some x) : F1 w g (off + i * 3) x :=
  ⟨h i x hi 0 (by omega), h i x hi 1 (by omega), h i x hi 2 (by omega), hg⟩
theorem F1.later {w w' : World} {g off : Nat} {x : K3} (h : F1 w g off x) (hb : Below w.heap.size w w') : F1 w' g off x :=
  ⟨by rw [hb.cell h.lt]; exact h.c0, by rw [hb.cell h.lt]; exact h.c1, by rw [hb.cell h.lt]; exact h.c2, Nat.lt_of_lt_of_le h.lt hb.size⟩
theorem F1.new (w : World) (x : K3) (t : TypeId) : F1 (w.alloc (.cells x.v t)) w.heap.size 0 x :=
  ⟨cell_new _ _ _ _ _ rfl, cell_new _ _ _ _ _ rfl, cell_new _ _ _ _ _ rfl, by rw [size_new]; omega⟩
set_option maxHeartbeats 1000000 in
theorem neqF (x y : K3) (w : World) : (binOp .neq 105 (.agg x.v) (.agg y.v)).run Try.prog w = .ok (.bool (!x.b y)) w := by
  rw [run_neq_struct, show (10000 : Nat) = 9999 + 1 from rfl, run_equalIn_agg w 9999 105 _ _ (by kernel_rfl) (by kernel_rfl)]
  simp only [Program.fieldsOf, Try.underlying105]
  unfold K3.b
  cases h0 : x.c0 == y.c0
  · go_simp; try rfl
  cases h1 : x.c1 == y.c1
  · go_simp; try rfl
  cases h2 : x.c2 == y.c2
  · go_simp; try rfl
  go_simp
  try rfl
/- are both lists the same -/
def allF : List K3 → List K3 → Bool
  | [], [] => true
  | x :: l, y :: l' => x.b y && allF l l'
  | _, _ => false
theorem allF_ne : ∀ (l l' : List K3), l.length ≠ l'.length → allF l l' = false
  | [], [], h => absurd rfl h
  | [], _ :: _, _ => rfl
  | _ :: _, [], _ => rfl
  | x :: l, y :: l', h => by unfold allF; rw [allF_ne l l' (by simpa using h), Bool.and_false]
theorem allF_step {l l' : List K3} {k : Nat} {x y : K3} (hx : l[k]? = some x) (hy : l'[k]? = some y) : allF (l.drop k) (l'.drop k) = (x.b y && allF (l.drop (k + 1)) (l'.drop (k + 1))) := by
  have e1 : l.drop k = x :: l.drop (k + 1) := by
    have h := (List.getElem?_eq_some_iff.1 hx)
    rw [List.drop_eq_getElem_cons h.1, h.2]
  have e2 : l'.drop k = y :: l'.drop (k + 1) := by
    have h := (List.getElem?_eq_some_iff.1 hy)
    rw [List.drop_eq_getElem_cons h.1, h.2]
  rw [e1, e2]; rfl
theorem infoF : (Try.prog.info? 105).map (fun i => (i.zero, i.size, i.bytes)) = some (some (.agg K3.z.v), 3, 24) := by kernel_rfl
theorem makeF (m : Nat) (hm : m ≤ 1048576) (w : World) : (Instr.makeSlice 25 (.int .i64 (m : Int)) (.int .i64 (m : Int))).run Try.prog w = .ok (.slice (some ⟨w.heap.size, 0, none⟩) m m) (w.alloc (.cells (madeCells K3.z.v (m * 3)) 105)) := by
  obtain ⟨i0, hi, hz0, hz1, hz2⟩ := info_parts infoF
  have h := run_make (P := Try.prog) w 25 105 i0 (.agg K3.z.v) Try.underlying25 hi hz0 .i64 .i64 (m : Int) (m : Int) (by omega) (Int.le_refl _) (by rw [hz2]; omega) (by omega)
  rw [hz1, Int.toNat_natCast] at h
  exact h
theorem row0F (w : World) (n : Nat) (t : TypeId) : (w.alloc (.cells (madeCells K3.z.v n) t)).rowIs w.heap.size t n (fun _ => .int .i64 0) := by
  refine ⟨madeCells K3.z.v n, ?_, size_madeCells _ _, fun i hi => ?_⟩
  · show (w.heap.push _)[w.heap.size]? = _
    simp
  · have h6 : i % 3 = 0 ∨ i % 3 = 1 ∨ i % 3 = 2 := by omega
    simp only [madeCells]
    rw [Array.getElem?_map, Array.getElem?_range, if_pos hi]
    simp only [Option.map_some]
    congr 1
    show (K3.z.v)[i % 3]! = _
    rcases h6 with h | h | h <;> rw [h] <;> rfl
def rowF (l : List K3) (k : Nat) (j : Nat) : Value := if j < k * 3 then .int .i64 ((l.getD (j / 3) K3.z).f (j % 3)) else .int .i64 0
theorem rowF_at (l : List K3) (k i : Nat) : rowF l k (k * 3 + i) = .int .i64 0 := by unfold rowF; rw [if_neg (by omega)]
theorem rowF_set (l : List K3) (k : Nat) (x : K3) (h : l.getD k K3.z = x) (j : Nat) :
    (if j = k * 3 + 2 then Value.int .i64 x.c2 else if j = k * 3 + 1 then Value.int .i64 x.c1 else if j = k * 3 then Value.int .i64 x.c0 else rowF l k j) = rowF l (k + 1) j := by
  have key : ∀ i, i < 3 → rowF l (k + 1) (k * 3 + i) = .int .i64 (x.f i) := fun i hi => by
    unfold rowF
    rw [if_pos (by omega), show (k * 3 + i) / 3 = k from by omega, show (k * 3 + i) % 3 = i from by omega, h]
  by_cases e2 : j = k * 3 + 2
  · rw [if_pos e2, e2, key 2 (by omega)]; rfl
  rw [if_neg e2]
  by_cases e1 : j = k * 3 + 1
  · rw [if_pos e1, e1, key 1 (by omega)]; rfl
  rw [if_neg e1]
  by_cases e0 : j = k * 3
  · rw [if_pos e0, e0]; exact (key 0 (by omega)).symm
  rw [if_neg e0]
  unfold rowF
  by_cases hj : j < k * 3
  · rw [if_pos hj, if_pos (by omega)]
  · rw [if_neg hj, if_neg (by omega)]
/- a list that came in -/
def ArgF (w : World) (a : Option Addr) (l : List K3) : Prop := l = [] ∨ ∃ b off, a = some ⟨b, off, none⟩ ∧ b < w.heap.size ∧ FAt w b off l
theorem ArgF.later {w w' : World} {a : Option Addr} {l : List K3} (h : ArgF w a l) (hb : Below w.heap.size w w') : ArgF w' a l := by
  rcases h with h | ⟨b, off, h1, h2, h3⟩
  · exact .inl h
  · exact .inr ⟨b, off, h1, Nat.lt_of_lt_of_le h2 hb.size, h3.later h2 hb⟩
end Go.Proofs.Ytibkdkjcncfmgaa
