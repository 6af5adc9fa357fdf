/- Lists of seat in memory. No condition. -/
import Derived.Test.YtibkdkjcncfmgaaRows
import Derived.WalkKit
import Derived.ProofKit
import Derived.OpenShut
import Derived.ShutString
import Derived.WalkLawsBesides
import Derived.ChangeOld
import Derived.Below
import Derived.OwnWalk
import Derived.Deep.OwnRows
import Derived.Deep.QuietTactic
import Derived.BigQuiet
import Derived.Deep.Light
import Derived.Laws.StructEq
import Derived.Laws.MakeOwn
import Derived.Deep.Slices
import Derived.Test.YtibkdkjcncfmgaaCells
namespace Go.Proofs.Ytibkdkjcncfmgaa
open Go.ChangeShapes Go.WideShapes Go.ChangeAt Go.RowKit
set_option linter.unusedVariables false

structure K4 where
  c0 : Int
  c1 : Int
  c2 : Int
  c3 : Int
def K4.z : K4 := ⟨0, 0, 0, 0⟩
def K4.f (x : K4) (i : Nat) : Value := if i = 0 then .int .i64 x.c0 else if i = 1 then .int .i64 x.c1 else if i = 2 then .int .i64 x.c2 else .int .i64 x.c3
abbrev K4.v (x : K4) : Array Value := #[.int .i64 x.c0, .int .i64 x.c1, .int .i64 x.c2, .int .i64 x.c3]
def K4.b (x y : K4) : Bool := x.c0 == y.c0 && (x.c1 == y.c1 && (x.c2 == y.c2 && (x.c3 == y.c3)))
theorem K4.b_self (x : K4) : x.b x = true := by unfold K4.b; simp
theorem K4.b_eq {x y : K4} (h : x.b y = true) : x = y := by
  unfold K4.b at h
  simp at h
  cases x; cases y
  simp_all
/- such structs in memory, from place off of block g on -/
def SAt (w : World) (g off : Nat) (l : List K4) : Prop := ∀ i x, l[i]? = some x → ∀ f, f < 4 → w.cell? ⟨g, off + i * 4 + f, none⟩ = some (x.f f)
theorem SAt.all {w : World} {g off : Nat} {l : List K4} (h : SAt w g off l) {i : Nat} {x : K4} (hi : l[i]? = some x) :
    w.cell? ⟨g, off + i * 4, none⟩ = some (.int .i64 x.c0) ∧ w.cell? ⟨g, off + i * 4 + 1, none⟩ = some (.int .i64 x.c1) ∧ w.cell? ⟨g, off + i * 4 + 2, none⟩ = some (.int .i64 x.c2) ∧ w.cell? ⟨g, off + i * 4 + 3, none⟩ = some (.int .i64 x.c3) :=
  ⟨h i x hi 0 (by omega), h i x hi 1 (by omega), h i x hi 2 (by omega), h i x hi 3 (by omega)⟩
theorem SAt.later {w w' : World} {g off : Nat} {l : List K4} (h : SAt w g off l) (hg : g < w.heap.size) (hb : Below w.heap.size w w') : SAt w' g off l := fun i x hi f hf => by rw [hb.cell hg]; exact h i x hi f hf
/- one such struct in memory, at place off of block g -/
structure S1 (w : World) (g off : Nat) (x : K4) : Prop where
  c0 : w.cell? ⟨g, off, none⟩ = some (.int .i64 x.c0)
  c1 : w.cell? ⟨g, off + 1, none⟩ = some (.int .i64 x.c1)
  c2 : w.cell? ⟨g, off + 2, none⟩ = some (.int .i64 x.c2)
  c3 : w.cell? ⟨g, off + 3, none⟩ = some (.int .i64 x.c3)
  lt : g < w.heap.size
theorem SAt.one {w : World} {g off : Nat} {l : List K4} (h : SAt w g off l) (hg : g < w.heap.size) {i : Nat} {x : K4} (hi : l[i]? = some x) : S1 w g (off + i * 4) x :=
  ⟨h i x hi 0 (by omega), h i x hi 1 (by omega), h i x hi 2 (by omega), h i x hi 3 (by omega), hg⟩
theorem S1.later {w w' : World} {g off : Nat} {x : K4} (h : S1 w g off x) (hb : Below w.heap.size w w') : S1 w' g off x :=
  ⟨by rw [hb.cell h.lt]; exact h.c0, by rw [hb.cell h.lt]; exact h.c1, by rw [hb.cell h.lt]; exact h.c2, by rw [hb.cell h.lt]; exact h.c3, Nat.lt_of_lt_of_le h.lt hb.size⟩
theorem S1.new (w : World) (x : K4) (t : TypeId) : S1 (w.alloc (.cells x.v t)) w.heap.size 0 x :=
  ⟨cell_new _ _ _ _ _ rfl, cell_new _ _ _ _ _ rfl, cell_new _ _ _ _ _ rfl, cell_new _ _ _ _ _ rfl, by rw [size_new]; omega⟩
set_option maxHeartbeats 1000000 in
theorem neqS (x y : K4) (w : World) : (binOp .neq 82 (.agg x.v) (.agg y.v)).run Try.prog w = .ok (.bool (!x.b y)) w := by
  rw [run_neq_struct, show (10000 : Nat) = 9999 + 1 from rfl, run_equalIn_agg w 9999 82 _ _ (by kernel_rfl) (by kernel_rfl)]
  simp only [Program.fieldsOf, Try.underlying82]
  unfold K4.b
  cases h0 : x.c0 == y.c0
  · go_simp; try rfl
  cases h1 : x.c1 == y.c1
  · go_simp; try rfl
  cases h2 : x.c2 == y.c2
  · go_simp; try rfl
  cases h3 : x.c3 == y.c3
  · go_simp; try rfl
  go_simp
  try rfl
/- are both lists the same -/
def allS : List K4 → List K4 → Bool
  | [], [] => true
  | x :: l, y :: l' => x.b y && allS l l'
  | _, _ => false
theorem allS_ne : ∀ (l l' : List K4), l.length ≠ l'.length → allS l l' = false
  | [], [], h => absurd rfl h
  | [], _ :: _, _ => rfl
  | _ :: _, [], _ => rfl
  | x :: l, y :: l', h => by unfold allS; rw [allS_ne l l' (by simpa using h), Bool.and_false]
theorem allS_step {l l' : List K4} {k : Nat} {x y : K4} (hx : l[k]? = some x) (hy : l'[k]? = some y) : allS (l.drop k) (l'.drop k) = (x.b y && allS (l.drop (k + 1)) (l'.drop (k + 1))) := by
  have e1 : l.drop k = x :: l.drop (k + 1) := by
    have h := (List.getElem?_eq_some_iff.1 hx)
    rw [List.drop_eq_getElem_cons h.1, h.2]
  have e2 : l'.drop k = y :: l'.drop (k + 1) := by
    have h := (List.getElem?_eq_some_iff.1 hy)
    rw [List.drop_eq_getElem_cons h.1, h.2]
  rw [e1, e2]; rfl
theorem infoS : (Try.prog.info? 82).map (fun i => (i.zero, i.size, i.bytes)) = some (some (.agg K4.z.v), 4, 32) := by kernel_rfl
theorem makeS (m : Nat) (hm : m ≤ 1048576) (w : World) : (Instr.makeSlice 68 (.int .i64 (m : Int)) (.int .i64 (m : Int))).run Try.prog w = .ok (.slice (some ⟨w.heap.size, 0, none⟩) m m) (w.alloc (.cells (madeCells K4.z.v (m * 4)) 82)) := by
  obtain ⟨i0, hi, hz0, hz1, hz2⟩ := info_parts infoS
  have h := run_make (P := Try.prog) w 68 82 i0 (.agg K4.z.v) Try.underlying68 hi hz0 .i64 .i64 (m : Int) (m : Int) (by omega) (Int.le_refl _) (by rw [hz2]; omega) (by omega)
  rw [hz1, Int.toNat_natCast] at h
  exact h
theorem row0S (w : World) (n : Nat) (t : TypeId) : (w.alloc (.cells (madeCells K4.z.v n) t)).rowIs w.heap.size t n (fun i => K4.z.f (i % 4)) := by
  refine ⟨madeCells K4.z.v n, ?_, size_madeCells _ _, fun i hi => ?_⟩
  · show (w.heap.push _)[w.heap.size]? = _
    simp
  · have h6 : i % 4 = 0 ∨ i % 4 = 1 ∨ i % 4 = 2 ∨ i % 4 = 3 := by omega
    simp only [madeCells]
    rw [Array.getElem?_map, Array.getElem?_range, if_pos hi]
    simp only [Option.map_some]
    congr 1
    show (K4.z.v)[i % 4]! = _
    rcases h6 with h | h | h | h <;> rw [h] <;> rfl
def rowS (l : List K4) (k : Nat) (j : Nat) : Value := if j < k * 4 then (l.getD (j / 4) K4.z).f (j % 4) else K4.z.f (j % 4)
theorem rowS_at (l : List K4) (k i : Nat) (hi : i < 4) : rowS l k (k * 4 + i) = K4.z.f i := by unfold rowS; rw [if_neg (by omega), show (k * 4 + i) % 4 = i from by omega]
theorem rowS_set (l : List K4) (k : Nat) (x : K4) (h : l.getD k K4.z = x) (j : Nat) :
    (if j = k * 4 + 3 then (.int .i64 x.c3 : Value) else if j = k * 4 + 2 then (.int .i64 x.c2 : Value) else if j = k * 4 + 1 then (.int .i64 x.c1 : Value) else if j = k * 4 then (.int .i64 x.c0 : Value) else rowS l k j) = rowS l (k + 1) j := by
  have key : ∀ i, i < 4 → rowS l (k + 1) (k * 4 + i) = x.f i := fun i hi => by
    unfold rowS
    rw [if_pos (by omega), show (k * 4 + i) / 4 = k from by omega, show (k * 4 + i) % 4 = i from by omega, h]
  by_cases e3 : j = k * 4 + 3
  · rw [if_pos e3, e3, key 3 (by omega)]; rfl
  rw [if_neg e3]
  by_cases e2 : j = k * 4 + 2
  · rw [if_pos e2, e2, key 2 (by omega)]; rfl
  rw [if_neg e2]
  by_cases e1 : j = k * 4 + 1
  · rw [if_pos e1, e1, key 1 (by omega)]; rfl
  rw [if_neg e1]
  by_cases e0 : j = k * 4
  · rw [if_pos e0, e0]; exact (key 0 (by omega)).symm
  rw [if_neg e0]
  unfold rowS
  by_cases hj : j < k * 4
  · rw [if_pos hj, if_pos (by omega)]
  · rw [if_neg hj, if_neg (by omega)]
/- a list that came in -/
def ArgS (w : World) (a : Option Addr) (l : List K4) : Prop := l = [] ∨ ∃ b off, a = some ⟨b, off, none⟩ ∧ b < w.heap.size ∧ SAt w b off l
theorem ArgS.later {w w' : World} {a : Option Addr} {l : List K4} (h : ArgS w a l) (hb : Below w.heap.size w w') : ArgS w' a l := by
  rcases h with h | ⟨b, off, h1, h2, h3⟩
  · exact .inl h
  · exact .inr ⟨b, off, h1, Nat.lt_of_lt_of_le h2 hb.size, h3.later h2 hb⟩
end Go.Proofs.Ytibkdkjcncfmgaa
