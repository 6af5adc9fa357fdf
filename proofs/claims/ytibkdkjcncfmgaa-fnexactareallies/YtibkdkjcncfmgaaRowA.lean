/- Lists of faction in memory. No condition. -/
import Derived.Test.YtibkdkjcncfmgaaRows
import Derived.WalkKit
import Derived.ProofKit
import Derived.OpenShut
import Derived.ShutString
import Derived.WalkLawsBesides
import Derived.ChangeOld
import Derived.Below
import Derived.OwnWalk
import Derived.Deep.OwnRows
import Derived.Deep.QuietTactic
import Derived.BigQuiet
import Derived.Deep.Light
import Derived.Laws.StructEq
import Derived.Laws.MakeOwn
import Derived.Deep.Slices
import Derived.Test.YtibkdkjcncfmgaaCells
namespace Go.Proofs.Ytibkdkjcncfmgaa
open Go.ChangeShapes Go.WideShapes Go.ChangeAt Go.RowKit
set_option linter.unusedVariables false

structure KA where
  c0 : Int
  c1 : Bool
  c2 : Int
def KA.z : KA := ⟨0, false, 0⟩
def KA.f (x : KA) (i : Nat) : Value := if i = 0 then .int .i64 x.c0 else if i = 1 then .bool x.c1 else .int .i64 x.c2
abbrev KA.v (x : KA) : Array Value := #[.int .i64 x.c0, .bool x.c1, .int .i64 x.c2]
def KA.b (x y : KA) : Bool := x.c0 == y.c0 && (x.c1 == y.c1 && (x.c2 == y.c2))
theorem KA.b_self (x : KA) : x.b x = true := by unfold KA.b; simp
theorem KA.b_eq {x y : KA} (h : x.b y = true) : x = y := by
  unfold KA.b at h
  simp at h
  cases x; cases y
  simp_all
/- such structs in memory, from place off of block g on -/
def AAt (w : World) (g off : Nat) (l : List KA) : Prop := ∀ i x, l[i]? = some x → ∀ f, f < 3 → w.cell? ⟨g, off + i * 3 + f, none⟩ = some (x.f f)
theorem AAt.all {w : World} {g off : Nat} {l : List KA} (h : AAt w g off l) {i : Nat} {x : KA} (hi : l[i]? = some x) :
    w.cell? ⟨g, off + i * 3, none⟩ = some (.int .i64 x.c0) ∧ w.cell? ⟨g, off + i * 3 + 1, none⟩ = some (.bool x.c1) ∧ w.cell? ⟨g, off + i * 3 + 2, none⟩ = some (.int .i64 x.c2) :=
  ⟨h i x hi 0 (by omega), h i x hi 1 (by omega), h i x hi 2 (by omega)⟩
theorem AAt.later {w w' : World} {g off : Nat} {l : List KA} (h : AAt w g off l) (hg : g < w.heap.size) (hb : Below w.heap.size w w') : AAt w' g off l := fun i x hi f hf => by rw [hb.cell hg]; exact h i x hi f hf
/- one such struct in memory, at place off of block g -/
structure A1 (w : World) (g off : Nat) (x : KA) : Prop where
  c0 : w.cell? ⟨g, off, none⟩ = some (.int .i64 x.c0)
  c1 : w.cell? ⟨g, off + 1, none⟩ = some (.bool x.c1)
  c2 : w.cell? ⟨g, off + 2, none⟩ = some (.int .i64 x.c2)
  lt : g < w.heap.size
theorem AAt.one {w : World} {g off : Nat} {l : List KA} (h : AAt w g off l) (hg : g < w.heap.size) {i : Nat} {x : KA} (hi : l[i]? = some x) : A1 w g (off + i * 3) x :=
  ⟨h i x hi 0 (by omega), h i x hi 1 (by omega), h i x hi 2 (by omega), hg⟩
theorem A1.later {w w' : World} {g off : Nat} {x : KA} (h : A1 w g off x) (hb : Below w.heap.size w w') : A1 w' g off x :=
  ⟨by rw [hb.cell h.lt]; exact h.c0, by rw [hb.cell h.lt]; exact h.c1, by rw [hb.cell h.lt]; exact h.c2, Nat.lt_of_lt_of_le h.lt hb.size⟩
theorem A1.new (w : World) (x : KA) (t : TypeId) : A1 (w.alloc (.cells x.v t)) w.heap.size 0 x :=
  ⟨cell_new _ _ _ _ _ rfl, cell_new _ _ _ _ _ rfl, cell_new _ _ _ _ _ rfl, by rw [size_new]; omega⟩
set_option maxHeartbeats 1000000 in
theorem neqA (x y : KA) (w : World) : (binOp .neq 148 (.agg x.v) (.agg y.v)).run Try.prog w = .ok (.bool (!x.b y)) w := by
  rw [run_neq_struct, show (10000 : Nat) = 9999 + 1 from rfl, run_equalIn_agg w 9999 148 _ _ (by kernel_rfl) (by kernel_rfl)]
  simp only [Program.fieldsOf, Try.underlying148]
  unfold KA.b
  cases h0 : x.c0 == y.c0
  · go_simp; try rfl
  cases h1 : x.c1 == y.c1
  · go_simp; try rfl
  cases h2 : x.c2 == y.c2
  · go_simp; try rfl
  go_simp
  try rfl
/- are both lists the same -/
def allA : List KA → List KA → Bool
  | [], [] => true
  | x :: l, y :: l' => x.b y && allA l l'
  | _, _ => false
theorem allA_ne : ∀ (l l' : List KA), l.length ≠ l'.length → allA l l' = false
  | [], [], h => absurd rfl h
  | [], _ :: _, _ => rfl
  | _ :: _, [], _ => rfl
  | x :: l, y :: l', h => by unfold allA; rw [allA_ne l l' (by simpa using h), Bool.and_false]
theorem allA_step {l l' : List KA} {k : Nat} {x y : KA} (hx : l[k]? = some x) (hy : l'[k]? = some y) : allA (l.drop k) (l'.drop k) = (x.b y && allA (l.drop (k + 1)) (l'.drop (k + 1))) := by
  have e1 : l.drop k = x :: l.drop (k + 1) := by
    have h := (List.getElem?_eq_some_iff.1 hx)
    rw [List.drop_eq_getElem_cons h.1, h.2]
  have e2 : l'.drop k = y :: l'.drop (k + 1) := by
    have h := (List.getElem?_eq_some_iff.1 hy)
    rw [List.drop_eq_getElem_cons h.1, h.2]
  rw [e1, e2]; rfl
theorem infoA : (Try.prog.info? 148).map (fun i => (i.zero, i.size, i.bytes)) = some (some (.agg KA.z.v), 3, 24) := by kernel_rfl
theorem makeA (m : Nat) (hm : m ≤ 1048576) (w : World) : (Instr.makeSlice 67 (.int .i64 (m : Int)) (.int .i64 (m : Int))).run Try.prog w = .ok (.slice (some ⟨w.heap.size, 0, none⟩) m m) (w.alloc (.cells (madeCells KA.z.v (m * 3)) 148)) := by
  obtain ⟨i0, hi, hz0, hz1, hz2⟩ := info_parts infoA
  have h := run_make (P := Try.prog) w 67 148 i0 (.agg KA.z.v) Try.underlying67 hi hz0 .i64 .i64 (m : Int) (m : Int) (by omega) (Int.le_refl _) (by rw [hz2]; omega) (by omega)
  rw [hz1, Int.toNat_natCast] at h
  exact h
theorem row0A (w : World) (n : Nat) (t : TypeId) : (w.alloc (.cells (madeCells KA.z.v n) t)).rowIs w.heap.size t n (fun i => KA.z.f (i % 3)) := by
  refine ⟨madeCells KA.z.v n, ?_, size_madeCells _ _, fun i hi => ?_⟩
  · show (w.heap.push _)[w.heap.size]? = _
    simp
  · have h6 : i % 3 = 0 ∨ i % 3 = 1 ∨ i % 3 = 2 := by omega
    simp only [madeCells]
    rw [Array.getElem?_map, Array.getElem?_range, if_pos hi]
    simp only [Option.map_some]
    congr 1
    show (KA.z.v)[i % 3]! = _
    rcases h6 with h | h | h <;> rw [h] <;> rfl
def rowA (l : List KA) (k : Nat) (j : Nat) : Value := if j < k * 3 then (l.getD (j / 3) KA.z).f (j % 3) else KA.z.f (j % 3)
theorem rowA_at (l : List KA) (k i : Nat) (hi : i < 3) : rowA l k (k * 3 + i) = KA.z.f i := by unfold rowA; rw [if_neg (by omega), show (k * 3 + i) % 3 = i from by omega]
theorem rowA_set (l : List KA) (k : Nat) (x : KA) (h : l.getD k KA.z = x) (j : Nat) :
    (if j = k * 3 + 2 then (.int .i64 x.c2 : Value) else if j = k * 3 + 1 then (.bool x.c1 : Value) else if j = k * 3 then (.int .i64 x.c0 : Value) else rowA l k j) = rowA l (k + 1) j := by
  have key : ∀ i, i < 3 → rowA l (k + 1) (k * 3 + i) = x.f i := fun i hi => by
    unfold rowA
    rw [if_pos (by omega), show (k * 3 + i) / 3 = k from by omega, show (k * 3 + i) % 3 = i from by omega, h]
  by_cases e2 : j = k * 3 + 2
  · rw [if_pos e2, e2, key 2 (by omega)]; rfl
  rw [if_neg e2]
  by_cases e1 : j = k * 3 + 1
  · rw [if_pos e1, e1, key 1 (by omega)]; rfl
  rw [if_neg e1]
  by_cases e0 : j = k * 3
  · rw [if_pos e0, e0]; exact (key 0 (by omega)).symm
  rw [if_neg e0]
  unfold rowA
  by_cases hj : j < k * 3
  · rw [if_pos hj, if_pos (by omega)]
  · rw [if_neg hj, if_neg (by omega)]
/- a list that came in -/
def ArgA (w : World) (a : Option Addr) (l : List KA) : Prop := l = [] ∨ ∃ b off, a = some ⟨b, off, none⟩ ∧ b < w.heap.size ∧ AAt w b off l
theorem ArgA.later {w w' : World} {a : Option Addr} {l : List KA} (h : ArgA w a l) (hb : Below w.heap.size w w') : ArgA w' a l := by
  rcases h with h | ⟨b, off, h1, h2, h3⟩
  · exact .inl h
  · exact .inr ⟨b, off, h1, Nat.lt_of_lt_of_le h2 hb.size, h3.later h2 hb⟩
end Go.Proofs.Ytibkdkjcncfmgaa
