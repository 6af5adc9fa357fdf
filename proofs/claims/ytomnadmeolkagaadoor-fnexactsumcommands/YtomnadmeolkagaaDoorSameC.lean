/- Lists of commands in memory. No condition. -/
import Derived.Test.YtomnadmeolkagaaDoorRows
import Derived.WalkKit
import Derived.ProofKit
import Derived.OpenShut
import Derived.ShutString
import Derived.WalkLawsBesides
import Derived.ChangeOld
import Derived.Below
import Derived.OwnWalk
import Derived.Deep.OwnRows
import Derived.Deep.QuietTactic
import Derived.BigQuiet
import Derived.Deep.Light
import Derived.Laws.StructEq
import Derived.Laws.MakeOwn
import Derived.Test.YtomnadmeolkagaaDoorCells
namespace Go.Proofs.YtomnadmeolkagaaDoor
open Go.ChangeShapes Go.WideShapes Go.ChangeAt Go.RowKit
set_option linter.unusedVariables false

structure K6 where
  c0 : Int
  c1 : Int
  c2 : Int
  c3 : Int
  c4 : Int
  c5 : Int
def K6.z : K6 := ⟨0, 0, 0, 0, 0, 0⟩
def K6.f (x : K6) (i : Nat) : Int := if i = 0 then x.c0 else if i = 1 then x.c1 else if i = 2 then x.c2 else if i = 3 then x.c3 else if i = 4 then x.c4 else x.c5
abbrev K6.v (x : K6) : Array Value := #[.int .i64 x.c0, .int .i64 x.c1, .int .i64 x.c2, .int .i64 x.c3, .int .i64 x.c4, .int .i64 x.c5]
def K6.b (x y : K6) : Bool := x.c0 == y.c0 && (x.c1 == y.c1 && (x.c2 == y.c2 && (x.c3 == y.c3 && (x.c4 == y.c4 && x.c5 == y.c5))))
/- commands in memory, from place off of block g on -/
def CAt (w : World) (g off : Nat) (l : List K6) : Prop := ∀ i x, l[i]? = some x → ∀ f, f < 6 → w.cell? ⟨g, off + i * 6 + f, none⟩ = some (.int .i64 (x.f f))
theorem CAt.six {w : World} {g off : Nat} {l : List K6} (h : CAt w g off l) {i : Nat} {x : K6} (hi : l[i]? = some x) :
    w.cell? ⟨g, off + i * 6, none⟩ = some (.int .i64 x.c0) ∧ w.cell? ⟨g, off + i * 6 + 1, none⟩ = some (.int .i64 x.c1) ∧ w.cell? ⟨g, off + i * 6 + 2, none⟩ = some (.int .i64 x.c2) ∧ w.cell? ⟨g, off + i * 6 + 3, none⟩ = some (.int .i64 x.c3) ∧ w.cell? ⟨g, off + i * 6 + 4, none⟩ = some (.int .i64 x.c4) ∧ w.cell? ⟨g, off + i * 6 + 5, none⟩ = some (.int .i64 x.c5) :=
  ⟨h i x hi 0 (by omega), h i x hi 1 (by omega), h i x hi 2 (by omega), h i x hi 3 (by omega), h i x hi 4 (by omega), h i x hi 5 (by omega)⟩
theorem CAt.later {w w' : World} {g off : Nat} {l : List K6} (h : CAt w g off l) (hg : g < w.heap.size) (hb : Below w.heap.size w w') : CAt w' g off l := fun i x hi f hf => by rw [hb.cell hg]; exact h i x hi f hf
set_option maxHeartbeats 1000000 in
theorem neq6 (x y : K6) (w : World) : (binOp .neq 36 (.agg x.v) (.agg y.v)).run Tryd.prog w = .ok (.bool (!x.b y)) w := by
  rw [run_neq_struct, show (10000 : Nat) = 9999 + 1 from rfl, run_equalIn_agg w 9999 36 _ _ (by kernel_rfl) (by kernel_rfl)]
  simp only [Program.fieldsOf, Tryd.underlying36]
  unfold K6.b
  cases h0 : x.c0 == y.c0
  · go_simp; try rfl
  cases h1 : x.c1 == y.c1
  · go_simp; try rfl
  cases h2 : x.c2 == y.c2
  · go_simp; try rfl
  cases h3 : x.c3 == y.c3
  · go_simp; try rfl
  cases h4 : x.c4 == y.c4
  · go_simp; try rfl
  cases h5 : x.c5 == y.c5
  · go_simp; try rfl
  go_simp
  try rfl
theorem K6.b_self (x : K6) : x.b x = true := by unfold K6.b; simp
/- are both lists the same -/
def all6 : List K6 → List K6 → Bool
  | [], [] => true
  | x :: l, y :: l' => x.b y && all6 l l'
  | _, _ => false
theorem all6_ne : ∀ (l l' : List K6), l.length ≠ l'.length → all6 l l' = false
  | [], [], h => absurd rfl h
  | [], _ :: _, _ => rfl
  | _ :: _, [], _ => rfl
  | x :: l, y :: l', h => by unfold all6; rw [all6_ne l l' (by simpa using h), Bool.and_false]
theorem all6_step {l l' : List K6} {k : Nat} {x y : K6} (hx : l[k]? = some x) (hy : l'[k]? = some y) : all6 (l.drop k) (l'.drop k) = (x.b y && all6 (l.drop (k + 1)) (l'.drop (k + 1))) := by
  have e1 : l.drop k = x :: l.drop (k + 1) := by
    have h := (List.getElem?_eq_some_iff.1 hx)
    rw [List.drop_eq_getElem_cons h.1, h.2]
  have e2 : l'.drop k = y :: l'.drop (k + 1) := by
    have h := (List.getElem?_eq_some_iff.1 hy)
    rw [List.drop_eq_getElem_cons h.1, h.2]
  rw [e1, e2]; rfl
theorem drewN_trans (w : World) (a b : Nat) : (w.drewN a).drewN b = w.drewN (a + b) := by unfold World.drewN; simp [Nat.add_assoc]

end Go.Proofs.YtomnadmeolkagaaDoor
