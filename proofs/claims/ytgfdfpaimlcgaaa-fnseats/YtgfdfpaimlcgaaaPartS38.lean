/- Texts of mine put together (a claim holds at most 60 files): SumWalks2, Lists, OwnWalks, IntLists, Marks, ExactB1, ExactB2, OwnLaw. -/
import Derived.Test.YtgfdfpaimlcgaaaPartS07
import Derived.Test.YtgfdfpaimlcgaaaRows
import Derived.WalkKit
import Derived.ProofKit
import Derived.OpenShut
import Derived.ShutString
import Derived.WalkLawsBesides
import Derived.ChangeOld
import Derived.Below
import Derived.OwnWalk
import Derived.Deep.OwnRows
import Derived.Deep.QuietTactic
import Derived.BigQuiet
import Derived.Test.YtgfdfpaimlcgaaaPartS00
import Derived.Deep.RegionWith
import Derived.Deep.Cut
import Derived.Deep.CutRange

/- SumWalks2 -/
/- Contracts of CarriedBy and of its model. Condition: the board's two lists lie in memory as they were laid there. -/
section
namespace Go.Proofs.Ytgfdfpaimlcgaaa
open Go.ChangeShapes Go.WideShapes Go.ChangeAt Go.RowKit
open Bd
set_option linter.unusedVariables false

end Go.Proofs.Ytgfdfpaimlcgaaa
end

/- Lists -/
/- Lists of numbers in memory of their own: a block whose first cells are the list. No condition. -/
section
namespace Go.Proofs.Ytgfdfpaimlcgaaa
open Go.ChangeShapes Go.WideShapes Go.ChangeAt Go.RowKit
set_option linter.unusedVariables false

/- block g is a row of cap cells whose first ones are the numbers l -/
def Lst (w : World) (g cap : Nat) (l : List Int) : Prop :=
  ∃ cur : Array Value, w.heap[g]? = some (.cells cur 2 (0, 0)) ∧ l.length ≤ cap ∧ cap ≤ maxLen ∧ cur.size = cap ∧ cur.toList.take l.length = l.map (Value.int .i64)

theorem Lst.lt {w : World} {g cap : Nat} {l : List Int} (h : Lst w g cap l) : g < w.heap.size := by
  obtain ⟨cur, hg, _⟩ := h
  exact (Array.getElem?_eq_some_iff.1 hg).1
theorem Lst.cell {w : World} {g cap : Nat} {l : List Int} (h : Lst w g cap l) {i : Nat} {x : Int} (hi : l[i]? = some x) : w.cell? ⟨g, i, none⟩ = some (.int .i64 x) := by
  obtain ⟨cur, hg, hl, _, hs, ht⟩ := h
  have h1 : (l.map (Value.int .i64))[i]? = some (.int .i64 x) := by simp [hi]
  rw [← ht, List.getElem?_take] at h1
  split at h1
  · simp [World.cell?, hg]; simpa using h1
  · cases h1
theorem Lst.frozen {w : World} {g cap : Nat} {l : List Int} (h : Lst w g cap l) (i : Nat) : w.frozen? ⟨g, i, none⟩ = false := by
  obtain ⟨cur, hg, _⟩ := h
  simp [World.frozen?, hg]
theorem Lst.of_block {w w' : World} {g cap : Nat} {l : List Int} (h : Lst w g cap l) (e : w'.heap[g]? = w.heap[g]?) : Lst w' g cap l := by
  obtain ⟨cur, hg, r⟩ := h
  exact ⟨cur, e.trans hg, r⟩
theorem Lst.below {w w' : World} {g cap : Nat} {l : List Int} (h : Lst w g cap l) (hb : Below w.heap.size w w') : Lst w' g cap l := h.of_block (hb.block g h.lt)
theorem Lst.alloc {w : World} {g cap : Nat} {l : List Int} (h : Lst w g cap l) (o : Obj) : Lst (w.alloc o) g cap l := h.below ((Below.refl _ _).alloc (Nat.le_refl _) o)
theorem Lst.setOther {w : World} {g cap : Nat} {l : List Int} (h : Lst w g cap l) {a : Addr} (ha : g ≠ a.block) (v : Value) : Lst (w.setCell a v) g cap l := h.of_block (Below.heap_setCell _ _ _ _ ha)
theorem Lst.drew {w : World} {g cap : Nat} {l : List Int} (h : Lst w g cap l) : Lst w.drew g cap l := h
theorem Lst.set {w : World} {g cap : Nat} {l : List Int} (h : Lst w g cap l) (i : Nat) (x : Int) : Lst (w.setCell ⟨g, i, none⟩ (.int .i64 x)) g cap (l.set i x) := by
  obtain ⟨cur, hg, hl, hm, hs, ht⟩ := h
  refine ⟨cur.setIfInBounds i (.int .i64 x), ?_, by simpa using hl, hm, by simpa using hs, ?_⟩
  · simp [World.setCell, Array.getElem?_modify, hg]
  · rw [List.length_set, List.map_set, ← ht]
    simp [List.take_set]
theorem Lst.of_owns {w : World} {base : Nat} {v : Value} {l : List Int} (h : w.ownsRow base 2 1 v l.length (l.map (Value.int .i64))) (hne : 0 < l.length) :
    ∃ g cap, v = .slice (some ⟨g, 0, none⟩) l.length cap ∧ base ≤ g ∧ Lst w g cap l := by
  rcases h.2 with ⟨_, h0⟩ | ⟨g, cap, cur, hv, hb, hg, hc, hm, hs, ht⟩
  · omega
  · exact ⟨g, cap, hv, hb, cur, hg, hc, hm, by simpa using hs, by simpa using ht⟩
theorem Lst.of_row {w : World} {g n : Nat} {l : List Int} (h : w.rowIs g 2 n (fun i => .int .i64 (l.getD i 0))) (hn : l.length = n) (hm : n ≤ maxLen) : Lst w g n l := by
  obtain ⟨cur, hg, hs, hf⟩ := h
  refine ⟨cur, hg, by omega, hm, hs, ?_⟩
  apply List.ext_getElem?
  intro i
  rw [List.getElem?_take]
  by_cases hi : i < l.length
  · rw [if_pos hi]
    have := hf i (by omega)
    simp [List.getElem?_eq_getElem hi] at this ⊢
    simpa using this
  · rw [if_neg hi, List.getElem?_eq_none (by simpa using Nat.le_of_not_lt hi)]
theorem one_new (w : World) (v : Value) (t : TypeId) : ∀ j u, [v][j]? = some u → (w.alloc (.cells #[v] t)).cell? ((⟨w.heap.size, 0, none⟩ : Addr).add j) = some u := by
  intro j u hj
  match j, hj with
  | 0, hj => simp at hj; subst hj; simp [Addr.add]
theorem one_cell (k : IntKind) (x : Int) : ∀ u ∈ [Value.int k x], u.oneCell' = true := by
  intro u hu; simp at hu; subst hu; rfl
theorem info64 : (Try.prog.info? 2).map (fun i => (i.zero, i.size, i.bytes)) = some (some (.int .i64 0), 1, 8) := by kernel_rfl
end Go.Proofs.Ytgfdfpaimlcgaaa
end

/- OwnWalks -/
/- Contracts of OwnedBy and of its model. Condition: the board's two lists lie in memory as they were laid there. -/
section
namespace Go.Proofs.Ytgfdfpaimlcgaaa
open Go.ChangeShapes Go.WideShapes Go.ChangeAt Go.RowKit
open Bd
set_option linter.unusedVariables false

/- the Ids of an owner's units -/
def idsOf (o : Int) : List K10 → List Int
  | [] => []
  | u :: l => if (u.c1 == o) = true then u.c0 :: idsOf o l else idsOf o l
def obL (us : List K10) (fs : List K3) (o : Int) : List Int := if (bf us fs == 0 && own o) = true then idsOf o us else []
/- a slice of numbers: its first numbers lie in a block of its own, made behind base -/
def SlI (w : World) (base : Nat) (v : Value) (l : List Int) : Prop := w.ownsRow base 2 1 v l.length (l.map (Value.int .i64))
theorem SlI.below {w w' : World} {base : Nat} {v : Value} {l : List Int} (h : SlI w base v l) (hb : Below w.heap.size w w') : SlI w' base v l := by
  rcases h with ⟨h1, h2⟩
  refine ⟨h1, ?_⟩
  rcases h2 with h2 | ⟨g, cap, cur, hv, hbb, hg, r⟩
  · exact .inl h2
  · exact .inr ⟨g, cap, cur, hv, hbb, (hb.block g (Array.getElem?_eq_some_iff.1 hg).1).trans hg, r⟩
theorem SlI.of {w : World} {base : Nat} {v : Value} {l : List Int} (h : w.ownsRow base 2 1 v l.length (l.map (Value.int .i64))) : SlI w base v l := h
theorem SlI.nil (w : World) (base : Nat) : SlI w base (.slice none 0 0) [] := ⟨rfl, .inl ⟨rfl, rfl⟩⟩
theorem SlI.mono {w : World} {base base' : Nat} {v : Value} {l : List Int} (h : SlI w base v l) (hb : base' ≤ base) : SlI w base' v l := by
  rcases h with ⟨h1, h2⟩
  refine ⟨h1, ?_⟩
  rcases h2 with h2 | ⟨g, cap, cur, hv, hbb, r⟩
  · exact .inl h2
  · exact .inr ⟨g, cap, cur, hv, Nat.le_trans hb hbb, r⟩
theorem SlI.form {w : World} {base : Nat} {v : Value} {l : List Int} (h : SlI w base v l) : ∃ a cap, v = .slice a l.length cap := by
  rcases h.2 with ⟨h1, h2⟩ | ⟨g, cap, cur, hv, _⟩
  · exact ⟨none, 0, by rw [h1, h2]⟩
  · exact ⟨_, cap, hv⟩
theorem SlI.set {w : World} {base : Nat} {v : Value} {l : List Int} (h : SlI w base v l) {b o : Nat} (hb : b < base) (x : Value) : SlI (w.setCell ⟨b, o, none⟩ x) base v l := by
  rcases h with ⟨h1, h2⟩
  refine ⟨h1, ?_⟩
  rcases h2 with h2 | ⟨g, cap, cur, hv, hbb, hg, r⟩
  · exact .inl h2
  · exact .inr ⟨g, cap, cur, hv, hbb, (Below.heap_setCell _ ⟨b, o, none⟩ x g (by show g ≠ b; omega)).trans hg, r⟩
end Go.Proofs.Ytgfdfpaimlcgaaa
end

/- IntLists -/
/- Contracts of the exact laws' own helpers on lists of int64: equal lists are equal, marks that were laid are held. Conditions: the lists lie in memory of their own, at most 1000000 numbers. -/
section
namespace Go.Proofs.Ytgfdfpaimlcgaaa
open Go.ChangeShapes Go.WideShapes Go.ChangeAt Go.RowKit
set_option linter.unusedVariables false

def marks (k : Int) (m : Nat) : List Int := (List.range m).map (fun (i : Nat) => k + (i : Int))
end Go.Proofs.Ytgfdfpaimlcgaaa
end

/- Marks -/
/- Contracts of the exact laws' own marks on lists of units and of fields, and on boards. Condition: the lists lie in blocks of their own and have at most 1048576 members. -/
section
namespace Go.Proofs.Ytgfdfpaimlcgaaa
open Go.ChangeShapes Go.WideShapes Go.ChangeAt Go.RowKit
set_option linter.unusedVariables false

/- the first j cells bear the marks from k0 on -/
def mkd (k0 : Int) (f : Nat → Value) (j : Nat) (i : Nat) : Value := if i < j then .int .i64 (k0 + (i : Int)) else f i
end Go.Proofs.Ytgfdfpaimlcgaaa
end

/- ExactB1 -/
/- The walks of the exact laws of UnitFault and BoardFault. No condition. -/
section
namespace Go.Proofs.Ytgfdfpaimlcgaaa
open Go.ChangeShapes Go.WideShapes Go.ChangeAt Go.RowKit
open Bd
set_option linter.unusedVariables false

end Go.Proofs.Ytgfdfpaimlcgaaa
end

/- ExactB2 -/
/- The walks of the exact laws of LeftIn and CarriedBy. No condition. -/
section
namespace Go.Proofs.Ytgfdfpaimlcgaaa
open Go.ChangeShapes Go.WideShapes Go.ChangeAt Go.RowKit
open Bd
set_option linter.unusedVariables false

end Go.Proofs.Ytgfdfpaimlcgaaa
end

/- OwnLaw -/
/- The walk of the exact law of OwnedBy. No condition. -/
section
namespace Go.Proofs.Ytgfdfpaimlcgaaa
open Go.ChangeShapes Go.WideShapes Go.ChangeAt Go.RowKit
open Bd
set_option linter.unusedVariables false

/- all blocks below n are as they were, and so are those at n or above that are not g or h -/
structure Kept2 (w w' : World) (g h : Nat) : Prop where
  os : w'.os = w.os
  tape : w'.tape = w.tape
  output : w'.output = w.output
  size : w.heap.size ≤ w'.heap.size
  block : ∀ i, i < w.heap.size → i ≠ g → i ≠ h → w'.heap[i]? = w.heap[i]?
theorem Kept2.row {w w' : World} {g h b n : Nat} {t : TypeId} {f : Nat → Value} (k : Kept2 w w' g h) (r : w.rowIs b t n f) (h1 : b ≠ g) (h2 : b ≠ h) : w'.rowIs b t n f := r.of_block (k.block b r.lt h1 h2)
theorem Kept2.below {W w w' : World} {n g h : Nat} (k : Kept2 w w' g h) (hb : Below n W w) (hn : n ≤ W.heap.size) (h1 : n ≤ g) (h2 : n ≤ h) : Below n W w' :=
  hb.trans ⟨k.os, k.tape, k.output, k.size, fun i hi => k.block i (Nat.lt_of_lt_of_le hi (Nat.le_trans hn hb.size)) (by omega) (by omega)⟩
theorem SlI.lt {w : World} {base : Nat} {v : Value} {l : List Int} (s : SlI w base v l) : ∀ b, v.ownBlock = some b → base ≤ b ∧ b < w.heap.size := by
  intro b hb
  rcases s.2 with ⟨h1, h2⟩ | ⟨g, cap, cur, hv, hbb, hg, r⟩
  · rw [h1] at hb; cases hb
  · rw [hv] at hb
    have : g = b := Option.some.inj hb
    subst this
    exact ⟨hbb, (Array.getElem?_eq_some_iff.1 hg).1⟩
theorem SlI.cases {w : World} {base : Nat} {v : Value} {l : List Int} (s : SlI w base v l) : (l = [] ∧ ∃ a cap, v = .slice a 0 cap) ∨ (l ≠ [] ∧ ∃ g cap, v = .slice (some ⟨g, 0, none⟩) l.length cap ∧ base ≤ g ∧ Lst w g cap l) := by
  by_cases h : l = []
  · subst h
    obtain ⟨a, cap, hv⟩ := s.form
    exact .inl ⟨rfl, a, cap, hv⟩
  · have h0 : 0 < l.length := by cases l with | nil => exact absurd rfl h | cons _ _ => simp
    exact .inr ⟨h, Lst.of_owns s h0⟩
theorem SlI.grown {w w' : World} {base : Nat} {v : Value} {l : List Int} {r : Option Nat} (s : SlI w base v l) (k : w.grownBy w' r) (hx : ∀ b, v.ownBlock = some b → some b ≠ r) : SlI w' base v l := by
  rcases s with ⟨h1, h2⟩
  refine ⟨h1, ?_⟩
  rcases h2 with h2 | ⟨b, cap, cur, hv, hbb, hg, q⟩
  · exact .inl h2
  · exact .inr ⟨b, cap, cur, hv, hbb, (k.block b (Array.getElem?_eq_some_iff.1 hg).1 (hx b (by rw [hv]; rfl))).trans hg, q⟩
theorem Kept2.of_grown {w w' : World} {g h : Nat} (k : w.grownBy w' (some g)) : Kept2 w w' g h := ⟨k.os, k.tape, k.output, k.size, fun i hi h1 _ => k.block i hi (fun e => h1 (Option.some.inj e))⟩
theorem Kept2.trans {a b c : World} {g h : Nat} (k : Kept2 a b g h) (l : Kept2 b c g h) : Kept2 a c g h := ⟨l.os.trans k.os, l.tape.trans k.tape, l.output.trans k.output, Nat.le_trans k.size l.size, fun i hi h1 h2 => (l.block i (Nat.lt_of_lt_of_le hi k.size) h1 h2).trans (k.block i hi h1 h2)⟩
theorem Kept2.alloc (w : World) (g h : Nat) (o : Obj) : Kept2 w (w.alloc o) g h := Kept2.of_grown (World.grownBy_alloc w o _)
end Go.Proofs.Ytgfdfpaimlcgaaa
end
