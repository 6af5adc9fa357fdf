/- Lists of numbers in memory of their own: a block whose first cells are the list. No condition. -/
import Derived.Test.YtibkdkjcncfmgaaRows
import Derived.WalkKit
import Derived.ProofKit
import Derived.OpenShut
import Derived.ShutString
import Derived.WalkLawsBesides
import Derived.ChangeOld
import Derived.Below
import Derived.OwnWalk
import Derived.Deep.OwnRows
namespace Go.Proofs.Ytibkdkjcncfmgaa
open Go.ChangeShapes Go.WideShapes Go.ChangeAt Go.RowKit
set_option linter.unusedVariables false

/- block g is a row of cap cells whose first ones are the numbers l -/
def Lst (w : World) (g cap : Nat) (l : List Int) : Prop :=
  ∃ cur : Array Value, w.heap[g]? = some (.cells cur 2 (0, 0)) ∧ l.length ≤ cap ∧ cap ≤ maxLen ∧ cur.size = cap ∧ cur.toList.take l.length = l.map (Value.int .i64)

theorem Lst.lt {w : World} {g cap : Nat} {l : List Int} (h : Lst w g cap l) : g < w.heap.size := by
  obtain ⟨cur, hg, _⟩ := h
  exact (Array.getElem?_eq_some_iff.1 hg).1
theorem Lst.cell {w : World} {g cap : Nat} {l : List Int} (h : Lst w g cap l) {i : Nat} {x : Int} (hi : l[i]? = some x) : w.cell? ⟨g, i, none⟩ = some (.int .i64 x) := by
  obtain ⟨cur, hg, hl, _, hs, ht⟩ := h
  have h1 : (l.map (Value.int .i64))[i]? = some (.int .i64 x) := by simp [hi]
  rw [← ht, List.getElem?_take] at h1
  split at h1
  · simp [World.cell?, hg]; simpa using h1
  · cases h1
theorem Lst.frozen {w : World} {g cap : Nat} {l : List Int} (h : Lst w g cap l) (i : Nat) : w.frozen? ⟨g, i, none⟩ = false := by
  obtain ⟨cur, hg, _⟩ := h
  simp [World.frozen?, hg]
theorem Lst.of_block {w w' : World} {g cap : Nat} {l : List Int} (h : Lst w g cap l) (e : w'.heap[g]? = w.heap[g]?) : Lst w' g cap l := by
  obtain ⟨cur, hg, r⟩ := h
  exact ⟨cur, e.trans hg, r⟩
theorem Lst.below {w w' : World} {g cap : Nat} {l : List Int} (h : Lst w g cap l) (hb : Below w.heap.size w w') : Lst w' g cap l := h.of_block (hb.block g h.lt)
theorem Lst.alloc {w : World} {g cap : Nat} {l : List Int} (h : Lst w g cap l) (o : Obj) : Lst (w.alloc o) g cap l := h.below ((Below.refl _ _).alloc (Nat.le_refl _) o)
theorem Lst.setOther {w : World} {g cap : Nat} {l : List Int} (h : Lst w g cap l) {a : Addr} (ha : g ≠ a.block) (v : Value) : Lst (w.setCell a v) g cap l := h.of_block (Below.heap_setCell _ _ _ _ ha)
theorem Lst.drew {w : World} {g cap : Nat} {l : List Int} (h : Lst w g cap l) : Lst w.drew g cap l := h
theorem Lst.set {w : World} {g cap : Nat} {l : List Int} (h : Lst w g cap l) (i : Nat) (x : Int) : Lst (w.setCell ⟨g, i, none⟩ (.int .i64 x)) g cap (l.set i x) := by
  obtain ⟨cur, hg, hl, hm, hs, ht⟩ := h
  refine ⟨cur.setIfInBounds i (.int .i64 x), ?_, by simpa using hl, hm, by simpa using hs, ?_⟩
  · simp [World.setCell, Array.getElem?_modify, hg]
  · rw [List.length_set, List.map_set, ← ht]
    simp [List.take_set]
theorem Lst.of_owns {w : World} {base : Nat} {v : Value} {l : List Int} (h : w.ownsRow base 2 1 v l.length (l.map (Value.int .i64))) (hne : 0 < l.length) :
    ∃ g cap, v = .slice (some ⟨g, 0, none⟩) l.length cap ∧ base ≤ g ∧ Lst w g cap l := by
  rcases h.2 with ⟨_, h0⟩ | ⟨g, cap, cur, hv, hb, hg, hc, hm, hs, ht⟩
  · omega
  · exact ⟨g, cap, hv, hb, cur, hg, hc, hm, by simpa using hs, by simpa using ht⟩
theorem Lst.of_row {w : World} {g n : Nat} {l : List Int} (h : w.rowIs g 2 n (fun i => .int .i64 (l.getD i 0))) (hn : l.length = n) (hm : n ≤ maxLen) : Lst w g n l := by
  obtain ⟨cur, hg, hs, hf⟩ := h
  refine ⟨cur, hg, by omega, hm, hs, ?_⟩
  apply List.ext_getElem?
  intro i
  rw [List.getElem?_take]
  by_cases hi : i < l.length
  · rw [if_pos hi]
    have := hf i (by omega)
    simp [List.getElem?_eq_getElem hi] at this ⊢
    simpa using this
  · rw [if_neg hi, List.getElem?_eq_none (by simpa using Nat.le_of_not_lt hi)]
theorem bcellL {W w1 : World} (hb : Below W.heap.size W w1) : (∀ b o, b < W.heap.size → w1.cell? ⟨b, o, none⟩ = W.cell? ⟨b, o, none⟩) ∧ (∀ b o, b < W.heap.size → w1.frozen? ⟨b, o, none⟩ = W.frozen? ⟨b, o, none⟩) :=
  ⟨fun b o h => hb.cell (p := ⟨b, o, none⟩) h, fun b o h => hb.frozen (p := ⟨b, o, none⟩) h⟩
theorem one_new (w : World) (v : Value) (t : TypeId) : ∀ j u, [v][j]? = some u → (w.alloc (.cells #[v] t)).cell? ((⟨w.heap.size, 0, none⟩ : Addr).add j) = some u := by
  intro j u hj
  match j, hj with
  | 0, hj => simp at hj; subst hj; simp [Addr.add]
theorem one_cell (k : IntKind) (x : Int) : ∀ u ∈ [Value.int k x], u.oneCell' = true := by
  intro u hu; simp at hu; subst hu; rfl
theorem info64 : (Try.prog.info? 2).map (fun i => (i.zero, i.size, i.bytes)) = some (some (.int .i64 0), 1, 8) := by kernel_rfl
end Go.Proofs.Ytibkdkjcncfmgaa
