/- Texts of mine put together (a claim holds at most 60 files): SlotsAt. -/
import Derived.Test.YtmfdggaijbcijaaGreatPartQ13

/- SlotsAt -/
/- A region that draws its order and whose operations have one value each: the slots that are done hold theirs. No condition. -/
section
namespace Go.Proofs.YtmfdggaijbcijaaGreat
open Go.RowKit
set_option linter.unusedVariables false

structure SlotsAt (V : List Value) (d : Nat → Bool) (xs : List Value) : Prop where
  len : xs.length = V.length
  val : ∀ (i : Nat) (v : Value), d i = true → V[i]? = some v → xs[i]? = some v
theorem SlotsAt.get {V xs : List Value} {d : Nat → Bool} (h : SlotsAt V d xs) (i : Nat) {v x : Value} (hd : d i = true) (hv : V[i]? = some v) (hx : xs[i]? = some x) : x = v := by
  have := h.val i v hd hv
  rw [hx] at this
  exact Option.some.inj this
theorem SlotsAt.set {V xs : List Value} {d : Nat → Bool} (h : SlotsAt V d xs) (i : Nat) {v : Value} (hv : V[i]? = some v) : SlotsAt V (upd d i) (xs.set i v) := by
  refine ⟨by rw [List.length_set]; exact h.len, fun j u hj hu => ?_⟩
  rw [List.getElem?_set]
  by_cases e : i = j
  · subst e
    rw [hv] at hu
    cases hu
    rw [if_pos rfl, if_pos (by rw [h.len]; exact (List.getElem?_eq_some_iff.1 hv).1)]
  · rw [if_neg e]
    refine h.val j u ?_ hu
    unfold upd at hj
    have : (j == i) = false := by simpa using fun h => e h.symm
    rw [this] at hj
    simpa using hj
theorem SlotsAt.start {V xs : List Value} (h : xs.length = V.length) : SlotsAt V (fun _ => false) xs := ⟨h, fun i v hd _ => by cases hd⟩
theorem SlotsAt.none {V xs : List Value} {d : Nat → Bool} (h : SlotsAt V d xs) (i : Nat) (hi : V.length ≤ i) : SlotsAt V (upd d i) xs := by
  refine ⟨h.len, fun j u hj hu => ?_⟩
  refine h.val j u ?_ hu
  have hl := (List.getElem?_eq_some_iff.1 hu).1
  unfold upd at hj
  have : (j == i) = false := by simp; omega
  rw [this] at hj
  simpa using hj
theorem nd_inj {α : Type} {l : List α} (h : l.Nodup) {p q : Nat} {x : α} (hp : l[p]? = some x) (hq : l[q]? = some x) : p = q := by
  obtain ⟨h1, h2⟩ := List.getElem?_eq_some_iff.1 hp
  obtain ⟨h3, h4⟩ := List.getElem?_eq_some_iff.1 hq
  by_cases e : p = q
  · exact e
  · exfalso
    have H := List.pairwise_iff_getElem.1 h
    rcases Nat.lt_or_gt_of_ne e with hl | hl
    · exact H p q h1 h3 hl (h2.trans h4.symm)
    · exact H q p h3 h1 hl (h4.trans h2.symm)
/- the same where some operations have no slot: m tells the operation of each slot -/
structure SlotsM (m : List Nat) (V : List Value) (d : Nat → Bool) (xs : List Value) : Prop where
  len : xs.length = V.length
  val : ∀ (k i : Nat) (v : Value), m[k]? = some i → d i = true → V[k]? = some v → xs[k]? = some v
theorem SlotsM.get {m : List Nat} {V xs : List Value} {d : Nat → Bool} (h : SlotsM m V d xs) (k : Nat) {i : Nat} {v x : Value} (hm : m[k]? = some i) (hd : d i = true) (hv : V[k]? = some v) (hx : xs[k]? = some x) : x = v := by
  have := h.val k i v hm hd hv
  rw [hx] at this
  exact Option.some.inj this
theorem SlotsM.set {m : List Nat} {V xs : List Value} {d : Nat → Bool} (h : SlotsM m V d xs) (k : Nat) {i : Nat} {v : Value} (hnd : m.Nodup) (hm : m[k]? = some i) (hv : V[k]? = some v) : SlotsM m V (upd d i) (xs.set k v) := by
  refine ⟨by rw [List.length_set]; exact h.len, fun k' j u hm' hj hu => ?_⟩
  rw [List.getElem?_set]
  by_cases e : k = k'
  · subst e
    rw [hv] at hu
    cases hu
    rw [if_pos rfl, if_pos (by rw [h.len]; exact (List.getElem?_eq_some_iff.1 hv).1)]
  · rw [if_neg e]
    refine h.val k' j u hm' ?_ hu
    unfold upd at hj
    have hne : j ≠ i := fun e2 => by
      subst e2
      exact e (nd_inj hnd hm hm')
    have : (j == i) = false := by simpa using hne
    rw [this] at hj
    simpa using hj
theorem SlotsM.start {m : List Nat} {V xs : List Value} (h : xs.length = V.length) : SlotsM m V (fun _ => false) xs := ⟨h, fun k i v _ hd _ => by cases hd⟩
theorem SlotsM.none {m : List Nat} {V xs : List Value} {d : Nat → Bool} (h : SlotsM m V d xs) (i : Nat) (hi : i ∉ m) : SlotsM m V (upd d i) xs := by
  refine ⟨h.len, fun k j u hm hj hu => h.val k j u hm ?_ hu⟩
  unfold upd at hj
  have hne : j ≠ i := fun e => hi (e ▸ List.mem_of_getElem? hm)
  have : (j == i) = false := by simpa using hne
  rw [this] at hj
  simpa using hj
end Go.Proofs.YtmfdggaijbcijaaGreat
end
