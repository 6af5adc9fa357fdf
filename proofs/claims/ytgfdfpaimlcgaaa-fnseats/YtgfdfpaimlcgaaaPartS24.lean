/- Texts of mine put together (a claim holds at most 60 files): RegionInv, RegionSlots, SlotsAt. -/
import Derived.Test.YtgfdfpaimlcgaaaRows
import Derived.WalkKit
import Derived.Below
import Derived.Orders
import Derived.RegionTactic

/- RegionInv -/
/- A region that draws its order, by an invariant: what holds of the slots that are done and of the world, whatever the order was. No condition. -/
section
namespace Go.Proofs.Ytgfdfpaimlcgaaa
open Go.RowKit
set_option linter.unusedVariables false

/- how many operations are still to be done -/
def todo (l : Array Bool) : Nat := l.toList.count false
theorem todo_set {l : Array Bool} {i : Nat} (hi : l[i]? = some false) : todo (l.setIfInBounds i true) + 1 = todo l := by
  obtain ⟨l⟩ := l
  unfold todo
  simp only [List.setIfInBounds_toArray]
  have h : l[i]? = some false := by simpa using hi
  clear hi
  induction l generalizing i with
  | nil => simp at h
  | cons x l ih =>
    cases i with
    | zero =>
      have e : x = false := by simpa using h
      subst e
      simp
    | succ i =>
      have := ih (i := i) (by simpa using h)
      simp only [List.set_cons_succ, List.count_cons] at *
      omega
theorem ready_false {md : Region.Mode} {ops : Array Oper} {l : Array Bool} {i : Nat} (h : i ∈ Region.ready md ops l) : l[i]? = some false := by
  unfold Region.ready at h
  have h2 := (List.mem_filter.1 h).2
  simp only [Bool.and_eq_true, Bool.not_eq_true'] at h2
  have h3 := h2.1
  rw [Array.getD_eq_getD_getElem?] at h3
  cases hl : l[i]? with
  | none => rw [hl] at h3; simp at h3
  | some b => rw [hl] at h3; simp at h3; rw [h3]
theorem ready_none {md : Region.Mode} {ops : Array Oper} {l : Array Bool} (h : todo l = 0) : Region.ready md ops l = [] := by
  rw [List.eq_nil_iff_forall_not_mem]
  intro i hi
  have := todo_set (ready_false hi)
  omega
theorem wpAny_inv {P : Program} {ops : Array Oper} {Q : Exit → Act → World → Prop} {md : Region.Mode} (I : Array Bool → Act → World → Prop)
    (step : ∀ l a w i, I l a w → i ∈ Region.ready md ops l → wpOp P ops Q i (fun a' w' => I (l.setIfInBounds i true) a' w') a w)
    (fin : ∀ l a w, I l a w → Region.ready md ops l = [] → Q .normal a w) : ∀ (fuel : Nat) (l : Array Bool) (a : Act) (w : World), todo l ≤ fuel → I l a w → wpAny P md ops Q fuel l a w := by
  intro fuel
  induction fuel with
  | zero =>
    intro l a w hf h
    have hr := ready_none (md := md) (ops := ops) (l := l) (by omega)
    exact ⟨hr, fin l a w h hr⟩
  | succ fuel ih =>
    intro l a w hf h
    refine ⟨fun hr => fin l a w h hr, fun i hi => ?_⟩
    refine wpOp_mono (fun a' w' h' => ih _ a' w' ?_ h') (step l a w i h hi)
    have := todo_set (ready_false hi)
    omega
theorem todo_new (n : Nat) : todo (Array.replicate n false) ≤ n := by
  unfold todo
  simp
/- the law: a region whose operations keep an invariant in whatever order -/
theorem wp_region_inv {P : Program} {id : Nat} {ops : Array Oper} {Q : Exit → Act → World → Prop} {a : Act} {w : World} (hm : P.follows .mixedOrders = true) (I : Array Bool → Act → World → Prop)
    (start : I (Array.replicate ops.size false) a w.drew)
    (step : ∀ l a w i, I l a w → i ∈ Region.ready .any ops l → wpOp P ops Q i (fun a' w' => I (l.setIfInBounds i true) a' w') a w)
    (fin : ∀ l a w, I l a w → Region.ready .any ops l = [] → Q .normal a w) : (Code.region id ops true).wp P Q a w :=
  wp_region_any hm (wpAny_inv I step fin _ _ _ _ (todo_new _) start)
end Go.Proofs.Ytgfdfpaimlcgaaa
end

/- RegionSlots -/
/- A region that draws its order, by an invariant over the slots that it writes and the world; d i: operation i is done. No condition. -/
section
namespace Go.Proofs.Ytgfdfpaimlcgaaa
open Go.RowKit
set_option linter.unusedVariables false

/- what an operation waits for -/
def depsOf (ops : Array Oper) (i : Nat) : List Nat := match ops[i]? with | none => [] | some o => (o.after.toList.filter (fun e => Region.binds .any e)).map (fun e => e.on)
def upd (d : Nat → Bool) (i : Nat) : Nat → Bool := fun j => j == i || d j
/- and what that waits for, and so on -/
def cloOf (ops : Array Oper) : Nat → Nat → List Nat
  | 0, _ => []
  | k + 1, i => (depsOf ops i).flatMap (fun j => j :: cloOf ops k j)
def Closed (ops : Array Oper) (d : Nat → Bool) : Prop := ∀ i, d i = true → ∀ j ∈ depsOf ops i, d j = true
theorem Closed.all {ops : Array Oper} {d : Nat → Bool} (h : Closed ops d) : ∀ (k i : Nat), d i = true → ∀ j ∈ cloOf ops k i, d j = true
  | 0, i, _, j, hj => by cases hj
  | k + 1, i, hi, j, hj => by
    unfold cloOf at hj
    obtain ⟨m, hm, hj⟩ := List.mem_flatMap.1 hj
    have dm := h i hi m hm
    rcases List.mem_cons.1 hj with rfl | hj
    · exact dm
    · exact Closed.all h k m dm j hj
theorem Closed.no {ops : Array Oper} {d : Nat → Bool} (h : Closed ops d) {i j : Nat} (k : Nat) (hj : d j = false) (hm : (cloOf ops k i).contains j = true) : d i = false := by
  cases hi : d i
  · rfl
  · have := h.all k i hi j (by simpa using hm)
    rw [hj] at this; cases this
def win (a : Act) (lo : Nat) (xs : List Value) : Act := ⟨(a.tmps.toList.take lo ++ xs ++ a.tmps.toList.drop (lo + xs.length)).toArray, a.defers⟩
def dOf (l : Array Bool) : Nat → Bool := fun j => l.getD j false
theorem ready_spec {ops : Array Oper} {l : Array Bool} {i : Nat} (h : i ∈ Region.ready .any ops l) : i < ops.size ∧ l[i]? = some false ∧ ∀ j ∈ depsOf ops i, dOf l j = true := by
  have hf := ready_false h
  unfold Region.ready at h
  obtain ⟨h1, h2⟩ := List.mem_filter.1 h
  have hlt : i < ops.size := by simpa using h1
  refine ⟨hlt, hf, fun j hj => ?_⟩
  have e : ops[i]? = some ops[i] := Array.getElem?_eq_getElem hlt
  unfold depsOf at hj
  rw [e] at hj h2
  simp only [Option.map_some, Option.getD_some, Bool.and_eq_true] at h2
  have h3 := h2.2
  rw [Array.all_eq_true_iff_forall_mem] at h3
  obtain ⟨ed, hed, rfl⟩ := List.mem_map.1 hj
  obtain ⟨hm, hb⟩ := List.mem_filter.1 hed
  have := h3 ed (by simpa using hm)
  rw [hb] at this
  simpa [dOf] using this
theorem all_done {ops : Array Oper} {l : Array Bool} (hs : l.size = ops.size) (hlt : ∀ i, i < ops.size → ∀ j ∈ depsOf ops i, j < i) (h : Region.ready .any ops l = []) : ∀ i, i < ops.size → dOf l i = true := by
  intro i
  induction i using Nat.strongRecOn with
  | _ i ih =>
    intro hi
    have hli : i < l.size := by rw [hs]; exact hi
    cases hd : dOf l i
    · exfalso
      have hm : i ∈ Region.ready .any ops l := by
        unfold Region.ready
        refine List.mem_filter.2 ⟨by simpa using hi, ?_⟩
        have e : ops[i]? = some ops[i] := Array.getElem?_eq_getElem hi
        have el : l[i]? = some l[i] := Array.getElem?_eq_getElem hli
        have lf : l[i] = false := by
          unfold dOf at hd
          rw [Array.getD_eq_getD_getElem?, el] at hd
          simpa using hd
        rw [e]
        simp only [Option.map_some, Option.getD_some, Bool.and_eq_true]
        refine ⟨?_, ?_⟩
        · rw [Array.getD_eq_getD_getElem?, el, lf]; rfl
        · rw [Array.all_eq_true_iff_forall_mem]
          intro ed hed
          cases hb : Region.binds .any ed
          · rfl
          · have hj : ed.on ∈ depsOf ops i := by
              unfold depsOf
              rw [e]
              exact List.mem_map.2 ⟨ed, List.mem_filter.2 ⟨by simpa using hed, hb⟩, rfl⟩
            have h1 := ih ed.on (hlt i hi _ hj) (Nat.lt_trans (hlt i hi _ hj) hi)
            unfold dOf at h1
            simpa using h1
      rw [h] at hm
      cases hm
    · rfl
theorem dOf_set {l : Array Bool} {i : Nat} (hi : l[i]? = some false) : dOf (l.setIfInBounds i true) = upd (dOf l) i := by
  funext j
  show (l.setIfInBounds i true).getD j false = (j == i || l.getD j false)
  rw [Array.getD_eq_getD_getElem?, Array.getD_eq_getD_getElem?, Array.getElem?_setIfInBounds]
  have hlt := (Array.getElem?_eq_some_iff.1 hi).1
  by_cases e : i = j
  · subst e
    rw [if_pos rfl, if_pos hlt]
    simp
  · rw [if_neg e]
    have : (j == i) = false := by simpa using fun h => e h.symm
    rw [this]; rfl
theorem wp_region_slots {P : Program} {id : Nat} {ops : Array Oper} {Q : Exit → Act → World → Prop} {a0 : Act} {w0 : World} (hm : P.follows .mixedOrders = true) (lo : Nat) (J : (Nat → Bool) → List Value → World → Prop)
    (hlt : (List.range ops.size).all (fun i => (depsOf ops i).all (fun j => decide (j < i))) = true)
    (xs0 : List Value) (hx0 : win a0 lo xs0 = a0) (start : J (fun _ => false) xs0 w0.drew)
    (step : ∀ d xs w i K, i < ops.size → d i = false → (∀ j ∈ depsOf ops i, d j = true) → Closed ops d → J d xs w → (∀ xs' w', J (upd d i) xs' w' → K (win a0 lo xs') w') → wpOp P ops Q i K (win a0 lo xs) w)
    (fin : ∀ d xs w, (∀ i, i < ops.size → d i = true) → J d xs w → Q .normal (win a0 lo xs) w) : (Code.region id ops true).wp P Q a0 w0 := by
  have hlt' : ∀ i, i < ops.size → ∀ j ∈ depsOf ops i, j < i := by
    intro i hi j hj
    have h1 := List.all_eq_true.1 hlt i (by simpa using hi)
    exact of_decide_eq_true (List.all_eq_true.1 h1 j hj)
  have hout : ∀ i, ¬ i < ops.size → depsOf ops i = [] := by
    intro i hi
    unfold depsOf
    rw [Array.getElem?_eq_none (by omega)]
  refine wp_region_inv hm (fun l a w => l.size = ops.size ∧ Closed ops (dOf l) ∧ ∃ xs, a = win a0 lo xs ∧ J (dOf l) xs w) ?_ ?_ ?_
  · have e : dOf (Array.replicate ops.size false) = fun _ => false := by
      funext j
      unfold dOf
      rw [Array.getD_eq_getD_getElem?]
      by_cases h : j < ops.size
      · rw [Array.getElem?_replicate, if_pos h]; rfl
      · rw [Array.getElem?_replicate, if_neg h]; rfl
    refine ⟨by simp, ?_, xs0, hx0.symm, ?_⟩
    · intro i hi; rw [e] at hi; cases hi
    · rw [e]; exact start
  · rintro l a w i ⟨hs, hc, xs, rfl, hJ⟩ hr
    obtain ⟨h1, h2, h3⟩ := ready_spec hr
    have hd : dOf l i = false := by unfold dOf; rw [Array.getD_eq_getD_getElem?, h2]; rfl
    refine step (dOf l) xs w i _ h1 hd h3 hc hJ (fun xs' w' hJ' => ⟨by simpa using hs, ?_, xs', rfl, by rw [dOf_set h2]; exact hJ'⟩)
    rw [dOf_set h2]
    intro k hk j hj
    unfold upd at hk ⊢
    rw [Bool.or_eq_true] at hk ⊢
    rcases hk with hk | hk
    · have : k = i := by simpa using hk
      subst this
      exact .inr (h3 j hj)
    · exact .inr (hc k hk j hj)
  · rintro l a w ⟨hs, hc, xs, rfl, hJ⟩ hr
    exact fin (dOf l) xs w (all_done hs hlt' hr) hJ
theorem wpOp_of {P : Program} {ops : Array Oper} {Q : Exit → Act → World → Prop} {i : Nat} {K : Act → World → Prop} {a : Act} {w : World} {o : Oper} (ho : ops[i]? = some o) (hgd : o.guard = none) (h : Oper.wp P o a w K Q) : wpOp P ops Q i K a w := by
  unfold wpOp
  rw [ho]
  simp only [Region.wanted, hgd, if_true]
  exact .inl h
end Go.Proofs.Ytgfdfpaimlcgaaa
end

/- SlotsAt -/
/- A region that draws its order and whose operations have one value each: the slots that are done hold theirs. No condition. -/
section
namespace Go.Proofs.Ytgfdfpaimlcgaaa
open Go.RowKit
set_option linter.unusedVariables false

structure SlotsAt (V : List Value) (d : Nat → Bool) (xs : List Value) : Prop where
  len : xs.length = V.length
  val : ∀ (i : Nat) (v : Value), d i = true → V[i]? = some v → xs[i]? = some v
theorem SlotsAt.get {V xs : List Value} {d : Nat → Bool} (h : SlotsAt V d xs) (i : Nat) {v x : Value} (hd : d i = true) (hv : V[i]? = some v) (hx : xs[i]? = some x) : x = v := by
  have := h.val i v hd hv
  rw [hx] at this
  exact Option.some.inj this
theorem SlotsAt.set {V xs : List Value} {d : Nat → Bool} (h : SlotsAt V d xs) (i : Nat) {v : Value} (hv : V[i]? = some v) : SlotsAt V (upd d i) (xs.set i v) := by
  refine ⟨by rw [List.length_set]; exact h.len, fun j u hj hu => ?_⟩
  rw [List.getElem?_set]
  by_cases e : i = j
  · subst e
    rw [hv] at hu
    cases hu
    rw [if_pos rfl, if_pos (by rw [h.len]; exact (List.getElem?_eq_some_iff.1 hv).1)]
  · rw [if_neg e]
    refine h.val j u ?_ hu
    unfold upd at hj
    have : (j == i) = false := by simpa using fun h => e h.symm
    rw [this] at hj
    simpa using hj
theorem SlotsAt.start {V xs : List Value} (h : xs.length = V.length) : SlotsAt V (fun _ => false) xs := ⟨h, fun i v hd _ => by cases hd⟩
theorem SlotsAt.none {V xs : List Value} {d : Nat → Bool} (h : SlotsAt V d xs) (i : Nat) (hi : V.length ≤ i) : SlotsAt V (upd d i) xs := by
  refine ⟨h.len, fun j u hj hu => ?_⟩
  refine h.val j u ?_ hu
  have hl := (List.getElem?_eq_some_iff.1 hu).1
  unfold upd at hj
  have : (j == i) = false := by simp; omega
  rw [this] at hj
  simpa using hj
theorem nd_inj {α : Type} {l : List α} (h : l.Nodup) {p q : Nat} {x : α} (hp : l[p]? = some x) (hq : l[q]? = some x) : p = q := by
  obtain ⟨h1, h2⟩ := List.getElem?_eq_some_iff.1 hp
  obtain ⟨h3, h4⟩ := List.getElem?_eq_some_iff.1 hq
  by_cases e : p = q
  · exact e
  · exfalso
    have H := List.pairwise_iff_getElem.1 h
    rcases Nat.lt_or_gt_of_ne e with hl | hl
    · exact H p q h1 h3 hl (h2.trans h4.symm)
    · exact H q p h3 h1 hl (h4.trans h2.symm)
/- the same where some operations have no slot: m tells the operation of each slot -/
structure SlotsM (m : List Nat) (V : List Value) (d : Nat → Bool) (xs : List Value) : Prop where
  len : xs.length = V.length
  val : ∀ (k i : Nat) (v : Value), m[k]? = some i → d i = true → V[k]? = some v → xs[k]? = some v
theorem SlotsM.get {m : List Nat} {V xs : List Value} {d : Nat → Bool} (h : SlotsM m V d xs) (k : Nat) {i : Nat} {v x : Value} (hm : m[k]? = some i) (hd : d i = true) (hv : V[k]? = some v) (hx : xs[k]? = some x) : x = v := by
  have := h.val k i v hm hd hv
  rw [hx] at this
  exact Option.some.inj this
theorem SlotsM.set {m : List Nat} {V xs : List Value} {d : Nat → Bool} (h : SlotsM m V d xs) (k : Nat) {i : Nat} {v : Value} (hnd : m.Nodup) (hm : m[k]? = some i) (hv : V[k]? = some v) : SlotsM m V (upd d i) (xs.set k v) := by
  refine ⟨by rw [List.length_set]; exact h.len, fun k' j u hm' hj hu => ?_⟩
  rw [List.getElem?_set]
  by_cases e : k = k'
  · subst e
    rw [hv] at hu
    cases hu
    rw [if_pos rfl, if_pos (by rw [h.len]; exact (List.getElem?_eq_some_iff.1 hv).1)]
  · rw [if_neg e]
    refine h.val k' j u hm' ?_ hu
    unfold upd at hj
    have hne : j ≠ i := fun e2 => by
      subst e2
      exact e (nd_inj hnd hm hm')
    have : (j == i) = false := by simpa using hne
    rw [this] at hj
    simpa using hj
theorem SlotsM.start {m : List Nat} {V xs : List Value} (h : xs.length = V.length) : SlotsM m V (fun _ => false) xs := ⟨h, fun k i v _ hd _ => by cases hd⟩
theorem SlotsM.none {m : List Nat} {V xs : List Value} {d : Nat → Bool} (h : SlotsM m V d xs) (i : Nat) (hi : i ∉ m) : SlotsM m V (upd d i) xs := by
  refine ⟨h.len, fun k j u hm hj hu => h.val k j u hm ?_ hu⟩
  unfold upd at hj
  have hne : j ≠ i := fun e => hi (e ▸ List.mem_of_getElem? hm)
  have : (j == i) = false := by simpa using hne
  rw [this] at hj
  simpa using hj
end Go.Proofs.Ytgfdfpaimlcgaaa
end
