/- Texts of mine put together (a claim holds at most 60 files): RegionSlots. -/
import Derived.Test.YtmfdggaijbcijaaGreatPartQ12
import Derived.RegionTactic

/- RegionSlots -/
/- A region that draws its order, by an invariant over the slots that it writes and the world; d i: operation i is done. No condition. -/
section
namespace Go.Proofs.YtmfdggaijbcijaaGreat
open Go.RowKit
set_option linter.unusedVariables false

/- what an operation waits for -/
def depsOf (ops : Array Oper) (i : Nat) : List Nat := match ops[i]? with | none => [] | some o => (o.after.toList.filter (fun e => Region.binds .any e)).map (fun e => e.on)
def upd (d : Nat → Bool) (i : Nat) : Nat → Bool := fun j => j == i || d j
/- and what that waits for, and so on -/
def cloOf (ops : Array Oper) : Nat → Nat → List Nat
  | 0, _ => []
  | k + 1, i => (depsOf ops i).flatMap (fun j => j :: cloOf ops k j)
def Closed (ops : Array Oper) (d : Nat → Bool) : Prop := ∀ i, d i = true → ∀ j ∈ depsOf ops i, d j = true
theorem Closed.all {ops : Array Oper} {d : Nat → Bool} (h : Closed ops d) : ∀ (k i : Nat), d i = true → ∀ j ∈ cloOf ops k i, d j = true
  | 0, i, _, j, hj => by cases hj
  | k + 1, i, hi, j, hj => by
    unfold cloOf at hj
    obtain ⟨m, hm, hj⟩ := List.mem_flatMap.1 hj
    have dm := h i hi m hm
    rcases List.mem_cons.1 hj with rfl | hj
    · exact dm
    · exact Closed.all h k m dm j hj
theorem Closed.no {ops : Array Oper} {d : Nat → Bool} (h : Closed ops d) {i j : Nat} (k : Nat) (hj : d j = false) (hm : (cloOf ops k i).contains j = true) : d i = false := by
  cases hi : d i
  · rfl
  · have := h.all k i hi j (by simpa using hm)
    rw [hj] at this; cases this
def win (a : Act) (lo : Nat) (xs : List Value) : Act := ⟨(a.tmps.toList.take lo ++ xs ++ a.tmps.toList.drop (lo + xs.length)).toArray, a.defers⟩
def dOf (l : Array Bool) : Nat → Bool := fun j => l.getD j false
theorem ready_spec {ops : Array Oper} {l : Array Bool} {i : Nat} (h : i ∈ Region.ready .any ops l) : i < ops.size ∧ l[i]? = some false ∧ ∀ j ∈ depsOf ops i, dOf l j = true := by
  have hf := ready_false h
  unfold Region.ready at h
  obtain ⟨h1, h2⟩ := List.mem_filter.1 h
  have hlt : i < ops.size := by simpa using h1
  refine ⟨hlt, hf, fun j hj => ?_⟩
  have e : ops[i]? = some ops[i] := Array.getElem?_eq_getElem hlt
  unfold depsOf at hj
  rw [e] at hj h2
  simp only [Option.map_some, Option.getD_some, Bool.and_eq_true] at h2
  have h3 := h2.2
  rw [Array.all_eq_true_iff_forall_mem] at h3
  obtain ⟨ed, hed, rfl⟩ := List.mem_map.1 hj
  obtain ⟨hm, hb⟩ := List.mem_filter.1 hed
  have := h3 ed (by simpa using hm)
  rw [hb] at this
  simpa [dOf] using this
theorem all_done {ops : Array Oper} {l : Array Bool} (hs : l.size = ops.size) (hlt : ∀ i, i < ops.size → ∀ j ∈ depsOf ops i, j < i) (h : Region.ready .any ops l = []) : ∀ i, i < ops.size → dOf l i = true := by
  intro i
  induction i using Nat.strongRecOn with
  | _ i ih =>
    intro hi
    have hli : i < l.size := by rw [hs]; exact hi
    cases hd : dOf l i
    · exfalso
      have hm : i ∈ Region.ready .any ops l := by
        unfold Region.ready
        refine List.mem_filter.2 ⟨by simpa using hi, ?_⟩
        have e : ops[i]? = some ops[i] := Array.getElem?_eq_getElem hi
        have el : l[i]? = some l[i] := Array.getElem?_eq_getElem hli
        have lf : l[i] = false := by
          unfold dOf at hd
          rw [Array.getD_eq_getD_getElem?, el] at hd
          simpa using hd
        rw [e]
        simp only [Option.map_some, Option.getD_some, Bool.and_eq_true]
        refine ⟨?_, ?_⟩
        · rw [Array.getD_eq_getD_getElem?, el, lf]; rfl
        · rw [Array.all_eq_true_iff_forall_mem]
          intro ed hed
          cases hb : Region.binds .any ed
          · rfl
          · have hj : ed.on ∈ depsOf ops i := by
              unfold depsOf
              rw [e]
              exact List.mem_map.2 ⟨ed, List.mem_filter.2 ⟨by simpa using hed, hb⟩, rfl⟩
            have h1 := ih ed.on (hlt i hi _ hj) (Nat.lt_trans (hlt i hi _ hj) hi)
            unfold dOf at h1
            simpa using h1
      rw [h] at hm
      cases hm
    · rfl
theorem dOf_set {l : Array Bool} {i : Nat} (hi : l[i]? = some false) : dOf (l.setIfInBounds i true) = upd (dOf l) i := by
  funext j
  show (l.setIfInBounds i true).getD j false = (j == i || l.getD j false)
  rw [Array.getD_eq_getD_getElem?, Array.getD_eq_getD_getElem?, Array.getElem?_setIfInBounds]
  have hlt := (Array.getElem?_eq_some_iff.1 hi).1
  by_cases e : i = j
  · subst e
    rw [if_pos rfl, if_pos hlt]
    simp
  · rw [if_neg e]
    have : (j == i) = false := by simpa using fun h => e h.symm
    rw [this]; rfl
theorem wp_region_slots {P : Program} {id : Nat} {ops : Array Oper} {Q : Exit → Act → World → Prop} {a0 : Act} {w0 : World} (hm : P.follows .mixedOrders = true) (lo : Nat) (J : (Nat → Bool) → List Value → World → Prop)
    (hlt : (List.range ops.size).all (fun i => (depsOf ops i).all (fun j => decide (j < i))) = true)
    (xs0 : List Value) (hx0 : win a0 lo xs0 = a0) (start : J (fun _ => false) xs0 w0.drew)
    (step : ∀ d xs w i K, i < ops.size → d i = false → (∀ j ∈ depsOf ops i, d j = true) → Closed ops d → J d xs w → (∀ xs' w', J (upd d i) xs' w' → K (win a0 lo xs') w') → wpOp P ops Q i K (win a0 lo xs) w)
    (fin : ∀ d xs w, (∀ i, i < ops.size → d i = true) → J d xs w → Q .normal (win a0 lo xs) w) : (Code.region id ops true).wp P Q a0 w0 := by
  have hlt' : ∀ i, i < ops.size → ∀ j ∈ depsOf ops i, j < i := by
    intro i hi j hj
    have h1 := List.all_eq_true.1 hlt i (by simpa using hi)
    exact of_decide_eq_true (List.all_eq_true.1 h1 j hj)
  have hout : ∀ i, ¬ i < ops.size → depsOf ops i = [] := by
    intro i hi
    unfold depsOf
    rw [Array.getElem?_eq_none (by omega)]
  refine wp_region_inv hm (fun l a w => l.size = ops.size ∧ Closed ops (dOf l) ∧ ∃ xs, a = win a0 lo xs ∧ J (dOf l) xs w) ?_ ?_ ?_
  · have e : dOf (Array.replicate ops.size false) = fun _ => false := by
      funext j
      unfold dOf
      rw [Array.getD_eq_getD_getElem?]
      by_cases h : j < ops.size
      · rw [Array.getElem?_replicate, if_pos h]; rfl
      · rw [Array.getElem?_replicate, if_neg h]; rfl
    refine ⟨by simp, ?_, xs0, hx0.symm, ?_⟩
    · intro i hi; rw [e] at hi; cases hi
    · rw [e]; exact start
  · rintro l a w i ⟨hs, hc, xs, rfl, hJ⟩ hr
    obtain ⟨h1, h2, h3⟩ := ready_spec hr
    have hd : dOf l i = false := by unfold dOf; rw [Array.getD_eq_getD_getElem?, h2]; rfl
    refine step (dOf l) xs w i _ h1 hd h3 hc hJ (fun xs' w' hJ' => ⟨by simpa using hs, ?_, xs', rfl, by rw [dOf_set h2]; exact hJ'⟩)
    rw [dOf_set h2]
    intro k hk j hj
    unfold upd at hk ⊢
    rw [Bool.or_eq_true] at hk ⊢
    rcases hk with hk | hk
    · have : k = i := by simpa using hk
      subst this
      exact .inr (h3 j hj)
    · exact .inr (hc k hk j hj)
  · rintro l a w ⟨hs, hc, xs, rfl, hJ⟩ hr
    exact fin (dOf l) xs w (all_done hs hlt' hr) hJ
theorem wpOp_of {P : Program} {ops : Array Oper} {Q : Exit → Act → World → Prop} {i : Nat} {K : Act → World → Prop} {a : Act} {w : World} {o : Oper} (ho : ops[i]? = some o) (hgd : o.guard = none) (h : Oper.wp P o a w K Q) : wpOp P ops Q i K a w := by
  unfold wpOp
  rw [ho]
  simp only [Region.wanted, hgd, if_true]
  exact .inl h
end Go.Proofs.YtmfdggaijbcijaaGreat
end
