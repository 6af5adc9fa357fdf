/- Texts of mine put together (a claim holds at most 60 files): MapU, PutSpec, OneWalks. -/
import Derived.Test.YthopodopedbooaaGreatPartL15
import Derived.Maps.Own
import Derived.Maps.Views
import Derived.Test.YthopodopedbooaaGreatPartL14
import Derived.Deep.RegionHeld3
import Derived.Deep.Cut
import Derived.Deep.CutRange
import Derived.Outline
import Derived.Test.YthopodopedbooaaGreatPartL06

/- MapU -/
/- Maps from numbers to rows of ten numbers: what they hold, as a rising list of units. No condition. -/
section
namespace Go.Proofs.YthopodopedbooaaGreat
open Go.ChangeShapes Go.WideShapes Go.ChangeAt Go.RowKit
open Bd
set_option linter.unusedVariables false

theorem K10.v_inj {x y : K10} (h : (Value.agg x.v) = .agg y.v) : x = y := by
  cases x; cases y
  simp at h
  simp [h]
open Classical in
/- how such a row reads -/
def rdU (v : Value) : Option (DataW K10 × List MemPlace) :=
  match v with
  | .agg a =>
    match a.toList with
    | [.int .i64 c0, .int .i64 c1, .int .i64 c2, .int .i64 c3, .int .i64 c4, .int .i64 c5, .int .i64 c6, .int .i64 c7, .int .i64 c8, .int .i64 c9] => some (.held ⟨c0, c1, c2, c3, c4, c5, c6, c7, c8, c9⟩, [])
    | _ => none
  | _ => none
theorem rdU_mk (x : K10) : rdU (.agg x.v) = some (.held x, []) := rfl
theorem rdU_inv {v : Value} {x : K10} {p : List MemPlace} (h : rdU v = some (.held x, p)) : v = .agg x.v := by
  unfold rdU at h
  split at h
  · rename_i a
    split at h
    · rename_i c0 c1 c2 c3 c4 c5 c6 c7 c8 c9 e
      simp only [Option.some.injEq, Prod.mk.injEq, DataW.held.injEq] at h
      obtain ⟨rfl, _⟩ := h
      obtain ⟨l⟩ := a
      simp only at e
      rw [e]
    · cases h
  · cases h
def ent (u : K10) : Lit × DataW K10 := (.int .i64 u.c0, .held u)
/- a unit put among others that rise -/
def putU (u : K10) : List K10 → List K10
  | [] => [u]
  | x :: l => if u.c0 < x.c0 then u :: x :: l else if u.c0 = x.c0 then u :: l else x :: putU u l
abbrev Rise (l : List K10) : Prop := l.Pairwise (fun a b => a.c0 < b.c0)
theorem putU_mem {u y : K10} : ∀ {l : List K10}, y ∈ putU u l → y = u ∨ y ∈ l
  | [], h => by simp [putU] at h; exact .inl h
  | x :: l, h => by
    unfold putU at h
    split at h
    · rcases List.mem_cons.1 h with h | h
      · exact .inl h
      · exact .inr h
    · split at h
      · rcases List.mem_cons.1 h with h | h
        · exact .inl h
        · exact .inr (List.mem_cons_of_mem _ h)
      · rcases List.mem_cons.1 h with h | h
        · exact .inr (by rw [h]; exact List.mem_cons_self)
        · rcases putU_mem h with h | h
          · exact .inl h
          · exact .inr (List.mem_cons_of_mem _ h)
theorem putU_rise {u : K10} : ∀ {l : List K10}, Rise l → Rise (putU u l)
  | [], _ => by simp [putU, Rise]
  | x :: l, h => by
    obtain ⟨h1, h2⟩ := List.pairwise_cons.1 h
    unfold putU
    split
    · rename_i hlt
      refine List.pairwise_cons.2 ⟨fun y hy => ?_, h⟩
      rcases List.mem_cons.1 hy with rfl | hy
      · exact hlt
      · have := h1 y hy; omega
    · split
      · rename_i he
        exact List.pairwise_cons.2 ⟨fun y hy => by have := h1 y hy; omega, h2⟩
      · rename_i h3 h4
        refine List.pairwise_cons.2 ⟨fun y hy => ?_, putU_rise h2⟩
        rcases putU_mem hy with rfl | hy
        · omega
        · exact h1 y hy
theorem before_int (a b : Int) : (Lit.int .i64 a).before (.int .i64 b) = decide (a < b) := rfl
theorem same_int (a b : Int) : (Lit.int .i64 a).sameKey (.int .i64 b) = decide (a = b) := by simp [Lit.sameKey]
theorem put_all {u : K10} : ∀ {l : List K10}, Rise l → DataW.insert (ent u) ((l.map ent).filter fun p => !p.1.sameKey (.int .i64 u.c0)) = (putU u l).map ent
  | [], _ => rfl
  | x :: l, h => by
    obtain ⟨h1, h2⟩ := List.pairwise_cons.1 h
    have hr : ∀ y ∈ l, x.c0 < y.c0 := h1
    unfold putU
    by_cases hlt : u.c0 < x.c0
    · rw [if_pos hlt]
      have hk : ((x :: l).map ent).filter (fun p => !p.1.sameKey (.int .i64 u.c0)) = (x :: l).map ent := by
        apply List.filter_eq_self.2
        intro p hp
        obtain ⟨y, hy, rfl⟩ := List.mem_map.1 hp
        have : u.c0 < y.c0 := by
          rcases List.mem_cons.1 hy with rfl | hy
          · exact hlt
          · have := hr y hy; omega
        show (!(Lit.int .i64 y.c0).sameKey (.int .i64 u.c0)) = true
        rw [same_int, decide_eq_false (by omega)]; rfl
      rw [hk]
      show DataW.insert (ent u) (ent x :: l.map ent) = _
      unfold DataW.insert
      show (if ((Lit.int .i64 u.c0).before (.int .i64 x.c0)) = true then _ else _) = _
      rw [before_int, if_pos (decide_eq_true hlt)]; rfl
    · rw [if_neg hlt]
      by_cases he : u.c0 = x.c0
      · rw [if_pos he]
        have hk : ((x :: l).map ent).filter (fun p => !p.1.sameKey (.int .i64 u.c0)) = l.map ent := by
          show List.filter _ (ent x :: l.map ent) = _
          rw [List.filter_cons_of_neg (by show ¬ (!(Lit.int .i64 x.c0).sameKey (.int .i64 u.c0)) = true; rw [same_int, decide_eq_true he.symm]; simp)]
          apply List.filter_eq_self.2
          intro p hp
          obtain ⟨y, hy, rfl⟩ := List.mem_map.1 hp
          have := hr y hy
          show (!(Lit.int .i64 y.c0).sameKey (.int .i64 u.c0)) = true
          rw [same_int, decide_eq_false (by omega)]; rfl
        rw [hk]
        cases l with
        | nil => rfl
        | cons y l =>
          show DataW.insert (ent u) (ent y :: l.map ent) = _
          unfold DataW.insert
          show (if ((Lit.int .i64 u.c0).before (.int .i64 y.c0)) = true then _ else _) = _
          rw [before_int, if_pos (decide_eq_true (by have := hr y (by simp); omega))]; rfl
      · rw [if_neg he]
        have hk : ((x :: l).map ent).filter (fun p => !p.1.sameKey (.int .i64 u.c0)) = ent x :: (l.map ent).filter (fun p => !p.1.sameKey (.int .i64 u.c0)) := by
          show List.filter _ (ent x :: l.map ent) = _
          rw [List.filter_cons_of_pos (by show (!(Lit.int .i64 x.c0).sameKey (.int .i64 u.c0)) = true; rw [same_int, decide_eq_false (by omega)]; rfl)]
        rw [hk]
        show (if ((Lit.int .i64 u.c0).before (.int .i64 x.c0)) = true then _ else _) = _
        rw [before_int, if_neg (by rw [decide_eq_false hlt]; simp), put_all h2]; rfl
theorem put_ent {u : K10} {l : List K10} (h : Rise l) : (DataW.map (l.map ent)).put (.int .i64 u.c0) (.held u) = .map ((putU u l).map ent) := congrArg DataW.map (put_all h)
theorem putU_end {u : K10} : ∀ {l : List K10}, (∀ x ∈ l, x.c0 < u.c0) → putU u l = l ++ [u]
  | [], _ => rfl
  | x :: l, h => by
    have h1 := h x (by simp)
    unfold putU
    rw [if_neg (by omega), if_neg (by omega), putU_end (fun y hy => h y (by simp [hy]))]; rfl
theorem take_put {l : List K10} (h : Rise l) {k : Nat} {u : K10} (hk : l[k]? = some u) : putU u (l.take k) = l.take (k + 1) := by
  have h' := List.getElem?_eq_some_iff.1 hk
  rw [putU_end, List.take_add_one, hk]
  · rfl
  · intro x hx
    obtain ⟨i, hi, rfl⟩ := List.getElem_of_mem hx
    have hi' : i < k := by rw [List.length_take] at hi; omega
    have hi2 : i < l.length := by rw [List.length_take] at hi; omega
    rw [List.getElem_take, ← h'.2]
    exact List.pairwise_iff_getElem.1 h i k hi2 h'.1 hi'
/- the unit with an Id -/
def findU (l : List K10) (i : Int) : Option K10 := l.find? (fun x => x.c0 == i)
theorem at_ent (l : List K10) (i : Int) (z : DataW K10) : (DataW.map (l.map ent)).atKey (.int .i64 i) z = match findU l i with | some x => .held x | none => z := by
  unfold DataW.atKey findU
  dsimp only
  rw [List.find?_map]
  have e : (fun p : Lit × DataW K10 => p.1.sameKey (.int .i64 i)) ∘ ent = fun x : K10 => x.c0 == i := by
    funext x
    show (Lit.int .i64 x.c0).sameKey (.int .i64 i) = (x.c0 == i)
    rw [same_int]
    by_cases h : x.c0 = i <;> simp [h]
  rw [e]
  cases l.find? (fun x => x.c0 == i) <;> rfl
/- the map in memory -/
def MapAt (w : World) (b : Nat) (l : List K10) : Prop := w.ownsMap Tryz.prog 2 rdU b l.length (.map (l.map ent))
theorem MapAt.lt {w : World} {b : Nat} {l : List K10} (h : MapAt w b l) : b < w.heap.size := World.ownsMap.lt h
theorem MapAt.later {w w' : World} {b : Nat} {l : List K10} (h : MapAt w b l) (hb : Below w.heap.size w w') : MapAt w' b l := by
  have hlt := h.lt
  obtain ⟨es, clock, h1, F, hs, hD⟩ := h
  exact ⟨es, clock, (hb.block b hlt).trans h1, F, hs, hD⟩
theorem MapAt.of_block {w w' : World} {b : Nat} {l : List K10} (h : MapAt w b l) (e : w'.heap[b]? = w.heap[b]?) : MapAt w' b l := by
  obtain ⟨es, clock, h1, F, hs, hD⟩ := h
  exact ⟨es, clock, e.trans h1, F, hs, hD⟩
theorem MapAt.new (w : World) : MapAt (w.alloc (.map #[] 0)) w.heap.size [] := World.ownsMap_made w Tryz.prog 2 rdU
theorem wf_int {i : Int} (h0 : -9223372036854775808 ≤ i) (h1 : i ≤ 9223372036854775807) : (Lit.int .i64 i).wf = true := by
  have a : IntKind.i64.min = -9223372036854775808 := by decide
  have b : IntKind.i64.max = 9223372036854775807 := by decide
  simp [Lit.wf, a, b]
  omega
theorem find_id {l : List K10} {i : Int} {x : K10} (h : findU l i = some x) : x ∈ l ∧ x.c0 = i := by
  unfold findU at h
  exact ⟨List.mem_of_find?_eq_some h, by simpa using List.find?_some h⟩
end Go.Proofs.YthopodopedbooaaGreat
end

/- PutSpec -/
/- Contracts of the model of PutUnit's parts. Condition: the board's lists rise and lie in memory as they were laid there. -/
section
namespace Go.Proofs.YthopodopedbooaaGreat
open Go.ChangeShapes Go.WideShapes Go.ChangeAt Go.RowKit
open Bd
set_option linter.unusedVariables false

theorem putU_lt {u x : K10} {l : List K10} (h : ∀ y ∈ l, y.c0 < u.c0) (hx : u.c0 < x.c0) : putU u (l ++ [x]) = l ++ [u] ++ [x] := by
  induction l with
  | nil => show (if u.c0 < x.c0 then _ else _) = _; rw [if_pos hx]; rfl
  | cons y l ih =>
    have h1 := h y (by simp)
    show (if u.c0 < y.c0 then _ else if u.c0 = y.c0 then _ else y :: putU u (l ++ [x])) = _
    rw [if_neg (by omega), if_neg (by omega), ih (fun z hz => h z (by simp [hz]))]; rfl
theorem putU_eq {u x : K10} {l : List K10} (h : ∀ y ∈ l, y.c0 < u.c0) (hx : u.c0 = x.c0) : putU u (l ++ [x]) = l ++ [u] := by
  induction l with
  | nil => show (if u.c0 < x.c0 then _ else if u.c0 = x.c0 then _ else _) = _; rw [if_neg (by omega), if_pos hx]; rfl
  | cons y l ih =>
    have h1 := h y (by simp)
    show (if u.c0 < y.c0 then _ else if u.c0 = y.c0 then _ else y :: putU u (l ++ [x])) = _
    rw [if_neg (by omega), if_neg (by omega), ih (fun z hz => h z (by simp [hz]))]; rfl
theorem putU_snoc {u x : K10} {l : List K10} (h : ∃ y ∈ l, u.c0 ≤ y.c0) : putU u (l ++ [x]) = putU u l ++ [x] := by
  induction l with
  | nil => obtain ⟨y, hy, _⟩ := h; cases hy
  | cons y l ih =>
    show (if u.c0 < y.c0 then u :: y :: (l ++ [x]) else if u.c0 = y.c0 then u :: (l ++ [x]) else y :: putU u (l ++ [x])) = (if u.c0 < y.c0 then u :: y :: l else if u.c0 = y.c0 then u :: l else y :: putU u l) ++ [x]
    by_cases h1 : u.c0 < y.c0
    · rw [if_pos h1, if_pos h1]; rfl
    rw [if_neg h1, if_neg h1]
    by_cases h2 : u.c0 = y.c0
    · rw [if_pos h2, if_pos h2]; rfl
    rw [if_neg h2, if_neg h2, ih]
    · rfl
    · obtain ⟨z, hz, hle⟩ := h
      rcases List.mem_cons.1 hz with rfl | hz
      · omega
      · exact ⟨z, hz, hle⟩
theorem SlU.mono {w : World} {base base' : Nat} {v : Value} {l : List K10} (h : SlU w base v l) (hb : base' ≤ base) : SlU w base' v l := by
  rcases h with ⟨h1, h2⟩
  refine ⟨h1, ?_⟩
  rcases h2 with h2 | ⟨g, cap, cur, hv, hbb, r⟩
  · exact .inl h2
  · exact .inr ⟨g, cap, cur, hv, Nat.le_trans hb hbb, r⟩
theorem SlF.mono {w : World} {base base' : Nat} {v : Value} {l : List K3} (h : SlF w base v l) (hb : base' ≤ base) : SlF w base' v l := by
  rcases h with ⟨h1, h2⟩
  refine ⟨h1, ?_⟩
  rcases h2 with h2 | ⟨g, cap, cur, hv, hbb, r⟩
  · exact .inl h2
  · exact .inr ⟨g, cap, cur, hv, Nat.le_trans hb hbb, r⟩
/- what is out behind k units: d: u is among them -/
def lp (u : K10) (us : List K10) (d : Bool) (k : Nat) : List K10 := if d = true then putU u (us.take k) else us.take k
def lc (u : K10) (us : List K10) (d : Bool) (k : Nat) : Prop := (d = false ∧ ∀ x ∈ us.take k, x.c0 < u.c0) ∨ (d = true ∧ ∃ x ∈ us.take k, u.c0 ≤ x.c0)
theorem putU_len (u : K10) : ∀ l : List K10, (putU u l).length ≤ l.length + 1
  | [] => by simp [putU]
  | x :: l => by
    unfold putU
    split
    · simp
    · split
      · simp
      · have := putU_len u l; simp; exact this
theorem take_next {us : List K10} {k : Nat} {x : K10} (h : us[k]? = some x) : us.take (k + 1) = us.take k ++ [x] := by rw [List.take_add_one, h]; rfl
theorem mem_next {us : List K10} {k : Nat} {x : K10} (h : us[k]? = some x) : x ∈ us.take (k + 1) := by rw [take_next h]; simp
theorem lp_len (u : K10) (us : List K10) (d : Bool) (k : Nat) (h : us.length ≤ 8) : (lp u us d k).length ≤ 9 := by
  unfold lp
  split
  · have := putU_len u (us.take k); rw [List.length_take] at this; omega
  · rw [List.length_take]; omega
end Go.Proofs.YthopodopedbooaaGreat
end

/- OneWalks -/
/- Contracts of UnitOf and of its model, and of the program's map of rows by Id. Condition: the board's two lists lie in memory as they were laid there. -/
section
namespace Go.Proofs.YthopodopedbooaaGreat
open Go.ChangeShapes Go.WideShapes Go.ChangeAt Go.RowKit
open Bd
set_option linter.unusedVariables false

theorem cell_of_block {w w' : World} {g : Nat} (e : w'.heap[g]? = w.heap[g]?) (o : Nat) : w'.cell? ⟨g, o, none⟩ = w.cell? ⟨g, o, none⟩ := by
  unfold World.cell?
  rw [e]
theorem U1.of_block {w w' : World} {g off : Nat} {x : K10} (h : U1 w g off x) (e : w'.heap[g]? = w.heap[g]?) (hl : g < w'.heap.size) : U1 w' g off x :=
  ⟨(cell_of_block e _).trans h.c0, (cell_of_block e _).trans h.c1, (cell_of_block e _).trans h.c2, (cell_of_block e _).trans h.c3, (cell_of_block e _).trans h.c4, (cell_of_block e _).trans h.c5, (cell_of_block e _).trans h.c6, (cell_of_block e _).trans h.c7, (cell_of_block e _).trans h.c8, (cell_of_block e _).trans h.c9, hl⟩
/- where a unit with an Id lies -/
def atU (l : List K10) (i : Int) : Option Nat := l.findIdx? (fun x => x.c0 == i)
def atI (l : List K10) (i : Int) : Int := match atU l i with | some k => (k : Int) | none => -1
theorem atU_find (l : List K10) (i : Int) : (atU l i = none ∧ findU l i = none) ∨ ∃ k x, atU l i = some k ∧ l[k]? = some x ∧ findU l i = some x := by
  unfold atU findU
  induction l with
  | nil => exact .inl ⟨rfl, rfl⟩
  | cons a l ih =>
    rw [List.findIdx?_cons]
    cases h : a.c0 == i
    · rw [List.find?_cons_of_neg (by rw [h]; simp)]
      rcases ih with ⟨h1, h2⟩ | ⟨k, x, h1, h2, h3⟩
      · exact .inl ⟨by rw [h1]; rfl, h2⟩
      · exact .inr ⟨k + 1, x, by rw [h1]; rfl, h2, h3⟩
    · rw [List.find?_cons_of_pos (p := fun x : K10 => x.c0 == i) h]
      exact .inr ⟨0, a, by simp, rfl, rfl⟩
theorem atI_step {l : List K10} {i : Int} {k : Nat} (hp : ∀ j y, j < k → l[j]? = some y → (y.c0 == i) = false) {x : K10} (hx : l[k]? = some x) (h : (x.c0 == i) = true) : atI l i = (k : Int) := by
  have e : atU l i = some k := by
    unfold atU
    rw [List.findIdx?_eq_some_iff_getElem]
    obtain ⟨h1, h2⟩ := List.getElem?_eq_some_iff.1 hx
    refine ⟨h1, by rw [h2]; exact h, fun j hj => ?_⟩
    have := hp j _ hj (List.getElem?_eq_getElem (by omega))
    rw [this]; simp
  unfold atI; rw [e]
theorem atI_none {l : List K10} {i : Int} (hp : ∀ j y, j < l.length → l[j]? = some y → (y.c0 == i) = false) : atI l i = -1 := by
  have e : atU l i = none := by
    unfold atU
    rw [List.findIdx?_eq_none_iff]
    intro y hy
    obtain ⟨j, hj, rfl⟩ := List.getElem_of_mem hy
    exact hp j _ hj (List.getElem?_eq_getElem hj)
  unfold atI; rw [e]
end Go.Proofs.YthopodopedbooaaGreat
end
