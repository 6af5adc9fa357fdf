/- Texts of mine put together (a claim holds at most 60 files): MapU, Nums. -/
import Derived.Test.YtppgjmpdnpidnaaGreatDoorPartK08
import Derived.Maps.Own
import Derived.Maps.Views

/- MapU -/
/- Maps from numbers to rows of ten numbers: what they hold, as a rising list of units. No condition. -/
section
namespace Go.Proofs.YtppgjmpdnpidnaaGreatDoor
open Go.ChangeShapes Go.WideShapes Go.ChangeAt Go.RowKit
open Bd
set_option linter.unusedVariables false

open Classical in
/- how such a row reads -/
def rdU (v : Value) : Option (DataW K10 × List MemPlace) :=
  match v with
  | .agg a =>
    match a.toList with
    | [.int .i64 c0, .int .i64 c1, .int .i64 c2, .int .i64 c3, .int .i64 c4, .int .i64 c5, .int .i64 c6, .int .i64 c7, .int .i64 c8, .int .i64 c9] => some (.held ⟨c0, c1, c2, c3, c4, c5, c6, c7, c8, c9⟩, [])
    | _ => none
  | _ => none
theorem rdU_mk (x : K10) : rdU (.agg x.v) = some (.held x, []) := rfl
theorem rdU_inv {v : Value} {x : K10} {p : List MemPlace} (h : rdU v = some (.held x, p)) : v = .agg x.v := by
  unfold rdU at h
  split at h
  · rename_i a
    split at h
    · rename_i c0 c1 c2 c3 c4 c5 c6 c7 c8 c9 e
      simp only [Option.some.injEq, Prod.mk.injEq, DataW.held.injEq] at h
      obtain ⟨rfl, _⟩ := h
      obtain ⟨l⟩ := a
      simp only at e
      rw [e]
    · cases h
  · cases h
def ent (u : K10) : Lit × DataW K10 := (.int .i64 u.c0, .held u)
/- a unit put among others that rise -/
def putU (u : K10) : List K10 → List K10
  | [] => [u]
  | x :: l => if u.c0 < x.c0 then u :: x :: l else if u.c0 = x.c0 then u :: l else x :: putU u l
abbrev Rise (l : List K10) : Prop := l.Pairwise (fun a b => a.c0 < b.c0)
theorem putU_mem {u y : K10} : ∀ {l : List K10}, y ∈ putU u l → y = u ∨ y ∈ l
  | [], h => by simp [putU] at h; exact .inl h
  | x :: l, h => by
    unfold putU at h
    split at h
    · rcases List.mem_cons.1 h with h | h
      · exact .inl h
      · exact .inr h
    · split at h
      · rcases List.mem_cons.1 h with h | h
        · exact .inl h
        · exact .inr (List.mem_cons_of_mem _ h)
      · rcases List.mem_cons.1 h with h | h
        · exact .inr (by rw [h]; exact List.mem_cons_self)
        · rcases putU_mem h with h | h
          · exact .inl h
          · exact .inr (List.mem_cons_of_mem _ h)
theorem putU_rise {u : K10} : ∀ {l : List K10}, Rise l → Rise (putU u l)
  | [], _ => by simp [putU, Rise]
  | x :: l, h => by
    obtain ⟨h1, h2⟩ := List.pairwise_cons.1 h
    unfold putU
    split
    · rename_i hlt
      refine List.pairwise_cons.2 ⟨fun y hy => ?_, h⟩
      rcases List.mem_cons.1 hy with rfl | hy
      · exact hlt
      · have := h1 y hy; omega
    · split
      · rename_i he
        exact List.pairwise_cons.2 ⟨fun y hy => by have := h1 y hy; omega, h2⟩
      · rename_i h3 h4
        refine List.pairwise_cons.2 ⟨fun y hy => ?_, putU_rise h2⟩
        rcases putU_mem hy with rfl | hy
        · omega
        · exact h1 y hy
theorem before_int (a b : Int) : (Lit.int .i64 a).before (.int .i64 b) = decide (a < b) := rfl
theorem same_int (a b : Int) : (Lit.int .i64 a).sameKey (.int .i64 b) = decide (a = b) := by simp [Lit.sameKey]
theorem put_all {u : K10} : ∀ {l : List K10}, Rise l → DataW.insert (ent u) ((l.map ent).filter fun p => !p.1.sameKey (.int .i64 u.c0)) = (putU u l).map ent
  | [], _ => rfl
  | x :: l, h => by
    obtain ⟨h1, h2⟩ := List.pairwise_cons.1 h
    have hr : ∀ y ∈ l, x.c0 < y.c0 := h1
    unfold putU
    by_cases hlt : u.c0 < x.c0
    · rw [if_pos hlt]
      have hk : ((x :: l).map ent).filter (fun p => !p.1.sameKey (.int .i64 u.c0)) = (x :: l).map ent := by
        apply List.filter_eq_self.2
        intro p hp
        obtain ⟨y, hy, rfl⟩ := List.mem_map.1 hp
        have : u.c0 < y.c0 := by
          rcases List.mem_cons.1 hy with rfl | hy
          · exact hlt
          · have := hr y hy; omega
        show (!(Lit.int .i64 y.c0).sameKey (.int .i64 u.c0)) = true
        rw [same_int, decide_eq_false (by omega)]; rfl
      rw [hk]
      show DataW.insert (ent u) (ent x :: l.map ent) = _
      unfold DataW.insert
      show (if ((Lit.int .i64 u.c0).before (.int .i64 x.c0)) = true then _ else _) = _
      rw [before_int, if_pos (decide_eq_true hlt)]; rfl
    · rw [if_neg hlt]
      by_cases he : u.c0 = x.c0
      · rw [if_pos he]
        have hk : ((x :: l).map ent).filter (fun p => !p.1.sameKey (.int .i64 u.c0)) = l.map ent := by
          show List.filter _ (ent x :: l.map ent) = _
          rw [List.filter_cons_of_neg (by show ¬ (!(Lit.int .i64 x.c0).sameKey (.int .i64 u.c0)) = true; rw [same_int, decide_eq_true he.symm]; simp)]
          apply List.filter_eq_self.2
          intro p hp
          obtain ⟨y, hy, rfl⟩ := List.mem_map.1 hp
          have := hr y hy
          show (!(Lit.int .i64 y.c0).sameKey (.int .i64 u.c0)) = true
          rw [same_int, decide_eq_false (by omega)]; rfl
        rw [hk]
        cases l with
        | nil => rfl
        | cons y l =>
          show DataW.insert (ent u) (ent y :: l.map ent) = _
          unfold DataW.insert
          show (if ((Lit.int .i64 u.c0).before (.int .i64 y.c0)) = true then _ else _) = _
          rw [before_int, if_pos (decide_eq_true (by have := hr y (by simp); omega))]; rfl
      · rw [if_neg he]
        have hk : ((x :: l).map ent).filter (fun p => !p.1.sameKey (.int .i64 u.c0)) = ent x :: (l.map ent).filter (fun p => !p.1.sameKey (.int .i64 u.c0)) := by
          show List.filter _ (ent x :: l.map ent) = _
          rw [List.filter_cons_of_pos (by show (!(Lit.int .i64 x.c0).sameKey (.int .i64 u.c0)) = true; rw [same_int, decide_eq_false (by omega)]; rfl)]
        rw [hk]
        show (if ((Lit.int .i64 u.c0).before (.int .i64 x.c0)) = true then _ else _) = _
        rw [before_int, if_neg (by rw [decide_eq_false hlt]; simp), put_all h2]; rfl
theorem put_ent {u : K10} {l : List K10} (h : Rise l) : (DataW.map (l.map ent)).put (.int .i64 u.c0) (.held u) = .map ((putU u l).map ent) := congrArg DataW.map (put_all h)
theorem putU_end {u : K10} : ∀ {l : List K10}, (∀ x ∈ l, x.c0 < u.c0) → putU u l = l ++ [u]
  | [], _ => rfl
  | x :: l, h => by
    have h1 := h x (by simp)
    unfold putU
    rw [if_neg (by omega), if_neg (by omega), putU_end (fun y hy => h y (by simp [hy]))]; rfl
theorem take_put {l : List K10} (h : Rise l) {k : Nat} {u : K10} (hk : l[k]? = some u) : putU u (l.take k) = l.take (k + 1) := by
  have h' := List.getElem?_eq_some_iff.1 hk
  rw [putU_end, List.take_add_one, hk]
  · rfl
  · intro x hx
    obtain ⟨i, hi, rfl⟩ := List.getElem_of_mem hx
    have hi' : i < k := by rw [List.length_take] at hi; omega
    have hi2 : i < l.length := by rw [List.length_take] at hi; omega
    rw [List.getElem_take, ← h'.2]
    exact List.pairwise_iff_getElem.1 h i k hi2 h'.1 hi'
/- the unit with an Id -/
def findU (l : List K10) (i : Int) : Option K10 := l.find? (fun x => x.c0 == i)
theorem at_ent (l : List K10) (i : Int) (z : DataW K10) : (DataW.map (l.map ent)).atKey (.int .i64 i) z = match findU l i with | some x => .held x | none => z := by
  unfold DataW.atKey findU
  dsimp only
  rw [List.find?_map]
  have e : (fun p : Lit × DataW K10 => p.1.sameKey (.int .i64 i)) ∘ ent = fun x : K10 => x.c0 == i := by
    funext x
    show (Lit.int .i64 x.c0).sameKey (.int .i64 i) = (x.c0 == i)
    rw [same_int]
    by_cases h : x.c0 = i <;> simp [h]
  rw [e]
  cases l.find? (fun x => x.c0 == i) <;> rfl
/- the map in memory -/
def MapAt (w : World) (b : Nat) (l : List K10) : Prop := w.ownsMap Tryz.prog 2 rdU b l.length (.map (l.map ent))
theorem MapAt.lt {w : World} {b : Nat} {l : List K10} (h : MapAt w b l) : b < w.heap.size := World.ownsMap.lt h
theorem MapAt.later {w w' : World} {b : Nat} {l : List K10} (h : MapAt w b l) (hb : Below w.heap.size w w') : MapAt w' b l := by
  have hlt := h.lt
  obtain ⟨es, clock, h1, F, hs, hD⟩ := h
  exact ⟨es, clock, (hb.block b hlt).trans h1, F, hs, hD⟩
theorem MapAt.of_block {w w' : World} {b : Nat} {l : List K10} (h : MapAt w b l) (e : w'.heap[b]? = w.heap[b]?) : MapAt w' b l := by
  obtain ⟨es, clock, h1, F, hs, hD⟩ := h
  exact ⟨es, clock, e.trans h1, F, hs, hD⟩
theorem MapAt.new (w : World) : MapAt (w.alloc (.map #[] 0)) w.heap.size [] := World.ownsMap_made w Tryz.prog 2 rdU
theorem wf_int {i : Int} (h0 : -9223372036854775808 ≤ i) (h1 : i ≤ 9223372036854775807) : (Lit.int .i64 i).wf = true := by
  have a : IntKind.i64.min = -9223372036854775808 := by decide
  have b : IntKind.i64.max = 9223372036854775807 := by decide
  simp [Lit.wf, a, b]
  omega
theorem MapAt.update {w : World} {b : Nat} {l : List K10} (h : MapAt w b l) (hr : Rise l) (hn : l.length ≤ 100) (u : K10) (hw : (Lit.int .i64 u.c0).wf = true) :
    ∃ w', (Instr.mapUpdate 124 (.map (some b)) (.int .i64 u.c0) (.agg u.v)).run Tryz.prog w = .ok () w' ∧ MapAt w' b (putU u l) ∧ w.grownBy w' (some b) := by
  obtain ⟨w', h1, h2, h3⟩ := World.ownsMap.update h (Maps.int_keyed Tryz.underlying2) Tryz.underlying124 (by unfold maxLen; omega) (Maps.keyOf_int_mk Tryz.underlying2 hw) (rdU_mk u)
  rw [put_ent hr] at h2
  refine ⟨w', h1, ?_, h3⟩
  obtain ⟨es, clock, g1, F, hs, hD⟩ := h2
  refine ⟨es, clock, g1, F, ?_, hD⟩
  have e1 : ((putU u l).map ent).length = es.size := by
    have := congrArg (fun d => match d with | DataW.map x => x.length | _ => 0) hD
    simp only at this
    rw [this, length_sorted]; simp
  rw [List.length_map] at e1
  omega
theorem find_id {l : List K10} {i : Int} {x : K10} (h : findU l i = some x) : x ∈ l ∧ x.c0 = i := by
  unfold findU at h
  exact ⟨List.mem_of_find?_eq_some h, by simpa using List.find?_some h⟩
theorem zero78 (w : World) : (zeroValue 133).run Tryz.prog w = .ok (.agg K10.z.v) w := by
  have hz : Tryz.t133.zero = some (.agg K10.z.v) := by kernel_rfl
  unfold zeroValue
  simp [hz, go_sem]
/- the look-up -/
theorem MapAt.look {w : World} {b : Nat} {l : List K10} (h : MapAt w b l) (i : Int) (hw : (Lit.int .i64 i).wf = true) :
    (Instr.lookup 124 (.map (some b)) (.int .i64 i) true).run Tryz.prog w = .ok (match findU l i with | some x => .tuple #[.agg x.v, .bool true] | none => .tuple #[.agg K10.z.v, .bool false]) w := by
  obtain ⟨es, clock, hb, F, hs, hD⟩ := h
  rcases Maps.fit_look true (Maps.int_keyed Tryz.underlying2) Tryz.underlying124 (zero78 w) hb F (Maps.keyOf_int_mk Tryz.underlying2 hw) with ⟨hrun, _, hat⟩ | ⟨e0, y, _, _, hrun, hRv, hat, _⟩
  · rw [← hD] at hat
    have h1 := hat (.lit (.int .i64 0))
    rw [at_ent] at h1
    rw [hrun]
    cases hf : findU l i with
    | none => rfl
    | some x => rw [hf] at h1; cases h1
  · rw [← hD] at hat
    have h1 := hat (.lit (.int .i64 0))
    have h2 := hat .nil
    rw [at_ent] at h1 h2
    rw [hrun]
    cases hf : findU l i with
    | none => rw [hf] at h1 h2; simp only at h1 h2; rw [← h1] at h2; cases h2
    | some x =>
      rw [hf] at h1
      simp only at h1
      obtain ⟨y1, y2⟩ := y
      simp only at h1
      subst h1
      rw [rdU_inv hRv]; rfl
theorem MapAt.look1 {w : World} {b : Nat} {l : List K10} (h : MapAt w b l) (i : Int) (hw : (Lit.int .i64 i).wf = true) {x : K10} (hf : findU l i = some x) :
    (Instr.lookup 124 (.map (some b)) (.int .i64 i) false).run Tryz.prog w = .ok (.agg x.v) w := by
  obtain ⟨es, clock, hb, F, hs, hD⟩ := h
  rcases Maps.fit_look false (Maps.int_keyed Tryz.underlying2) Tryz.underlying124 (zero78 w) hb F (Maps.keyOf_int_mk Tryz.underlying2 hw) with ⟨hrun, _, hat⟩ | ⟨e0, y, _, _, hrun, hRv, hat, _⟩
  · rw [← hD] at hat
    have h1 := hat (.lit (.int .i64 0))
    rw [at_ent, hf] at h1
    cases h1
  · rw [← hD] at hat
    have h1 := hat (.lit (.int .i64 0))
    rw [at_ent, hf] at h1
    rw [hrun]
    simp only at h1
    obtain ⟨y1, y2⟩ := y
    simp only at h1
    subst h1
    rw [rdU_inv hRv]; rfl
end Go.Proofs.YtppgjmpdnpidnaaGreatDoor
end

/- Nums -/
section
/- Plain arithmetic of chapter 1 (numbers): what each function answers, as plain functions on integers. No condition. -/
namespace Go.Proofs.YtppgjmpdnpidnaaGreatDoor.Nums

def apC (a b : Int) : Int := if a < 0 ∨ 1000000 < a ∨ b < -1000000 ∨ 1000000 < b then 3 else if a + b < 0 then 10 else if 1000000 < a + b then 7 else 0
def apV (a b : Int) : Int := if apC a b = 0 then a + b else 0

def nsC (s : Int) : Int := if s < 1 ∨ 2147483646 < s then 3 else 0
def nsV (s : Int) : Int := if s < 1 ∨ 2147483646 < s then 0 else 48271 * s % 2147483647

def roC (s n : Int) : Int := if s < 1 ∨ 2147483646 < s ∨ n < 1 ∨ 1000 < n then 3 else 0
def roV (s n : Int) : Int := if s < 1 ∨ 2147483646 < s ∨ n < 1 ∨ 1000 < n then 0 else (48271 * s % 2147483647) % n

/- a tile: both numbers 0 to 11 -/
def tileB (x y : Int) : Bool := decide (0 ≤ x) && decide (x ≤ 11) && decide (0 ≤ y) && decide (y ≤ 11)
theorem tile_cases (x y : Int) :
    (x < 0 ∧ tileB x y = false) ∨ (0 ≤ x ∧ 11 < x ∧ tileB x y = false) ∨ (0 ≤ x ∧ x ≤ 11 ∧ y < 0 ∧ tileB x y = false) ∨
    (0 ≤ x ∧ x ≤ 11 ∧ 0 ≤ y ∧ 11 < y ∧ tileB x y = false) ∨ (0 ≤ x ∧ x ≤ 11 ∧ 0 ≤ y ∧ y ≤ 11 ∧ tileB x y = true) := by
  unfold tileB
  by_cases h1 : 0 ≤ x <;> by_cases h2 : x ≤ 11 <;> by_cases h3 : 0 ≤ y <;> by_cases h4 : y ≤ 11 <;> simp [h1, h2, h3, h4] <;> omega
theorem tile_iff (x y : Int) : tileB x y = true ↔ 0 ≤ x ∧ x ≤ 11 ∧ 0 ≤ y ∧ y ≤ 11 := by
  unfold tileB; simp [and_assoc]

def gap (a b : Int) : Int := if a < b then b - a else a - b
def near (a b : Int) : Int := if a < b then a + 1 else if b < a then a - 1 else a
def mx (a b : Int) : Int := if b < a then a else b
def faC (x1 y1 x2 y2 : Int) : Int := if (tileB x1 y1 && tileB x2 y2) = true then 0 else 3
def faV (x1 y1 x2 y2 : Int) : Int := if (tileB x1 y1 && tileB x2 y2) = true then mx (gap x1 x2) (gap y1 y2) else 0
def stX (x1 y1 x2 y2 : Int) : Int := if (tileB x1 y1 && tileB x2 y2) = true then near x1 x2 else 0
def stY (x1 y1 x2 y2 : Int) : Int := if (tileB x1 y1 && tileB x2 y2) = true then near y1 y2 else 0

end Go.Proofs.YtppgjmpdnpidnaaGreatDoor.Nums
end
