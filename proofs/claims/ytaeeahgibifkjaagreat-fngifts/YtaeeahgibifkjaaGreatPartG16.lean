/- Texts of mine put together (a claim holds at most 60 files): MapU, PutSpec, OneWalks. -/
import Derived.Test.YtaeeahgibifkjaaGreatPartG15
import Derived.Maps.Own
import Derived.Maps.Views
import Derived.Test.YtaeeahgibifkjaaGreatPartG14
import Derived.Deep.RegionHeld3
import Derived.Deep.Cut
import Derived.Deep.CutRange
import Derived.Outline
import Derived.Test.YtaeeahgibifkjaaGreatPartG06

/- MapU -/
/- Maps from numbers to rows of ten numbers: what they hold, as a rising list of units. No condition. -/
section
namespace Go.Proofs.YtaeeahgibifkjaaGreat
open Go.ChangeShapes Go.WideShapes Go.ChangeAt Go.RowKit
open Bd
set_option linter.unusedVariables false

theorem K10.v_inj {x y : K10} (h : (Value.agg x.v) = .agg y.v) : x = y := by
  cases x; cases y
  simp at h
  simp [h]
open Classical in
/- how such a row reads -/
def rdU (v : Value) : Option (DataW K10 × List MemPlace) :=
  match v with
  | .agg a =>
    match a.toList with
    | [.int .i64 c0, .int .i64 c1, .int .i64 c2, .int .i64 c3, .int .i64 c4, .int .i64 c5, .int .i64 c6, .int .i64 c7, .int .i64 c8, .int .i64 c9] => some (.held ⟨c0, c1, c2, c3, c4, c5, c6, c7, c8, c9⟩, [])
    | _ => none
  | _ => none
theorem rdU_mk (x : K10) : rdU (.agg x.v) = some (.held x, []) := rfl
theorem rdU_inv {v : Value} {x : K10} {p : List MemPlace} (h : rdU v = some (.held x, p)) : v = .agg x.v := by
  unfold rdU at h
  split at h
  · rename_i a
    split at h
    · rename_i c0 c1 c2 c3 c4 c5 c6 c7 c8 c9 e
      simp only [Option.some.injEq, Prod.mk.injEq, DataW.held.injEq] at h
      obtain ⟨rfl, _⟩ := h
      obtain ⟨l⟩ := a
      simp only at e
      rw [e]
    · cases h
  · cases h
def ent (u : K10) : Lit × DataW K10 := (.int .i64 u.c0, .held u)
/- a unit put among others that rise -/
def putU (u : K10) : List K10 → List K10
  | [] => [u]
  | x :: l => if u.c0 < x.c0 then u :: x :: l else if u.c0 = x.c0 then u :: l else x :: putU u l
abbrev Rise (l : List K10) : Prop := l.Pairwise (fun a b => a.c0 < b.c0)
theorem putU_mem {u y : K10} : ∀ {l : List K10}, y ∈ putU u l → y = u ∨ y ∈ l
  | [], h => by simp [putU] at h; exact .inl h
  | x :: l, h => by
    unfold putU at h
    split at h
    · rcases List.mem_cons.1 h with h | h
      · exact .inl h
      · exact .inr h
    · split at h
      · rcases List.mem_cons.1 h with h | h
        · exact .inl h
        · exact .inr (List.mem_cons_of_mem _ h)
      · rcases List.mem_cons.1 h with h | h
        · exact .inr (by rw [h]; exact List.mem_cons_self)
        · rcases putU_mem h with h | h
          · exact .inl h
          · exact .inr (List.mem_cons_of_mem _ h)
theorem putU_rise {u : K10} : ∀ {l : List K10}, Rise l → Rise (putU u l)
  | [], _ => by simp [putU, Rise]
  | x :: l, h => by
    obtain ⟨h1, h2⟩ := List.pairwise_cons.1 h
    unfold putU
    split
    · rename_i hlt
      refine List.pairwise_cons.2 ⟨fun y hy => ?_, h⟩
      rcases List.mem_cons.1 hy with rfl | hy
      · exact hlt
      · have := h1 y hy; omega
    · split
      · rename_i he
        exact List.pairwise_cons.2 ⟨fun y hy => by have := h1 y hy; omega, h2⟩
      · rename_i h3 h4
        refine List.pairwise_cons.2 ⟨fun y hy => ?_, putU_rise h2⟩
        rcases putU_mem hy with rfl | hy
        · omega
        · exact h1 y hy
theorem before_int (a b : Int) : (Lit.int .i64 a).before (.int .i64 b) = decide (a < b) := rfl
theorem same_int (a b : Int) : (Lit.int .i64 a).sameKey (.int .i64 b) = decide (a = b) := by simp [Lit.sameKey]
theorem put_all {u : K10} : ∀ {l : List K10}, Rise l → DataW.insert (ent u) ((l.map ent).filter fun p => !p.1.sameKey (.int .i64 u.c0)) = (putU u l).map ent
  | [], _ => rfl
  | x :: l, h => by
    obtain ⟨h1, h2⟩ := List.pairwise_cons.1 h
    have hr : ∀ y ∈ l, x.c0 < y.c0 := h1
    unfold putU
    by_cases hlt : u.c0 < x.c0
    · rw [if_pos hlt]
      have hk : ((x :: l).map ent).filter (fun p => !p.1.sameKey (.int .i64 u.c0)) = (x :: l).map ent := by
        apply List.filter_eq_self.2
        intro p hp
        obtain ⟨y, hy, rfl⟩ := List.mem_map.1 hp
        have : u.c0 < y.c0 := by
          rcases List.mem_cons.1 hy with rfl | hy
          · exact hlt
          · have := hr y hy; omega
        show (!(Lit.int .i64 y.c0).sameKey (.int .i64 u.c0)) = true
        rw [same_int, decide_eq_false (by omega)]; rfl
      rw [hk]
      show DataW.insert (ent u) (ent x :: l.map ent) = _
      unfold DataW.insert
      show (if ((Lit.int .i64 u.c0).before (.int .i64 x.c0)) = true then _ else _) = _
      rw [before_int, if_pos (decide_eq_true hlt)]; rfl
    · rw [if_neg hlt]
      by_cases he : u.c0 = x.c0
      · rw [if_pos he]
        have hk : ((x :: l).map ent).filter (fun p => !p.1.sameKey (.int .i64 u.c0)) = l.map ent := by
          show List.filter _ (ent x :: l.map ent) = _
          rw [List.filter_cons_of_neg (by show ¬ (!(Lit.int .i64 x.c0).sameKey (.int .i64 u.c0)) = true; rw [same_int, decide_eq_true he.symm]; simp)]
          apply List.filter_eq_self.2
          intro p hp
          obtain ⟨y, hy, rfl⟩ := List.mem_map.1 hp
          have := hr y hy
          show (!(Lit.int .i64 y.c0).sameKey (.int .i64 u.c0)) = true
          rw [same_int, decide_eq_false (by omega)]; rfl
        rw [hk]
        cases l with
        | nil => rfl
        | cons y l =>
          show DataW.insert (ent u) (ent y :: l.map ent) = _
          unfold DataW.insert
          show (if ((Lit.int .i64 u.c0).before (.int .i64 y.c0)) = true then _ else _) = _
          rw [before_int, if_pos (decide_eq_true (by have := hr y (by simp); omega))]; rfl
      · rw [if_neg he]
        have hk : ((x :: l).map ent).filter (fun p => !p.1.sameKey (.int .i64 u.c0)) = ent x :: (l.map ent).filter (fun p => !p.1.sameKey (.int .i64 u.c0)) := by
          show List.filter _ (ent x :: l.map ent) = _
          rw [List.filter_cons_of_pos (by show (!(Lit.int .i64 x.c0).sameKey (.int .i64 u.c0)) = true; rw [same_int, decide_eq_false (by omega)]; rfl)]
        rw [hk]
        show (if ((Lit.int .i64 u.c0).before (.int .i64 x.c0)) = true then _ else _) = _
        rw [before_int, if_neg (by rw [decide_eq_false hlt]; simp), put_all h2]; rfl
theorem put_ent {u : K10} {l : List K10} (h : Rise l) : (DataW.map (l.map ent)).put (.int .i64 u.c0) (.held u) = .map ((putU u l).map ent) := congrArg DataW.map (put_all h)
theorem putU_end {u : K10} : ∀ {l : List K10}, (∀ x ∈ l, x.c0 < u.c0) → putU u l = l ++ [u]
  | [], _ => rfl
  | x :: l, h => by
    have h1 := h x (by simp)
    unfold putU
    rw [if_neg (by omega), if_neg (by omega), putU_end (fun y hy => h y (by simp [hy]))]; rfl
theorem take_put {l : List K10} (h : Rise l) {k : Nat} {u : K10} (hk : l[k]? = some u) : putU u (l.take k) = l.take (k + 1) := by
  have h' := List.getElem?_eq_some_iff.1 hk
  rw [putU_end, List.take_add_one, hk]
  · rfl
  · intro x hx
    obtain ⟨i, hi, rfl⟩ := List.getElem_of_mem hx
    have hi' : i < k := by rw [List.length_take] at hi; omega
    have hi2 : i < l.length := by rw [List.length_take] at hi; omega
    rw [List.getElem_take, ← h'.2]
    exact List.pairwise_iff_getElem.1 h i k hi2 h'.1 hi'
/- the unit with an Id -/
def findU (l : List K10) (i : Int) : Option K10 := l.find? (fun x => x.c0 == i)
theorem at_ent (l : List K10) (i : Int) (z : DataW K10) : (DataW.map (l.map ent)).atKey (.int .i64 i) z = match findU l i with | some x => .held x | none => z := by
  unfold DataW.atKey findU
  dsimp only
  rw [List.find?_map]
  have e : (fun p : Lit × DataW K10 => p.1.sameKey (.int .i64 i)) ∘ ent = fun x : K10 => x.c0 == i := by
    funext x
    show (Lit.int .i64 x.c0).sameKey (.int .i64 i) = (x.c0 == i)
    rw [same_int]
    by_cases h : x.c0 = i <;> simp [h]
  rw [e]
  cases l.find? (fun x => x.c0 == i) <;> rfl
/- the map in memory -/
def MapAt (w : World) (b : Nat) (l : List K10) : Prop := w.ownsMap Tryz.prog 2 rdU b l.length (.map (l.map ent))
theorem MapAt.lt {w : World} {b : Nat} {l : List K10} (h : MapAt w b l) : b < w.heap.size := World.ownsMap.lt h
theorem MapAt.later {w w' : World} {b : Nat} {l : List K10} (h : MapAt w b l) (hb : Below w.heap.size w w') : MapAt w' b l := by
  have hlt := h.lt
  obtain ⟨es, clock, h1, F, hs, hD⟩ := h
  exact ⟨es, clock, (hb.block b hlt).trans h1, F, hs, hD⟩
theorem MapAt.of_block {w w' : World} {b : Nat} {l : List K10} (h : MapAt w b l) (e : w'.heap[b]? = w.heap[b]?) : MapAt w' b l := by
  obtain ⟨es, clock, h1, F, hs, hD⟩ := h
  exact ⟨es, clock, e.trans h1, F, hs, hD⟩
theorem MapAt.new (w : World) : MapAt (w.alloc (.map #[] 0)) w.heap.size [] := World.ownsMap_made w Tryz.prog 2 rdU
theorem wf_int {i : Int} (h0 : -9223372036854775808 ≤ i) (h1 : i ≤ 9223372036854775807) : (Lit.int .i64 i).wf = true := by
  have a : IntKind.i64.min = -9223372036854775808 := by decide
  have b : IntKind.i64.max = 9223372036854775807 := by decide
  simp [Lit.wf, a, b]
  omega
theorem MapAt.update {w : World} {b : Nat} {l : List K10} (h : MapAt w b l) (hr : Rise l) (hn : l.length ≤ 100) (u : K10) (hw : (Lit.int .i64 u.c0).wf = true) :
    ∃ w', (Instr.mapUpdate 119 (.map (some b)) (.int .i64 u.c0) (.agg u.v)).run Tryz.prog w = .ok () w' ∧ MapAt w' b (putU u l) ∧ w.grownBy w' (some b) := by
  obtain ⟨w', h1, h2, h3⟩ := World.ownsMap.update h (Maps.int_keyed Tryz.underlying2) Tryz.underlying119 (by unfold maxLen; omega) (Maps.keyOf_int_mk Tryz.underlying2 hw) (rdU_mk u)
  rw [put_ent hr] at h2
  refine ⟨w', h1, ?_, h3⟩
  obtain ⟨es, clock, g1, F, hs, hD⟩ := h2
  refine ⟨es, clock, g1, F, ?_, hD⟩
  have e1 : ((putU u l).map ent).length = es.size := by
    have := congrArg (fun d => match d with | DataW.map x => x.length | _ => 0) hD
    simp only at this
    rw [this, length_sorted]; simp
  rw [List.length_map] at e1
  omega
theorem find_id {l : List K10} {i : Int} {x : K10} (h : findU l i = some x) : x ∈ l ∧ x.c0 = i := by
  unfold findU at h
  exact ⟨List.mem_of_find?_eq_some h, by simpa using List.find?_some h⟩
theorem zero78 (w : World) : (zeroValue 117).run Tryz.prog w = .ok (.agg K10.z.v) w := by
  have hz : Tryz.t117.zero = some (.agg K10.z.v) := by kernel_rfl
  unfold zeroValue
  simp [hz, go_sem]
/- the look-up -/
theorem MapAt.look {w : World} {b : Nat} {l : List K10} (h : MapAt w b l) (i : Int) (hw : (Lit.int .i64 i).wf = true) :
    (Instr.lookup 119 (.map (some b)) (.int .i64 i) true).run Tryz.prog w = .ok (match findU l i with | some x => .tuple #[.agg x.v, .bool true] | none => .tuple #[.agg K10.z.v, .bool false]) w := by
  obtain ⟨es, clock, hb, F, hs, hD⟩ := h
  rcases Maps.fit_look true (Maps.int_keyed Tryz.underlying2) Tryz.underlying119 (zero78 w) hb F (Maps.keyOf_int_mk Tryz.underlying2 hw) with ⟨hrun, _, hat⟩ | ⟨e0, y, _, _, hrun, hRv, hat, _⟩
  · rw [← hD] at hat
    have h1 := hat (.lit (.int .i64 0))
    rw [at_ent] at h1
    rw [hrun]
    cases hf : findU l i with
    | none => rfl
    | some x => rw [hf] at h1; cases h1
  · rw [← hD] at hat
    have h1 := hat (.lit (.int .i64 0))
    have h2 := hat .nil
    rw [at_ent] at h1 h2
    rw [hrun]
    cases hf : findU l i with
    | none => rw [hf] at h1 h2; simp only at h1 h2; rw [← h1] at h2; cases h2
    | some x =>
      rw [hf] at h1
      simp only at h1
      obtain ⟨y1, y2⟩ := y
      simp only at h1
      subst h1
      rw [rdU_inv hRv]; rfl
theorem MapAt.look1 {w : World} {b : Nat} {l : List K10} (h : MapAt w b l) (i : Int) (hw : (Lit.int .i64 i).wf = true) {x : K10} (hf : findU l i = some x) :
    (Instr.lookup 119 (.map (some b)) (.int .i64 i) false).run Tryz.prog w = .ok (.agg x.v) w := by
  obtain ⟨es, clock, hb, F, hs, hD⟩ := h
  rcases Maps.fit_look false (Maps.int_keyed Tryz.underlying2) Tryz.underlying119 (zero78 w) hb F (Maps.keyOf_int_mk Tryz.underlying2 hw) with ⟨hrun, _, hat⟩ | ⟨e0, y, _, _, hrun, hRv, hat, _⟩
  · rw [← hD] at hat
    have h1 := hat (.lit (.int .i64 0))
    rw [at_ent, hf] at h1
    cases h1
  · rw [← hD] at hat
    have h1 := hat (.lit (.int .i64 0))
    rw [at_ent, hf] at h1
    rw [hrun]
    simp only at h1
    obtain ⟨y1, y2⟩ := y
    simp only at h1
    subst h1
    rw [rdU_inv hRv]; rfl
end Go.Proofs.YtaeeahgibifkjaaGreat
end

/- PutSpec -/
/- Contracts of the model of PutUnit's parts. Condition: the board's lists rise and lie in memory as they were laid there. -/
section
namespace Go.Proofs.YtaeeahgibifkjaaGreat
open Go.ChangeShapes Go.WideShapes Go.ChangeAt Go.RowKit
open Bd
set_option linter.unusedVariables false

theorem putU_lt {u x : K10} {l : List K10} (h : ∀ y ∈ l, y.c0 < u.c0) (hx : u.c0 < x.c0) : putU u (l ++ [x]) = l ++ [u] ++ [x] := by
  induction l with
  | nil => show (if u.c0 < x.c0 then _ else _) = _; rw [if_pos hx]; rfl
  | cons y l ih =>
    have h1 := h y (by simp)
    show (if u.c0 < y.c0 then _ else if u.c0 = y.c0 then _ else y :: putU u (l ++ [x])) = _
    rw [if_neg (by omega), if_neg (by omega), ih (fun z hz => h z (by simp [hz]))]; rfl
theorem putU_eq {u x : K10} {l : List K10} (h : ∀ y ∈ l, y.c0 < u.c0) (hx : u.c0 = x.c0) : putU u (l ++ [x]) = l ++ [u] := by
  induction l with
  | nil => show (if u.c0 < x.c0 then _ else if u.c0 = x.c0 then _ else _) = _; rw [if_neg (by omega), if_pos hx]; rfl
  | cons y l ih =>
    have h1 := h y (by simp)
    show (if u.c0 < y.c0 then _ else if u.c0 = y.c0 then _ else y :: putU u (l ++ [x])) = _
    rw [if_neg (by omega), if_neg (by omega), ih (fun z hz => h z (by simp [hz]))]; rfl
theorem putU_snoc {u x : K10} {l : List K10} (h : ∃ y ∈ l, u.c0 ≤ y.c0) : putU u (l ++ [x]) = putU u l ++ [x] := by
  induction l with
  | nil => obtain ⟨y, hy, _⟩ := h; cases hy
  | cons y l ih =>
    show (if u.c0 < y.c0 then u :: y :: (l ++ [x]) else if u.c0 = y.c0 then u :: (l ++ [x]) else y :: putU u (l ++ [x])) = (if u.c0 < y.c0 then u :: y :: l else if u.c0 = y.c0 then u :: l else y :: putU u l) ++ [x]
    by_cases h1 : u.c0 < y.c0
    · rw [if_pos h1, if_pos h1]; rfl
    rw [if_neg h1, if_neg h1]
    by_cases h2 : u.c0 = y.c0
    · rw [if_pos h2, if_pos h2]; rfl
    rw [if_neg h2, if_neg h2, ih]
    · rfl
    · obtain ⟨z, hz, hle⟩ := h
      rcases List.mem_cons.1 hz with rfl | hz
      · omega
      · exact ⟨z, hz, hle⟩
theorem SlU.mono {w : World} {base base' : Nat} {v : Value} {l : List K10} (h : SlU w base v l) (hb : base' ≤ base) : SlU w base' v l := by
  rcases h with ⟨h1, h2⟩
  refine ⟨h1, ?_⟩
  rcases h2 with h2 | ⟨g, cap, cur, hv, hbb, r⟩
  · exact .inl h2
  · exact .inr ⟨g, cap, cur, hv, Nat.le_trans hb hbb, r⟩
theorem SlF.mono {w : World} {base base' : Nat} {v : Value} {l : List K3} (h : SlF w base v l) (hb : base' ≤ base) : SlF w base' v l := by
  rcases h with ⟨h1, h2⟩
  refine ⟨h1, ?_⟩
  rcases h2 with h2 | ⟨g, cap, cur, hv, hbb, r⟩
  · exact .inl h2
  · exact .inr ⟨g, cap, cur, hv, Nat.le_trans hb hbb, r⟩
/- what is out behind k units: d: u is among them -/
def lp (u : K10) (us : List K10) (d : Bool) (k : Nat) : List K10 := if d = true then putU u (us.take k) else us.take k
def lc (u : K10) (us : List K10) (d : Bool) (k : Nat) : Prop := (d = false ∧ ∀ x ∈ us.take k, x.c0 < u.c0) ∨ (d = true ∧ ∃ x ∈ us.take k, u.c0 ≤ x.c0)
theorem putU_len (u : K10) : ∀ l : List K10, (putU u l).length ≤ l.length + 1
  | [] => by simp [putU]
  | x :: l => by
    unfold putU
    split
    · simp
    · split
      · simp
      · have := putU_len u l; simp; exact this
theorem take_next {us : List K10} {k : Nat} {x : K10} (h : us[k]? = some x) : us.take (k + 1) = us.take k ++ [x] := by rw [List.take_add_one, h]; rfl
theorem mem_next {us : List K10} {k : Nat} {x : K10} (h : us[k]? = some x) : x ∈ us.take (k + 1) := by rw [take_next h]; simp
theorem lp_len (u : K10) (us : List K10) (d : Bool) (k : Nat) (h : us.length ≤ 8) : (lp u us d k).length ≤ 9 := by
  unfold lp
  split
  · have := putU_len u (us.take k); rw [List.length_take] at this; omega
  · rw [List.length_take]; omega
end Go.Proofs.YtaeeahgibifkjaaGreat
end

/- OneWalks -/
/- Contracts of UnitOf and of its model, and of the program's map of rows by Id. Condition: the board's two lists lie in memory as they were laid there. -/
section
namespace Go.Proofs.YtaeeahgibifkjaaGreat
open Go.ChangeShapes Go.WideShapes Go.ChangeAt Go.RowKit
open Bd
set_option linter.unusedVariables false

theorem rowOf_c (x : K10) (w : World) :
    Calls Tryz.prog 129 #[.agg x.v] w fun e w' => e = .returned (.agg x.v) ∧ w' = (w.alloc (.cells x.v 54)).alloc (.cells x.v 117) := by
  go_enter Tryz.func129, Tryz.ntmps129
  go_wp2
  refine bodyPost_ret (v := .agg x.v) ?_ rfl ⟨rfl, rfl⟩
  simp [results, Tryz.results129, go_sem]
  done
theorem unitIn_c (x : K10) (w : World) :
    Calls Tryz.prog 90 #[.agg x.v] w fun e w' => e = .returned (.agg x.v) ∧ w' = (w.alloc (.cells x.v 117)).alloc (.cells x.v 54) := by
  go_enter Tryz.func90, Tryz.ntmps90
  go_wp2
  refine bodyPost_ret (v := .agg x.v) ?_ rfl ⟨rfl, rfl⟩
  simp [results, Tryz.results90, go_sem]
  done
theorem cell_of_block {w w' : World} {g : Nat} (e : w'.heap[g]? = w.heap[g]?) (o : Nat) : w'.cell? ⟨g, o, none⟩ = w.cell? ⟨g, o, none⟩ := by
  unfold World.cell?
  rw [e]
theorem U1.of_block {w w' : World} {g off : Nat} {x : K10} (h : U1 w g off x) (e : w'.heap[g]? = w.heap[g]?) (hl : g < w'.heap.size) : U1 w' g off x :=
  ⟨(cell_of_block e _).trans h.c0, (cell_of_block e _).trans h.c1, (cell_of_block e _).trans h.c2, (cell_of_block e _).trans h.c3, (cell_of_block e _).trans h.c4, (cell_of_block e _).trans h.c5, (cell_of_block e _).trans h.c6, (cell_of_block e _).trans h.c7, (cell_of_block e _).trans h.c8, (cell_of_block e _).trans h.c9, hl⟩
set_option maxRecDepth 20000 in
set_option maxHeartbeats 4000000 in
theorem rowsById_c (a : Option Addr) (m c : Nat) (us : List K10) (hl : us.length = m) (hm : m ≤ 8) (hu : ∀ u ∈ us, uf u = 0) (hr : Rise us) (w : World) (hU : ArgU w a us) :
    Calls Tryz.prog 89 #[.slice a m c] w fun e w' => e = .returned (.map (some w.heap.size)) ∧ MapAt w' w.heap.size us ∧ Below w.heap.size w w' := by
  have Hl : Hid (us.length = m) := hl
  have HU : Hid (ArgU w a us) := hU
  have Hu : Hid (∀ u ∈ us, uf u = 0) := hu
  have Hr : Hid (Rise us) := hr
  clear hl hU hu hr
  obtain ⟨B, HB⟩ : ∃ B : Nat, Hid (B = w.heap.size) := ⟨_, rfl⟩
  have hmm := @run_makeMap Tryz.prog
  go_enter Tryz.func89, Tryz.ntmps89
  go_wp2
  rw [← HB.out]
  go_loopw [9] (fun i wr => ∃ k : Nat, k ≤ m ∧ i = .int .i64 k ∧ MapAt wr B (us.take k) ∧ Below w.heap.size w wr) (fun i _ => m - (intOf i).toNat)
  case atStart => exact ⟨0, Nat.zero_le _, rfl, by rw [HB.out]; exact MapAt.new w, (Below.refl _ _).alloc (Nat.le_refl _) _⟩
  case round =>
    obtain ⟨k, hk, rfl, hM, hbel⟩ := hrel
    by_cases hlt : k < m
    · have hlt' : (k : Int) < (m : Int) := by omega
      obtain ⟨x, hx⟩ : ∃ x, us[k]? = some x := ⟨_, List.getElem?_eq_getElem (by have := Hl.out; omega)⟩
      obtain ⟨b, off, rfl, hb, hat⟩ := HU.out.at hx
      obtain ⟨x0, x1, x2, x3, x4, x5, x6, x7, x8, x9, xl⟩ := (hat.later hb hbel).one (Nat.lt_of_lt_of_le hb hbel.size) hx
      obtain ⟨i0, i1⟩ := uf_id (Hu.out x (List.mem_of_getElem? hx))
      obtain ⟨W1, HW1⟩ : ∃ W1, Hid (W1 = wr.alloc (.cells x.v 54)) := ⟨_, rfl⟩
      obtain ⟨W, HW⟩ : ∃ W, Hid (W = ((W1.alloc (.cells x.v 54)).alloc (.cells x.v 117)).drew) := ⟨_, rfl⟩
      have b0 : Below wr.heap.size wr W1 := by rw [HW1.out]; exact (Below.refl _ _).alloc (Nat.le_refl _) _
      have b1 : Below W1.heap.size W1 W := by rw [HW.out]; exact (((Below.refl _ _).alloc (Nat.le_refl _) _).alloc (by rw [size_new]; exact Nat.le_succ _) _).drew
      have S1 : U1 W1 wr.heap.size 0 x := by rw [HW1.out]; exact U1.new wr x 54
      obtain ⟨w2, hrun, hM2, hg2⟩ := ((hM.later b0).later b1).update (Hr.out.take (i := k)) (by rw [List.length_take]; omega) x (wf_int (by omega) (by omega))
      rw [take_put Hr.out hx] at hM2
      have B2 : Below w.heap.size w w2 := by
        have h1 := hbel.trans (b0.mono hbel.size)
        replace h1 := h1.trans (b1.mono h1.size)
        refine h1.trans ?_
        obtain ⟨g1, g2, g3, g4, g5⟩ := hg2
        exact ⟨g1, g2, g3, g4, fun j hj => g5 j (Nat.lt_of_lt_of_le hj h1.size) (by rw [HB.out]; intro e; have := Option.some.inj e; omega)⟩
      have S2 : U1 w2 wr.heap.size 0 x := (S1.later b1).of_block (hg2.block _ (S1.later b1).lt (by intro e; have := Option.some.inj e; have := hM.lt; omega)) (by have := (S1.later b1).lt; have := hg2.size; omega)
      rw [HW.out] at hrun
      have cR := fun w => rowOf_c x w
      obtain ⟨G, HG⟩ : ∃ G, Hid (G = wr.heap.size) := ⟨_, rfl⟩
      rw [← HG.out] at S1 S2
      obtain ⟨r0, r1, r2, r3, r4, r5, r6, r7, r8, r9, rl⟩ := S2
      obtain ⟨s0, s1, s2, s3, s4, s5, s6, s7, s8, s9, sl⟩ := S1
      clear hx hat hM b1 hg2 b0
      go_upto_region 5 with fail
      rw [← HW1.out, ← HG.out]
      clear x0 x1 x2 x3 x4 x5 x6 x7 x8 x9 xl
      go_region_held3 (fun w' => w'.cell? ⟨G, 0, none⟩ = some (.int .i64 x.c0) ∧ w'.cell? ⟨G, 1, none⟩ = some (.int .i64 x.c1) ∧ w'.cell? ⟨G, 2, none⟩ = some (.int .i64 x.c2) ∧ w'.cell? ⟨G, 3, none⟩ = some (.int .i64 x.c3) ∧ w'.cell? ⟨G, 4, none⟩ = some (.int .i64 x.c4) ∧ w'.cell? ⟨G, 5, none⟩ = some (.int .i64 x.c5) ∧ w'.cell? ⟨G, 6, none⟩ = some (.int .i64 x.c6) ∧ w'.cell? ⟨G, 7, none⟩ = some (.int .i64 x.c7) ∧ w'.cell? ⟨G, 8, none⟩ = some (.int .i64 x.c8) ∧ w'.cell? ⟨G, 9, none⟩ = some (.int .i64 x.c9)) (go_keep) (first | (go_at_call 129; refine (cR _).mono ?_; rintro e w1 ⟨rfl, rfl⟩))
      all_goals
        go_wp2_with fail
        go_roundw
        case rel => exact ⟨k + 1, by omega, by go_num, hM2, B2⟩
        case measure => simp [intOf]; omega
    · obtain rfl : k = m := by omega
      have hM' : MapAt wr B us := by rw [List.take_of_length_le (by have := Hl.out; omega)] at hM; exact hM
      go_wp2
      go_ret
      exact ⟨by rw [← HB.out]; rfl, by rw [← HB.out]; exact hM', hbel⟩
/- where a unit with an Id lies -/
def atU (l : List K10) (i : Int) : Option Nat := l.findIdx? (fun x => x.c0 == i)
def atI (l : List K10) (i : Int) : Int := match atU l i with | some k => (k : Int) | none => -1
theorem atU_find (l : List K10) (i : Int) : (atU l i = none ∧ findU l i = none) ∨ ∃ k x, atU l i = some k ∧ l[k]? = some x ∧ findU l i = some x := by
  unfold atU findU
  induction l with
  | nil => exact .inl ⟨rfl, rfl⟩
  | cons a l ih =>
    rw [List.findIdx?_cons]
    cases h : a.c0 == i
    · rw [List.find?_cons_of_neg (by rw [h]; simp)]
      rcases ih with ⟨h1, h2⟩ | ⟨k, x, h1, h2, h3⟩
      · exact .inl ⟨by rw [h1]; rfl, h2⟩
      · exact .inr ⟨k + 1, x, by rw [h1]; rfl, h2, h3⟩
    · rw [List.find?_cons_of_pos (p := fun x : K10 => x.c0 == i) h]
      exact .inr ⟨0, a, by simp, rfl, rfl⟩
theorem atI_step {l : List K10} {i : Int} {k : Nat} (hp : ∀ j y, j < k → l[j]? = some y → (y.c0 == i) = false) {x : K10} (hx : l[k]? = some x) (h : (x.c0 == i) = true) : atI l i = (k : Int) := by
  have e : atU l i = some k := by
    unfold atU
    rw [List.findIdx?_eq_some_iff_getElem]
    obtain ⟨h1, h2⟩ := List.getElem?_eq_some_iff.1 hx
    refine ⟨h1, by rw [h2]; exact h, fun j hj => ?_⟩
    have := hp j _ hj (List.getElem?_eq_getElem (by omega))
    rw [this]; simp
  unfold atI; rw [e]
theorem atI_none {l : List K10} {i : Int} (hp : ∀ j y, j < l.length → l[j]? = some y → (y.c0 == i) = false) : atI l i = -1 := by
  have e : atU l i = none := by
    unfold atU
    rw [List.findIdx?_eq_none_iff]
    intro y hy
    obtain ⟨j, hj, rfl⟩ := List.getElem_of_mem hy
    exact hp j _ hj (List.getElem?_eq_getElem hj)
  unfold atI; rw [e]
set_option maxHeartbeats 4000000 in
theorem l4At_c (a : Option Addr) (m c : Nat) (us : List K10) (i : Int) (hl : us.length = m) (hm : m ≤ 8) (w : World) (hU : ArgU w a us) :
    Calls Tryz.prog 133 #[.slice a m c, .int .i64 i] w fun e w' => e = .returned (.int .i64 (atI us i)) ∧ w' = w := by
  have Hl : Hid (us.length = m) := hl
  have HU : Hid (ArgU w a us) := hU
  obtain ⟨R, HR⟩ : ∃ R : Int, Hid (R = atI us i) := ⟨_, rfl⟩
  rw [← HR.out]
  clear hl hU
  go_enter Tryz.func133, Tryz.ntmps133
  go_wp2
  go_loopw [5] (fun j wr => ∃ k : Nat, k ≤ m ∧ j = .int .i64 k ∧ Hid (∀ j y, j < k → us[j]? = some y → (y.c0 == i) = false) ∧ wr = w) (fun j _ => m - (intOf j).toNat)
  case atStart => exact ⟨0, Nat.zero_le _, rfl, (fun j y hj _ => absurd hj (Nat.not_lt_zero _) : ∀ j y, j < 0 → us[j]? = some y → (y.c0 == i) = false), rfl⟩
  case round =>
    obtain ⟨k, hk, rfl, Hk, rfl⟩ := hrel
    by_cases hlt : k < m
    · have hlt' : (k : Int) < (m : Int) := by omega
      obtain ⟨x, hx⟩ : ∃ x, us[k]? = some x := ⟨_, List.getElem?_eq_getElem (by have := Hl.out; omega)⟩
      obtain ⟨b, off, rfl, hb, hat⟩ := HU.out.at hx
      have x0 := (hat.all hx).1
      have Hx : Hid (us[k]? = some x) := hx
      clear hx hat
      cases hq : x.c0 == i
      · have HN : Hid (∀ j y, j < k + 1 → us[j]? = some y → (y.c0 == i) = false) := fun j y hj hy => by
          by_cases hjk : j < k
          · exact Hk.out j y hjk hy
          · have ejk : j = k := by omega
            subst ejk
            have := Hx.out.symm.trans hy
            rw [← Option.some.inj this]; exact hq
        go_wp2
        go_roundw
        case rel => exact ⟨k + 1, by omega, by go_num, HN, trivial⟩
        case measure => simp [intOf]; omega
      · have HE : Hid (R = (k : Int)) := by show _ = _; rw [HR.out, atI_step Hk.out Hx.out hq]
        go_wp2
        go_ret
        exact ⟨by rw [HE.out]; rfl, rfl⟩
    · obtain rfl : k = m := by omega
      have HE : Hid (R = -1) := by show _ = _; rw [HR.out, atI_none (by rw [Hl.out]; exact Hk.out)]
      go_wp2
      go_ret
      exact ⟨by rw [HE.out]; rfl, rfl⟩
end Go.Proofs.YtaeeahgibifkjaaGreat
end
