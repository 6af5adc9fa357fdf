/- Texts of mine put together (a claim holds at most 60 files): SumWalks, MapU, Nums. -/
import Derived.Test.YtepjkcfheejlbaaGreatDoorPartT06
import Derived.Test.YtepjkcfheejlbaaGreatDoorPartT03
import Derived.Maps.Own
import Derived.Maps.Views

/- SumWalks -/
/- Contracts of LeftIn and CarriedBy and of their models. Condition: the board's two lists lie in memory as they were laid there. -/
section
namespace Go.Proofs.YtepjkcfheejlbaaGreatDoor
open Go.ChangeShapes Go.WideShapes Go.ChangeAt Go.RowKit
open Bd
set_option linter.unusedVariables false

/- what the fields hold together; what an owner's units carry together -/
def sumF : List K3 → Int
  | [] => 0
  | f :: l => f.c2 + sumF l
def carry (o : Int) : List K10 → Int
  | [] => 0
  | u :: l => if (u.c1 == o) = true then u.c5 + carry o l else carry o l
theorem sumF_step {l : List K3} {k : Nat} {f : K3} (h : l[k]? = some f) : sumF (l.drop k) = f.c2 + sumF (l.drop (k + 1)) := by
  have h' := List.getElem?_eq_some_iff.1 h
  rw [List.drop_eq_getElem_cons h'.1, h'.2]; rfl
theorem carry_step {l : List K10} {o : Int} {k : Nat} {u : K10} (h : l[k]? = some u) : carry o (l.drop k) = if (u.c1 == o) = true then u.c5 + carry o (l.drop (k + 1)) else carry o (l.drop (k + 1)) := by
  have h' := List.getElem?_eq_some_iff.1 h
  rw [List.drop_eq_getElem_cons h'.1, h'.2]; rfl
/- the codes and the values -/
def lfV (us : List K10) (fs : List K3) : Int := if (bf us fs == 0) = true then sumF fs else 0
def owC (us : List K10) (fs : List K3) (o : Int) : Int := if (bf us fs == 0) = true then (if own o = true then 0 else 3) else bf us fs
def cbV (us : List K10) (fs : List K3) (o : Int) : Int := if (bf us fs == 0 && own o) = true then carry o us else 0
theorem bne_no {x y : Int} (h : (x == y) = true) : (x != y) = false := by simp only [bne, h]; rfl
theorem two_two (w : World) (s f z z' : Value) (t t2 : TypeId) : let W := (w.alloc (.cells #[s, f] t)).alloc (.cells #[z, z'] t2)
    W.rowIs w.heap.size t 2 (fun i => if i = 0 then s else f) ∧ W.rowIs (w.heap.size + 1) t2 2 (fun i => if i = 0 then z else z') ∧ Below w.heap.size w W ∧ W.heap.size = w.heap.size + 1 + 1 := by
  intro W
  have s1 : (w.alloc (.cells #[s, f] t)).heap.size = w.heap.size + 1 := size_new _ _
  have s2 : W.heap.size = w.heap.size + 1 + 1 := by show (World.alloc _ _).heap.size = _; rw [size_new, s1]
  have b1 : Below (w.alloc (.cells #[s, f] t)).heap.size (w.alloc (.cells #[s, f] t)) W := (Below.refl _ _).alloc (Nat.le_refl _) _
  have r0 := rowTwo w s f t
  have r1 := rowTwo (w.alloc (.cells #[s, f] t)) z z' t2
  rw [s1] at r1
  exact ⟨r0.of_block (b1.block _ r0.lt), r1, ((Below.refl _ _).alloc (Nat.le_refl _) _).alloc (by rw [s1]; omega) _, s2⟩
theorem row_brd {w : World} {p : Nat} {s f : Value} {t : TypeId} (h : w.rowIs p t 2 (fun i => if i = 0 then s else f)) : BrdAt w p s f :=
  ⟨h.cell (i := 0) (by omega), h.cell (i := 1) (by omega), h.lt⟩
theorem row_later {w w' : World} {g n : Nat} {t : TypeId} {f : Nat → Value} (h : w.rowIs g t n f) (hb : Below w.heap.size w w') : w'.rowIs g t n f := h.of_block (hb.block g h.lt)

end Go.Proofs.YtepjkcfheejlbaaGreatDoor
end

/- MapU -/
/- Maps from numbers to rows of ten numbers: what they hold, as a rising list of units. No condition. -/
section
namespace Go.Proofs.YtepjkcfheejlbaaGreatDoor
open Go.ChangeShapes Go.WideShapes Go.ChangeAt Go.RowKit
open Bd
set_option linter.unusedVariables false

theorem K10.v_inj {x y : K10} (h : (Value.agg x.v) = .agg y.v) : x = y := by
  cases x; cases y
  simp at h
  simp [h]
open Classical in
/- how such a row reads -/
def rdU (v : Value) : Option (DataW K10 × List MemPlace) :=
  match v with
  | .agg a =>
    match a.toList with
    | [.int .i64 c0, .int .i64 c1, .int .i64 c2, .int .i64 c3, .int .i64 c4, .int .i64 c5, .int .i64 c6, .int .i64 c7, .int .i64 c8, .int .i64 c9] => some (.held ⟨c0, c1, c2, c3, c4, c5, c6, c7, c8, c9⟩, [])
    | _ => none
  | _ => none
theorem rdU_mk (x : K10) : rdU (.agg x.v) = some (.held x, []) := rfl
theorem rdU_inv {v : Value} {x : K10} {p : List MemPlace} (h : rdU v = some (.held x, p)) : v = .agg x.v := by
  unfold rdU at h
  split at h
  · rename_i a
    split at h
    · rename_i c0 c1 c2 c3 c4 c5 c6 c7 c8 c9 e
      simp only [Option.some.injEq, Prod.mk.injEq, DataW.held.injEq] at h
      obtain ⟨rfl, _⟩ := h
      obtain ⟨l⟩ := a
      simp only at e
      rw [e]
    · cases h
  · cases h
def ent (u : K10) : Lit × DataW K10 := (.int .i64 u.c0, .held u)
/- a unit put among others that rise -/
def putU (u : K10) : List K10 → List K10
  | [] => [u]
  | x :: l => if u.c0 < x.c0 then u :: x :: l else if u.c0 = x.c0 then u :: l else x :: putU u l
abbrev Rise (l : List K10) : Prop := l.Pairwise (fun a b => a.c0 < b.c0)
theorem putU_mem {u y : K10} : ∀ {l : List K10}, y ∈ putU u l → y = u ∨ y ∈ l
  | [], h => by simp [putU] at h; exact .inl h
  | x :: l, h => by
    unfold putU at h
    split at h
    · rcases List.mem_cons.1 h with h | h
      · exact .inl h
      · exact .inr h
    · split at h
      · rcases List.mem_cons.1 h with h | h
        · exact .inl h
        · exact .inr (List.mem_cons_of_mem _ h)
      · rcases List.mem_cons.1 h with h | h
        · exact .inr (by rw [h]; exact List.mem_cons_self)
        · rcases putU_mem h with h | h
          · exact .inl h
          · exact .inr (List.mem_cons_of_mem _ h)
theorem putU_rise {u : K10} : ∀ {l : List K10}, Rise l → Rise (putU u l)
  | [], _ => by simp [putU, Rise]
  | x :: l, h => by
    obtain ⟨h1, h2⟩ := List.pairwise_cons.1 h
    unfold putU
    split
    · rename_i hlt
      refine List.pairwise_cons.2 ⟨fun y hy => ?_, h⟩
      rcases List.mem_cons.1 hy with rfl | hy
      · exact hlt
      · have := h1 y hy; omega
    · split
      · rename_i he
        exact List.pairwise_cons.2 ⟨fun y hy => by have := h1 y hy; omega, h2⟩
      · rename_i h3 h4
        refine List.pairwise_cons.2 ⟨fun y hy => ?_, putU_rise h2⟩
        rcases putU_mem hy with rfl | hy
        · omega
        · exact h1 y hy
theorem before_int (a b : Int) : (Lit.int .i64 a).before (.int .i64 b) = decide (a < b) := rfl
theorem same_int (a b : Int) : (Lit.int .i64 a).sameKey (.int .i64 b) = decide (a = b) := by simp [Lit.sameKey]
theorem put_all {u : K10} : ∀ {l : List K10}, Rise l → DataW.insert (ent u) ((l.map ent).filter fun p => !p.1.sameKey (.int .i64 u.c0)) = (putU u l).map ent
  | [], _ => rfl
  | x :: l, h => by
    obtain ⟨h1, h2⟩ := List.pairwise_cons.1 h
    have hr : ∀ y ∈ l, x.c0 < y.c0 := h1
    unfold putU
    by_cases hlt : u.c0 < x.c0
    · rw [if_pos hlt]
      have hk : ((x :: l).map ent).filter (fun p => !p.1.sameKey (.int .i64 u.c0)) = (x :: l).map ent := by
        apply List.filter_eq_self.2
        intro p hp
        obtain ⟨y, hy, rfl⟩ := List.mem_map.1 hp
        have : u.c0 < y.c0 := by
          rcases List.mem_cons.1 hy with rfl | hy
          · exact hlt
          · have := hr y hy; omega
        show (!(Lit.int .i64 y.c0).sameKey (.int .i64 u.c0)) = true
        rw [same_int, decide_eq_false (by omega)]; rfl
      rw [hk]
      show DataW.insert (ent u) (ent x :: l.map ent) = _
      unfold DataW.insert
      show (if ((Lit.int .i64 u.c0).before (.int .i64 x.c0)) = true then _ else _) = _
      rw [before_int, if_pos (decide_eq_true hlt)]; rfl
    · rw [if_neg hlt]
      by_cases he : u.c0 = x.c0
      · rw [if_pos he]
        have hk : ((x :: l).map ent).filter (fun p => !p.1.sameKey (.int .i64 u.c0)) = l.map ent := by
          show List.filter _ (ent x :: l.map ent) = _
          rw [List.filter_cons_of_neg (by show ¬ (!(Lit.int .i64 x.c0).sameKey (.int .i64 u.c0)) = true; rw [same_int, decide_eq_true he.symm]; simp)]
          apply List.filter_eq_self.2
          intro p hp
          obtain ⟨y, hy, rfl⟩ := List.mem_map.1 hp
          have := hr y hy
          show (!(Lit.int .i64 y.c0).sameKey (.int .i64 u.c0)) = true
          rw [same_int, decide_eq_false (by omega)]; rfl
        rw [hk]
        cases l with
        | nil => rfl
        | cons y l =>
          show DataW.insert (ent u) (ent y :: l.map ent) = _
          unfold DataW.insert
          show (if ((Lit.int .i64 u.c0).before (.int .i64 y.c0)) = true then _ else _) = _
          rw [before_int, if_pos (decide_eq_true (by have := hr y (by simp); omega))]; rfl
      · rw [if_neg he]
        have hk : ((x :: l).map ent).filter (fun p => !p.1.sameKey (.int .i64 u.c0)) = ent x :: (l.map ent).filter (fun p => !p.1.sameKey (.int .i64 u.c0)) := by
          show List.filter _ (ent x :: l.map ent) = _
          rw [List.filter_cons_of_pos (by show (!(Lit.int .i64 x.c0).sameKey (.int .i64 u.c0)) = true; rw [same_int, decide_eq_false (by omega)]; rfl)]
        rw [hk]
        show (if ((Lit.int .i64 u.c0).before (.int .i64 x.c0)) = true then _ else _) = _
        rw [before_int, if_neg (by rw [decide_eq_false hlt]; simp), put_all h2]; rfl
theorem put_ent {u : K10} {l : List K10} (h : Rise l) : (DataW.map (l.map ent)).put (.int .i64 u.c0) (.held u) = .map ((putU u l).map ent) := congrArg DataW.map (put_all h)
theorem putU_end {u : K10} : ∀ {l : List K10}, (∀ x ∈ l, x.c0 < u.c0) → putU u l = l ++ [u]
  | [], _ => rfl
  | x :: l, h => by
    have h1 := h x (by simp)
    unfold putU
    rw [if_neg (by omega), if_neg (by omega), putU_end (fun y hy => h y (by simp [hy]))]; rfl
theorem take_put {l : List K10} (h : Rise l) {k : Nat} {u : K10} (hk : l[k]? = some u) : putU u (l.take k) = l.take (k + 1) := by
  have h' := List.getElem?_eq_some_iff.1 hk
  rw [putU_end, List.take_add_one, hk]
  · rfl
  · intro x hx
    obtain ⟨i, hi, rfl⟩ := List.getElem_of_mem hx
    have hi' : i < k := by rw [List.length_take] at hi; omega
    have hi2 : i < l.length := by rw [List.length_take] at hi; omega
    rw [List.getElem_take, ← h'.2]
    exact List.pairwise_iff_getElem.1 h i k hi2 h'.1 hi'
/- the unit with an Id -/
def findU (l : List K10) (i : Int) : Option K10 := l.find? (fun x => x.c0 == i)
theorem at_ent (l : List K10) (i : Int) (z : DataW K10) : (DataW.map (l.map ent)).atKey (.int .i64 i) z = match findU l i with | some x => .held x | none => z := by
  unfold DataW.atKey findU
  dsimp only
  rw [List.find?_map]
  have e : (fun p : Lit × DataW K10 => p.1.sameKey (.int .i64 i)) ∘ ent = fun x : K10 => x.c0 == i := by
    funext x
    show (Lit.int .i64 x.c0).sameKey (.int .i64 i) = (x.c0 == i)
    rw [same_int]
    by_cases h : x.c0 = i <;> simp [h]
  rw [e]
  cases l.find? (fun x => x.c0 == i) <;> rfl
/- the map in memory -/
def MapAt (w : World) (b : Nat) (l : List K10) : Prop := w.ownsMap Tryz.prog 2 rdU b l.length (.map (l.map ent))
theorem MapAt.lt {w : World} {b : Nat} {l : List K10} (h : MapAt w b l) : b < w.heap.size := World.ownsMap.lt h
theorem MapAt.later {w w' : World} {b : Nat} {l : List K10} (h : MapAt w b l) (hb : Below w.heap.size w w') : MapAt w' b l := by
  have hlt := h.lt
  obtain ⟨es, clock, h1, F, hs, hD⟩ := h
  exact ⟨es, clock, (hb.block b hlt).trans h1, F, hs, hD⟩
theorem MapAt.of_block {w w' : World} {b : Nat} {l : List K10} (h : MapAt w b l) (e : w'.heap[b]? = w.heap[b]?) : MapAt w' b l := by
  obtain ⟨es, clock, h1, F, hs, hD⟩ := h
  exact ⟨es, clock, e.trans h1, F, hs, hD⟩
theorem MapAt.new (w : World) : MapAt (w.alloc (.map #[] 0)) w.heap.size [] := World.ownsMap_made w Tryz.prog 2 rdU
theorem wf_int {i : Int} (h0 : -9223372036854775808 ≤ i) (h1 : i ≤ 9223372036854775807) : (Lit.int .i64 i).wf = true := by
  have a : IntKind.i64.min = -9223372036854775808 := by decide
  have b : IntKind.i64.max = 9223372036854775807 := by decide
  simp [Lit.wf, a, b]
  omega
theorem MapAt.update {w : World} {b : Nat} {l : List K10} (h : MapAt w b l) (hr : Rise l) (hn : l.length ≤ 100) (u : K10) (hw : (Lit.int .i64 u.c0).wf = true) :
    ∃ w', (Instr.mapUpdate 75 (.map (some b)) (.int .i64 u.c0) (.agg u.v)).run Tryz.prog w = .ok () w' ∧ MapAt w' b (putU u l) ∧ w.grownBy w' (some b) := by
  obtain ⟨w', h1, h2, h3⟩ := World.ownsMap.update h (Maps.int_keyed Tryz.underlying2) Tryz.underlying75 (by unfold maxLen; omega) (Maps.keyOf_int_mk Tryz.underlying2 hw) (rdU_mk u)
  rw [put_ent hr] at h2
  refine ⟨w', h1, ?_, h3⟩
  obtain ⟨es, clock, g1, F, hs, hD⟩ := h2
  refine ⟨es, clock, g1, F, ?_, hD⟩
  have e1 : ((putU u l).map ent).length = es.size := by
    have := congrArg (fun d => match d with | DataW.map x => x.length | _ => 0) hD
    simp only at this
    rw [this, length_sorted]; simp
  rw [List.length_map] at e1
  omega
theorem find_id {l : List K10} {i : Int} {x : K10} (h : findU l i = some x) : x ∈ l ∧ x.c0 = i := by
  unfold findU at h
  exact ⟨List.mem_of_find?_eq_some h, by simpa using List.find?_some h⟩
theorem zero78 (w : World) : (zeroValue 73).run Tryz.prog w = .ok (.agg K10.z.v) w := by
  have hz : Tryz.t73.zero = some (.agg K10.z.v) := by kernel_rfl
  unfold zeroValue
  simp [hz, go_sem]
/- the look-up -/
theorem MapAt.look {w : World} {b : Nat} {l : List K10} (h : MapAt w b l) (i : Int) (hw : (Lit.int .i64 i).wf = true) :
    (Instr.lookup 75 (.map (some b)) (.int .i64 i) true).run Tryz.prog w = .ok (match findU l i with | some x => .tuple #[.agg x.v, .bool true] | none => .tuple #[.agg K10.z.v, .bool false]) w := by
  obtain ⟨es, clock, hb, F, hs, hD⟩ := h
  rcases Maps.fit_look true (Maps.int_keyed Tryz.underlying2) Tryz.underlying75 (zero78 w) hb F (Maps.keyOf_int_mk Tryz.underlying2 hw) with ⟨hrun, _, hat⟩ | ⟨e0, y, _, _, hrun, hRv, hat, _⟩
  · rw [← hD] at hat
    have h1 := hat (.lit (.int .i64 0))
    rw [at_ent] at h1
    rw [hrun]
    cases hf : findU l i with
    | none => rfl
    | some x => rw [hf] at h1; cases h1
  · rw [← hD] at hat
    have h1 := hat (.lit (.int .i64 0))
    have h2 := hat .nil
    rw [at_ent] at h1 h2
    rw [hrun]
    cases hf : findU l i with
    | none => rw [hf] at h1 h2; simp only at h1 h2; rw [← h1] at h2; cases h2
    | some x =>
      rw [hf] at h1
      simp only at h1
      obtain ⟨y1, y2⟩ := y
      simp only at h1
      subst h1
      rw [rdU_inv hRv]; rfl
theorem MapAt.look1 {w : World} {b : Nat} {l : List K10} (h : MapAt w b l) (i : Int) (hw : (Lit.int .i64 i).wf = true) {x : K10} (hf : findU l i = some x) :
    (Instr.lookup 75 (.map (some b)) (.int .i64 i) false).run Tryz.prog w = .ok (.agg x.v) w := by
  obtain ⟨es, clock, hb, F, hs, hD⟩ := h
  rcases Maps.fit_look false (Maps.int_keyed Tryz.underlying2) Tryz.underlying75 (zero78 w) hb F (Maps.keyOf_int_mk Tryz.underlying2 hw) with ⟨hrun, _, hat⟩ | ⟨e0, y, _, _, hrun, hRv, hat, _⟩
  · rw [← hD] at hat
    have h1 := hat (.lit (.int .i64 0))
    rw [at_ent, hf] at h1
    cases h1
  · rw [← hD] at hat
    have h1 := hat (.lit (.int .i64 0))
    rw [at_ent, hf] at h1
    rw [hrun]
    simp only at h1
    obtain ⟨y1, y2⟩ := y
    simp only at h1
    subst h1
    rw [rdU_inv hRv]; rfl
end Go.Proofs.YtepjkcfheejlbaaGreatDoor
end

/- Nums -/
section
/- Plain arithmetic of chapter 1 (numbers): what each function answers, as plain functions on integers. No condition. -/
namespace Go.Proofs.YtepjkcfheejlbaaGreatDoor.Nums

def apC (a b : Int) : Int := if a < 0 ∨ 1000000 < a ∨ b < -1000000 ∨ 1000000 < b then 3 else if a + b < 0 then 10 else if 1000000 < a + b then 7 else 0
def apV (a b : Int) : Int := if apC a b = 0 then a + b else 0

theorem ap_cases (a b : Int) :
    (a < 0 ∧ apC a b = 3 ∧ apV a b = 0) ∨
    (0 ≤ a ∧ 1000000 < a ∧ apC a b = 3 ∧ apV a b = 0) ∨
    (0 ≤ a ∧ a ≤ 1000000 ∧ b < -1000000 ∧ apC a b = 3 ∧ apV a b = 0) ∨
    (0 ≤ a ∧ a ≤ 1000000 ∧ -1000000 ≤ b ∧ 1000000 < b ∧ apC a b = 3 ∧ apV a b = 0) ∨
    (0 ≤ a ∧ a ≤ 1000000 ∧ -1000000 ≤ b ∧ b ≤ 1000000 ∧ a + b < 0 ∧ apC a b = 10 ∧ apV a b = 0) ∨
    (0 ≤ a ∧ a ≤ 1000000 ∧ -1000000 ≤ b ∧ b ≤ 1000000 ∧ 0 ≤ a + b ∧ 1000000 < a + b ∧ apC a b = 7 ∧ apV a b = 0) ∨
    (0 ≤ a ∧ a ≤ 1000000 ∧ -1000000 ≤ b ∧ b ≤ 1000000 ∧ 0 ≤ a + b ∧ a + b ≤ 1000000 ∧ apC a b = 0 ∧ apV a b = a + b) := by
  have e3 : a < 0 ∨ 1000000 < a ∨ b < -1000000 ∨ 1000000 < b → apC a b = 3 ∧ apV a b = 0 := fun h => by
    have : apC a b = 3 := by unfold apC; rw [if_pos h]
    exact ⟨this, by unfold apV; rw [this]; rfl⟩
  by_cases h1 : a < 0
  · exact .inl ⟨h1, e3 (.inl h1)⟩
  by_cases h2 : 1000000 < a
  · exact .inr (.inl ⟨by omega, h2, e3 (.inr (.inl h2))⟩)
  by_cases h3 : b < -1000000
  · exact .inr (.inr (.inl ⟨by omega, by omega, h3, e3 (.inr (.inr (.inl h3)))⟩))
  by_cases h4 : 1000000 < b
  · exact .inr (.inr (.inr (.inl ⟨by omega, by omega, by omega, h4, e3 (.inr (.inr (.inr h4)))⟩)))
  have n : ¬ (a < 0 ∨ 1000000 < a ∨ b < -1000000 ∨ 1000000 < b) := by omega
  by_cases h5 : a + b < 0
  · have e : apC a b = 10 := by unfold apC; rw [if_neg n, if_pos h5]
    exact .inr (.inr (.inr (.inr (.inl ⟨by omega, by omega, by omega, by omega, h5, e, by unfold apV; rw [e]; rfl⟩))))
  by_cases h6 : 1000000 < a + b
  · have e : apC a b = 7 := by unfold apC; rw [if_neg n, if_neg h5, if_pos h6]
    exact .inr (.inr (.inr (.inr (.inr (.inl ⟨by omega, by omega, by omega, by omega, by omega, h6, e, by unfold apV; rw [e]; rfl⟩)))))
  have e : apC a b = 0 := by unfold apC; rw [if_neg n, if_neg h5, if_neg h6]
  exact .inr (.inr (.inr (.inr (.inr (.inr ⟨by omega, by omega, by omega, by omega, by omega, by omega, e, by unfold apV; rw [if_pos e]⟩)))))

theorem ap_back {x y : Int} (h0 : 0 ≤ x) (h1 : x ≤ 1000000) (h2 : -1000000 ≤ y) (h3 : y ≤ 1000000) (h4 : 0 ≤ x + y) (h5 : x + y ≤ 1000000) : apC (x + y) (-y) = 0 ∧ apV (x + y) (-y) = x := by
  have e : x + y + -y = x := by omega
  have n : ¬ (x + y < 0 ∨ 1000000 < x + y ∨ -y < -1000000 ∨ 1000000 < -y) := by omega
  have c : apC (x + y) (-y) = 0 := by unfold apC; rw [if_neg n, e, if_neg (by omega), if_neg (by omega)]
  exact ⟨c, by unfold apV; rw [if_pos c, e]⟩

def nsC (s : Int) : Int := if s < 1 ∨ 2147483646 < s then 3 else 0
def nsV (s : Int) : Int := if s < 1 ∨ 2147483646 < s then 0 else 48271 * s % 2147483647

theorem ns_cases (s : Int) :
    (s < 1 ∧ nsC s = 3 ∧ nsV s = 0) ∨ (1 ≤ s ∧ 2147483646 < s ∧ nsC s = 3 ∧ nsV s = 0) ∨ (1 ≤ s ∧ s ≤ 2147483646 ∧ nsC s = 0 ∧ nsV s = 48271 * s % 2147483647) := by
  unfold nsC nsV
  omega

theorem ns_pos (s : Int) (h1 : 1 ≤ s) (h2 : s ≤ 2147483646) : 1 ≤ 48271 * s % 2147483647 ∧ 48271 * s % 2147483647 ≤ 2147483646 := by omega

def roC (s n : Int) : Int := if s < 1 ∨ 2147483646 < s ∨ n < 1 ∨ 1000 < n then 3 else 0
def roV (s n : Int) : Int := if s < 1 ∨ 2147483646 < s ∨ n < 1 ∨ 1000 < n then 0 else (48271 * s % 2147483647) % n

theorem ro_cases (s n : Int) :
    (s < 1 ∧ roC s n = 3 ∧ roV s n = 0) ∨ (1 ≤ s ∧ 2147483646 < s ∧ roC s n = 3 ∧ roV s n = 0) ∨
    (1 ≤ s ∧ s ≤ 2147483646 ∧ n < 1 ∧ roC s n = 3 ∧ roV s n = 0) ∨ (1 ≤ s ∧ s ≤ 2147483646 ∧ 1 ≤ n ∧ 1000 < n ∧ roC s n = 3 ∧ roV s n = 0) ∨
    (1 ≤ s ∧ s ≤ 2147483646 ∧ 1 ≤ n ∧ n ≤ 1000 ∧ roC s n = 0 ∧ roV s n = (48271 * s % 2147483647) % n) := by
  unfold roC roV
  generalize (48271 * s % 2147483647) % n = z
  omega

/- a tile: both numbers 0 to 11 -/
def tileB (x y : Int) : Bool := decide (0 ≤ x) && decide (x ≤ 11) && decide (0 ≤ y) && decide (y ≤ 11)
theorem tile_cases (x y : Int) :
    (x < 0 ∧ tileB x y = false) ∨ (0 ≤ x ∧ 11 < x ∧ tileB x y = false) ∨ (0 ≤ x ∧ x ≤ 11 ∧ y < 0 ∧ tileB x y = false) ∨
    (0 ≤ x ∧ x ≤ 11 ∧ 0 ≤ y ∧ 11 < y ∧ tileB x y = false) ∨ (0 ≤ x ∧ x ≤ 11 ∧ 0 ≤ y ∧ y ≤ 11 ∧ tileB x y = true) := by
  unfold tileB
  by_cases h1 : 0 ≤ x <;> by_cases h2 : x ≤ 11 <;> by_cases h3 : 0 ≤ y <;> by_cases h4 : y ≤ 11 <;> simp [h1, h2, h3, h4] <;> omega
theorem tile_iff (x y : Int) : tileB x y = true ↔ 0 ≤ x ∧ x ≤ 11 ∧ 0 ≤ y ∧ y ≤ 11 := by
  unfold tileB; simp [and_assoc]

def gap (a b : Int) : Int := if a < b then b - a else a - b
def near (a b : Int) : Int := if a < b then a + 1 else if b < a then a - 1 else a
def mx (a b : Int) : Int := if b < a then a else b
def faC (x1 y1 x2 y2 : Int) : Int := if (tileB x1 y1 && tileB x2 y2) = true then 0 else 3
def faV (x1 y1 x2 y2 : Int) : Int := if (tileB x1 y1 && tileB x2 y2) = true then mx (gap x1 x2) (gap y1 y2) else 0
def stX (x1 y1 x2 y2 : Int) : Int := if (tileB x1 y1 && tileB x2 y2) = true then near x1 x2 else 0
def stY (x1 y1 x2 y2 : Int) : Int := if (tileB x1 y1 && tileB x2 y2) = true then near y1 y2 else 0

theorem near_tile {a b c d : Int} (h1 : tileB a b = true) (h2 : tileB c d = true) : tileB (near a c) (near b d) = true := by
  rw [tile_iff] at *
  unfold near
  omega
theorem far_sym (a b c d : Int) : faC c d a b = faC a b c d ∧ faV c d a b = faV a b c d := by
  have e1 : (tileB c d && tileB a b) = (tileB a b && tileB c d) := Bool.and_comm _ _
  have e2 : ∀ p q : Int, gap p q = gap q p := fun p q => by unfold gap; omega
  unfold faC faV
  rw [e1, e2 c a, e2 d b]
  exact ⟨rfl, rfl⟩
/- a step: it is one nearer, until one is there -/
theorem way_cases (a b c d : Int) :
    (faC a b c d = 3 ∧ faV a b c d = 0 ∧ stX a b c d = 0 ∧ stY a b c d = 0) ∨
    (faC a b c d = 0 ∧ faV a b c d = 0 ∧ stX a b c d = a ∧ stY a b c d = b ∧ faC a b c d = 0 ∧ faV a b c d = 0) ∨
    (∃ f x y : Int, 0 < f ∧ f ≤ 11 ∧ faC a b c d = 0 ∧ faV a b c d = f ∧ stX a b c d = x ∧ stY a b c d = y ∧ faC x y c d = 0 ∧ faV x y c d = f - 1) := by
  cases h1 : tileB a b
  · refine .inl ?_
    unfold faC faV stX stY
    simp [h1]
  cases h2 : tileB c d
  · refine .inl ?_
    unfold faC faV stX stY
    simp [h1, h2]
  have h3 := near_tile h1 h2
  have t1 := (tile_iff _ _).1 h1
  have t2 := (tile_iff _ _).1 h2
  have eC : faC a b c d = 0 := by unfold faC; simp [h1, h2]
  have eV : faV a b c d = mx (gap a c) (gap b d) := by unfold faV; simp [h1, h2]
  have eX : stX a b c d = near a c := by unfold stX; simp [h1, h2]
  have eY : stY a b c d = near b d := by unfold stY; simp [h1, h2]
  have fC : faC (near a c) (near b d) c d = 0 := by unfold faC; simp [h2, h3]
  have fV : faV (near a c) (near b d) c d = mx (gap (near a c) c) (gap (near b d) d) := by unfold faV; simp [h2, h3]
  by_cases hz : a = c ∧ b = d
  · obtain ⟨rfl, rfl⟩ := hz
    refine .inr (.inl ?_)
    have g : mx (gap a a) (gap b b) = 0 := by unfold mx gap; omega
    have n1 : near a a = a := by unfold near; omega
    have n2 : near b b = b := by unfold near; omega
    exact ⟨eC, by rw [eV, g], by rw [eX, n1], by rw [eY, n2], eC, by rw [eV, g]⟩
  · refine .inr (.inr ⟨_, _, _, ?_, ?_, eC, eV, eX, eY, fC, ?_⟩)
    · unfold mx gap; omega
    · unfold mx gap; omega
    · rw [fV]; unfold mx gap near; omega
end Go.Proofs.YtepjkcfheejlbaaGreatDoor.Nums
end
