/- Texts of mine put together (a claim holds at most 60 files): LeaveUnits. -/
import Derived.Test.YtlfnnobkgbfdgaaGreatPartH33
import Derived.Test.YtlfnnobkgbfdgaaGreatPartH32

/- LeaveUnits -/
/- The contract of leaveUnits. Condition: the world that is worked on lies in memory. -/
section
namespace Go.Proofs.YtlfnnobkgbfdgaaGreat
open Go.ChangeShapes Go.WideShapes Go.ChangeAt Go.RowKit
open Bd
set_option linter.unusedVariables false

/- a row of units of the call's own in its block -/
structure RwU (w : World) (g cap : Nat) (cur : Array Value) (l : List K10) : Prop where
  b : Blk w g cur 68
  m : cap ≤ maxLen
  le : l.length ≤ cap
  sz : cur.size = cap * 10
  tk : cur.toList.take (l.length * 10) = flatU l
theorem SlU.rowU {w : World} {base : Nat} {v : Value} {l : List K10} (h : SlU w base v l) : (v = .slice Option.none 0 0 ∧ l = []) ∨ ∃ g cap cur, v = .slice (some ⟨g, 0, Option.none⟩) l.length cap ∧ base ≤ g ∧ RwU w g cap cur l := by
  rcases h.2 with ⟨h1, h2⟩ | ⟨g, cap, cur, hv, hb, hg, h4, h5, h6, h7⟩
  · exact .inl ⟨h1, List.eq_nil_of_length_eq_zero h2⟩
  · exact .inr ⟨g, cap, cur, hv, hb, hg, h5, h4, h6, h7⟩
theorem RwU.sl {w : World} {g cap base : Nat} {cur : Array Value} {l : List K10} (h : RwU w g cap cur l) (hb : base ≤ g) : SlU w base (.slice (some ⟨g, 0, none⟩) l.length cap) l :=
  ⟨flatU_len l, .inr ⟨g, cap, cur, rfl, hb, h.b, h.le, h.m, h.sz, h.tk⟩⟩
theorem RwU.at {w : World} {g cap : Nat} {cur : Array Value} {l : List K10} (h : RwU w g cap cur l) : UAt w g 0 l := by
  intro i x hi f hf
  have e := flatU_get l i x f hi hf
  have hil : i < l.length := (List.getElem?_eq_some_iff.1 hi).1
  rw [← h.tk, List.getElem?_take, if_pos (by omega)] at e
  have hb := h.b
  unfold Blk at hb
  simp [World.cell?, hb]
  simpa using e
theorem RwU.below {w w' : World} {g cap : Nat} {cur : Array Value} {l : List K10} (h : RwU w g cap cur l) (hb : Below w.heap.size w w') : RwU w' g cap cur l := ⟨h.b.below hb, h.m, h.le, h.sz, h.tk⟩
/- a unit laid at place o of a block -/
abbrev setU (w : World) (g o : Nat) (x : K10) : World := (((((((((w.setCell ⟨g, o, none⟩ (.int .i64 x.c0)).setCell ⟨g, o + 1, none⟩ (.int .i64 x.c1)).setCell ⟨g, o + 2, none⟩ (.int .i64 x.c2)).setCell ⟨g, o + 3, none⟩ (.int .i64 x.c3)).setCell ⟨g, o + 4, none⟩ (.int .i64 x.c4)).setCell ⟨g, o + 5, none⟩ (.int .i64 x.c5)).setCell ⟨g, o + 6, none⟩ (.int .i64 x.c6)).setCell ⟨g, o + 7, none⟩ (.int .i64 x.c7)).setCell ⟨g, o + 8, none⟩ (.int .i64 x.c8)).setCell ⟨g, o + 9, none⟩ (.int .i64 x.c9)
theorem flatU_setf {l : List K10} {k : Nat} {u : K10} {f : Nat} (x : Int) (u' : K10) (h : l[k]? = some u) (hf : f < 10) (hu : ∀ i, i < 10 → u'.f i = if i = f then x else u.f i) : (flatU l).set (k * 10 + f) (.int .i64 x) = flatU (l.set k u') := by
  apply List.ext_getElem?
  intro j
  obtain ⟨q, e, he, rfl⟩ : ∃ q e, e < 10 ∧ j = q * 10 + e := ⟨j / 10, j % 10, Nat.mod_lt _ (by omega), by omega⟩
  have hk := (List.getElem?_eq_some_iff.1 h).1
  rw [List.getElem?_set, flatU_len]
  by_cases hq : q < l.length
  · obtain ⟨y, hy⟩ : ∃ y, l[q]? = some y := ⟨_, List.getElem?_eq_getElem hq⟩
    by_cases ek : k = q
    · subst ek
      have h2 : (l.set k u')[k]? = some u' := by rw [List.getElem?_set, if_pos rfl, if_pos hq]
      rw [flatU_get _ _ _ _ h2 he, flatU_get _ _ _ _ h he, hu e he]
      by_cases ef : e = f
      · rw [if_pos (by omega), if_pos (by omega), if_pos ef]
      · rw [if_neg (by omega), if_neg ef]
    · have h2 : (l.set k u')[q]? = some y := by rw [List.getElem?_set, if_neg ek, hy]
      rw [flatU_get _ _ _ _ h2 he, if_neg (by omega), flatU_get _ _ _ _ hy he]
  · rw [if_neg (by omega), List.getElem?_eq_none (by rw [flatU_len]; omega), List.getElem?_eq_none (by rw [flatU_len, List.length_set]; omega)]
theorem flatU_setAll {l : List K10} {k : Nat} {u : K10} (x : K10) (h : l[k]? = some u) : ((((((((((flatU l).set (k * 10) (.int .i64 x.c0)).set (k * 10 + 1) (.int .i64 x.c1)).set (k * 10 + 2) (.int .i64 x.c2)).set (k * 10 + 3) (.int .i64 x.c3)).set (k * 10 + 4) (.int .i64 x.c4)).set (k * 10 + 5) (.int .i64 x.c5)).set (k * 10 + 6) (.int .i64 x.c6)).set (k * 10 + 7) (.int .i64 x.c7)).set (k * 10 + 8) (.int .i64 x.c8)).set (k * 10 + 9) (.int .i64 x.c9) = flatU (l.set k x) := by
  have hs0 : (l.set k (⟨x.c0, u.c1, u.c2, u.c3, u.c4, u.c5, u.c6, u.c7, u.c8, u.c9⟩ : K10))[k]? = some (⟨x.c0, u.c1, u.c2, u.c3, u.c4, u.c5, u.c6, u.c7, u.c8, u.c9⟩ : K10) := by rw [List.getElem?_set, if_pos rfl, if_pos (List.getElem?_eq_some_iff.1 h).1]
  have e0 := flatU_setf (f := 0) x.c0 (⟨x.c0, u.c1, u.c2, u.c3, u.c4, u.c5, u.c6, u.c7, u.c8, u.c9⟩ : K10) h (by omega) (fun i hi => by
    have h10 : i = 0 ∨ i = 1 ∨ i = 2 ∨ i = 3 ∨ i = 4 ∨ i = 5 ∨ i = 6 ∨ i = 7 ∨ i = 8 ∨ i = 9 := by omega
    rcases h10 with rfl | rfl | rfl | rfl | rfl | rfl | rfl | rfl | rfl | rfl <;> rfl)
  have hs1 : (l.set k (⟨x.c0, x.c1, u.c2, u.c3, u.c4, u.c5, u.c6, u.c7, u.c8, u.c9⟩ : K10))[k]? = some (⟨x.c0, x.c1, u.c2, u.c3, u.c4, u.c5, u.c6, u.c7, u.c8, u.c9⟩ : K10) := by rw [List.getElem?_set, if_pos rfl, if_pos (List.getElem?_eq_some_iff.1 h).1]
  have e1 := flatU_setf (f := 1) x.c1 (⟨x.c0, x.c1, u.c2, u.c3, u.c4, u.c5, u.c6, u.c7, u.c8, u.c9⟩ : K10) hs0 (by omega) (fun i hi => by
    have h10 : i = 0 ∨ i = 1 ∨ i = 2 ∨ i = 3 ∨ i = 4 ∨ i = 5 ∨ i = 6 ∨ i = 7 ∨ i = 8 ∨ i = 9 := by omega
    rcases h10 with rfl | rfl | rfl | rfl | rfl | rfl | rfl | rfl | rfl | rfl <;> rfl)
  rw [List.set_set] at e1
  have hs2 : (l.set k (⟨x.c0, x.c1, x.c2, u.c3, u.c4, u.c5, u.c6, u.c7, u.c8, u.c9⟩ : K10))[k]? = some (⟨x.c0, x.c1, x.c2, u.c3, u.c4, u.c5, u.c6, u.c7, u.c8, u.c9⟩ : K10) := by rw [List.getElem?_set, if_pos rfl, if_pos (List.getElem?_eq_some_iff.1 h).1]
  have e2 := flatU_setf (f := 2) x.c2 (⟨x.c0, x.c1, x.c2, u.c3, u.c4, u.c5, u.c6, u.c7, u.c8, u.c9⟩ : K10) hs1 (by omega) (fun i hi => by
    have h10 : i = 0 ∨ i = 1 ∨ i = 2 ∨ i = 3 ∨ i = 4 ∨ i = 5 ∨ i = 6 ∨ i = 7 ∨ i = 8 ∨ i = 9 := by omega
    rcases h10 with rfl | rfl | rfl | rfl | rfl | rfl | rfl | rfl | rfl | rfl <;> rfl)
  rw [List.set_set] at e2
  have hs3 : (l.set k (⟨x.c0, x.c1, x.c2, x.c3, u.c4, u.c5, u.c6, u.c7, u.c8, u.c9⟩ : K10))[k]? = some (⟨x.c0, x.c1, x.c2, x.c3, u.c4, u.c5, u.c6, u.c7, u.c8, u.c9⟩ : K10) := by rw [List.getElem?_set, if_pos rfl, if_pos (List.getElem?_eq_some_iff.1 h).1]
  have e3 := flatU_setf (f := 3) x.c3 (⟨x.c0, x.c1, x.c2, x.c3, u.c4, u.c5, u.c6, u.c7, u.c8, u.c9⟩ : K10) hs2 (by omega) (fun i hi => by
    have h10 : i = 0 ∨ i = 1 ∨ i = 2 ∨ i = 3 ∨ i = 4 ∨ i = 5 ∨ i = 6 ∨ i = 7 ∨ i = 8 ∨ i = 9 := by omega
    rcases h10 with rfl | rfl | rfl | rfl | rfl | rfl | rfl | rfl | rfl | rfl <;> rfl)
  rw [List.set_set] at e3
  have hs4 : (l.set k (⟨x.c0, x.c1, x.c2, x.c3, x.c4, u.c5, u.c6, u.c7, u.c8, u.c9⟩ : K10))[k]? = some (⟨x.c0, x.c1, x.c2, x.c3, x.c4, u.c5, u.c6, u.c7, u.c8, u.c9⟩ : K10) := by rw [List.getElem?_set, if_pos rfl, if_pos (List.getElem?_eq_some_iff.1 h).1]
  have e4 := flatU_setf (f := 4) x.c4 (⟨x.c0, x.c1, x.c2, x.c3, x.c4, u.c5, u.c6, u.c7, u.c8, u.c9⟩ : K10) hs3 (by omega) (fun i hi => by
    have h10 : i = 0 ∨ i = 1 ∨ i = 2 ∨ i = 3 ∨ i = 4 ∨ i = 5 ∨ i = 6 ∨ i = 7 ∨ i = 8 ∨ i = 9 := by omega
    rcases h10 with rfl | rfl | rfl | rfl | rfl | rfl | rfl | rfl | rfl | rfl <;> rfl)
  rw [List.set_set] at e4
  have hs5 : (l.set k (⟨x.c0, x.c1, x.c2, x.c3, x.c4, x.c5, u.c6, u.c7, u.c8, u.c9⟩ : K10))[k]? = some (⟨x.c0, x.c1, x.c2, x.c3, x.c4, x.c5, u.c6, u.c7, u.c8, u.c9⟩ : K10) := by rw [List.getElem?_set, if_pos rfl, if_pos (List.getElem?_eq_some_iff.1 h).1]
  have e5 := flatU_setf (f := 5) x.c5 (⟨x.c0, x.c1, x.c2, x.c3, x.c4, x.c5, u.c6, u.c7, u.c8, u.c9⟩ : K10) hs4 (by omega) (fun i hi => by
    have h10 : i = 0 ∨ i = 1 ∨ i = 2 ∨ i = 3 ∨ i = 4 ∨ i = 5 ∨ i = 6 ∨ i = 7 ∨ i = 8 ∨ i = 9 := by omega
    rcases h10 with rfl | rfl | rfl | rfl | rfl | rfl | rfl | rfl | rfl | rfl <;> rfl)
  rw [List.set_set] at e5
  have hs6 : (l.set k (⟨x.c0, x.c1, x.c2, x.c3, x.c4, x.c5, x.c6, u.c7, u.c8, u.c9⟩ : K10))[k]? = some (⟨x.c0, x.c1, x.c2, x.c3, x.c4, x.c5, x.c6, u.c7, u.c8, u.c9⟩ : K10) := by rw [List.getElem?_set, if_pos rfl, if_pos (List.getElem?_eq_some_iff.1 h).1]
  have e6 := flatU_setf (f := 6) x.c6 (⟨x.c0, x.c1, x.c2, x.c3, x.c4, x.c5, x.c6, u.c7, u.c8, u.c9⟩ : K10) hs5 (by omega) (fun i hi => by
    have h10 : i = 0 ∨ i = 1 ∨ i = 2 ∨ i = 3 ∨ i = 4 ∨ i = 5 ∨ i = 6 ∨ i = 7 ∨ i = 8 ∨ i = 9 := by omega
    rcases h10 with rfl | rfl | rfl | rfl | rfl | rfl | rfl | rfl | rfl | rfl <;> rfl)
  rw [List.set_set] at e6
  have hs7 : (l.set k (⟨x.c0, x.c1, x.c2, x.c3, x.c4, x.c5, x.c6, x.c7, u.c8, u.c9⟩ : K10))[k]? = some (⟨x.c0, x.c1, x.c2, x.c3, x.c4, x.c5, x.c6, x.c7, u.c8, u.c9⟩ : K10) := by rw [List.getElem?_set, if_pos rfl, if_pos (List.getElem?_eq_some_iff.1 h).1]
  have e7 := flatU_setf (f := 7) x.c7 (⟨x.c0, x.c1, x.c2, x.c3, x.c4, x.c5, x.c6, x.c7, u.c8, u.c9⟩ : K10) hs6 (by omega) (fun i hi => by
    have h10 : i = 0 ∨ i = 1 ∨ i = 2 ∨ i = 3 ∨ i = 4 ∨ i = 5 ∨ i = 6 ∨ i = 7 ∨ i = 8 ∨ i = 9 := by omega
    rcases h10 with rfl | rfl | rfl | rfl | rfl | rfl | rfl | rfl | rfl | rfl <;> rfl)
  rw [List.set_set] at e7
  have hs8 : (l.set k (⟨x.c0, x.c1, x.c2, x.c3, x.c4, x.c5, x.c6, x.c7, x.c8, u.c9⟩ : K10))[k]? = some (⟨x.c0, x.c1, x.c2, x.c3, x.c4, x.c5, x.c6, x.c7, x.c8, u.c9⟩ : K10) := by rw [List.getElem?_set, if_pos rfl, if_pos (List.getElem?_eq_some_iff.1 h).1]
  have e8 := flatU_setf (f := 8) x.c8 (⟨x.c0, x.c1, x.c2, x.c3, x.c4, x.c5, x.c6, x.c7, x.c8, u.c9⟩ : K10) hs7 (by omega) (fun i hi => by
    have h10 : i = 0 ∨ i = 1 ∨ i = 2 ∨ i = 3 ∨ i = 4 ∨ i = 5 ∨ i = 6 ∨ i = 7 ∨ i = 8 ∨ i = 9 := by omega
    rcases h10 with rfl | rfl | rfl | rfl | rfl | rfl | rfl | rfl | rfl | rfl <;> rfl)
  rw [List.set_set] at e8
  have hs9 : (l.set k (⟨x.c0, x.c1, x.c2, x.c3, x.c4, x.c5, x.c6, x.c7, x.c8, x.c9⟩ : K10))[k]? = some (⟨x.c0, x.c1, x.c2, x.c3, x.c4, x.c5, x.c6, x.c7, x.c8, x.c9⟩ : K10) := by rw [List.getElem?_set, if_pos rfl, if_pos (List.getElem?_eq_some_iff.1 h).1]
  have e9 := flatU_setf (f := 9) x.c9 (⟨x.c0, x.c1, x.c2, x.c3, x.c4, x.c5, x.c6, x.c7, x.c8, x.c9⟩ : K10) hs8 (by omega) (fun i hi => by
    have h10 : i = 0 ∨ i = 1 ∨ i = 2 ∨ i = 3 ∨ i = 4 ∨ i = 5 ∨ i = 6 ∨ i = 7 ∨ i = 8 ∨ i = 9 := by omega
    rcases h10 with rfl | rfl | rfl | rfl | rfl | rfl | rfl | rfl | rfl | rfl <;> rfl)
  rw [List.set_set] at e9
  rw [Nat.add_zero] at e0
  rw [e0, e1, e2, e3, e4, e5, e6, e7, e8, e9]
theorem RwU.setAll {w : World} {g cap : Nat} {cur : Array Value} {l : List K10} (h : RwU w g cap cur l) (i : Nat) (x : K10) (hi : i < l.length) : ∃ cur', RwU (setU w g (i * 10) x) g cap cur' (l.set i x) := by
  refine ⟨_, ((((((((((h.b).set (i * 10) (.int .i64 x.c0)).set (i * 10 + 1) (.int .i64 x.c1)).set (i * 10 + 2) (.int .i64 x.c2)).set (i * 10 + 3) (.int .i64 x.c3)).set (i * 10 + 4) (.int .i64 x.c4)).set (i * 10 + 5) (.int .i64 x.c5)).set (i * 10 + 6) (.int .i64 x.c6)).set (i * 10 + 7) (.int .i64 x.c7)).set (i * 10 + 8) (.int .i64 x.c8)).set (i * 10 + 9) (.int .i64 x.c9), h.m, by rw [List.length_set]; exact h.le, by simp [h.sz], ?_⟩
  rw [List.length_set, ← flatU_setAll x (List.getElem?_eq_getElem hi), ← h.tk]
  simp only [Array.toList_setIfInBounds]
  repeat (rw [take_set (by omega)])
/- stores into a block of units keep blocks of other types -/
theorem KT.setU {T : TypeId → Bool} {base g : Nat} {w w' : World} {cs : Array Value} (h : KT T base w w') (hb : Blk w' g cs 68) (hT : T 68 = true) (hg : base ≤ g) (o : Nat) (x : K10) : KT T base w (Go.Proofs.YtlfnnobkgbfdgaaGreat.setU w' g o x) :=
  ((((((((((h).set (hb) hT hg o (.int .i64 x.c0)).set ((hb).set o (.int .i64 x.c0)) hT hg (o + 1) (.int .i64 x.c1)).set (((hb).set o (.int .i64 x.c0)).set (o + 1) (.int .i64 x.c1)) hT hg (o + 2) (.int .i64 x.c2)).set ((((hb).set o (.int .i64 x.c0)).set (o + 1) (.int .i64 x.c1)).set (o + 2) (.int .i64 x.c2)) hT hg (o + 3) (.int .i64 x.c3)).set (((((hb).set o (.int .i64 x.c0)).set (o + 1) (.int .i64 x.c1)).set (o + 2) (.int .i64 x.c2)).set (o + 3) (.int .i64 x.c3)) hT hg (o + 4) (.int .i64 x.c4)).set ((((((hb).set o (.int .i64 x.c0)).set (o + 1) (.int .i64 x.c1)).set (o + 2) (.int .i64 x.c2)).set (o + 3) (.int .i64 x.c3)).set (o + 4) (.int .i64 x.c4)) hT hg (o + 5) (.int .i64 x.c5)).set (((((((hb).set o (.int .i64 x.c0)).set (o + 1) (.int .i64 x.c1)).set (o + 2) (.int .i64 x.c2)).set (o + 3) (.int .i64 x.c3)).set (o + 4) (.int .i64 x.c4)).set (o + 5) (.int .i64 x.c5)) hT hg (o + 6) (.int .i64 x.c6)).set ((((((((hb).set o (.int .i64 x.c0)).set (o + 1) (.int .i64 x.c1)).set (o + 2) (.int .i64 x.c2)).set (o + 3) (.int .i64 x.c3)).set (o + 4) (.int .i64 x.c4)).set (o + 5) (.int .i64 x.c5)).set (o + 6) (.int .i64 x.c6)) hT hg (o + 7) (.int .i64 x.c7)).set (((((((((hb).set o (.int .i64 x.c0)).set (o + 1) (.int .i64 x.c1)).set (o + 2) (.int .i64 x.c2)).set (o + 3) (.int .i64 x.c3)).set (o + 4) (.int .i64 x.c4)).set (o + 5) (.int .i64 x.c5)).set (o + 6) (.int .i64 x.c6)).set (o + 7) (.int .i64 x.c7)) hT hg (o + 8) (.int .i64 x.c8)).set ((((((((((hb).set o (.int .i64 x.c0)).set (o + 1) (.int .i64 x.c1)).set (o + 2) (.int .i64 x.c2)).set (o + 3) (.int .i64 x.c3)).set (o + 4) (.int .i64 x.c4)).set (o + 5) (.int .i64 x.c5)).set (o + 6) (.int .i64 x.c6)).set (o + 7) (.int .i64 x.c7)).set (o + 8) (.int .i64 x.c8)) hT hg (o + 9) (.int .i64 x.c9)
/- a state whose units' block is written anew -/
theorem WS.ofU {w w' : World} {base g gu : Nat} {p : WP} {x : KW} (h : WS w base g p x) (us' : List K10) (hl : us'.length = x.us.length) (hs : SlU w' base (.slice p.u x.us.length p.uc) us') (k : KT (fun t => t == 68) base w w') : WS w' base g p ⟨x.t, x.s, us', x.fs, x.fa, x.se, x.oo⟩ := by
  refine ⟨?_, ⟨by show SlU w' base (.slice p.u us'.length p.uc) us'; rw [hl]; exact hs, k.slF h.o.f (by decide), k.slA h.o.a (by decide), k.slS h.o.s (by decide), k.slO h.o.o (by decide)⟩, h.bg⟩
  have := k.blk h.b (by decide)
  show Blk w' g #[.slice p.u us'.length p.uc, .slice p.f x.fs.length p.fc, .int .i64 x.t, .int .i64 x.s, .slice p.a x.fa.length p.ac, .slice p.s x.se.length p.sc, .slice p.o x.oo.length p.oc] _
  rw [hl]; exact this
/- the places of a side's units -/
def ixU (a : Int) : List K10 → Nat → List Nat
  | [], _ => []
  | u :: l, k => if (u.c1 == a) = true then k :: ixU a l (k + 1) else ixU a l (k + 1)
theorem ixU_cons {a : Int} (u : K10) (l : List K10) (k : Nat) : ixU a (u :: l) k = if (u.c1 == a) = true then k :: ixU a l (k + 1) else ixU a l (k + 1) := rfl
theorem ixU_le {a : Int} : ∀ (l : List K10) (k : Nat), (ixU a l k).length ≤ l.length
  | [], _ => Nat.le_refl _
  | u :: l, k => by
    have := ixU_le (a := a) l (k + 1)
    unfold ixU
    split <;> simp <;> omega
theorem ixU_lt {a : Int} : ∀ {l : List K10} {k j : Nat}, j ∈ ixU a l k → k ≤ j ∧ j < k + l.length
  | [], k, j, h => by simp [ixU] at h
  | u :: l, k, j, h => by
    unfold ixU at h
    split at h
    · rcases List.mem_cons.1 h with rfl | h
      · simp
      · have := ixU_lt h; simp; omega
    · have := ixU_lt h; simp; omega
theorem ixU_app {a : Int} : ∀ (l l' : List K10) (k : Nat), ixU a (l ++ l') k = ixU a l k ++ ixU a l' (k + l.length)
  | [], l', k => by simp [ixU]
  | u :: l, l', k => by
    have ih := ixU_app (a := a) l l' (k + 1)
    rw [show k + 1 + l.length = k + (l.length + 1) from by omega] at ih
    rw [List.cons_append, ixU_cons, ixU_cons, ih, List.length_cons]
    split
    · rfl
    · rfl
theorem ixU_take {a : Int} {l : List K10} {k : Nat} {u : K10} (h : l[k]? = some u) : ixU a (l.take (k + 1)) 0 = ixU a (l.take k) 0 ++ (if (u.c1 == a) = true then [k] else []) := by
  have hk := (List.getElem?_eq_some_iff.1 h).1
  rw [List.take_add_one, h, ixU_app, Nat.zero_add, List.length_take, Nat.min_eq_left (Nat.le_of_lt hk)]
  show _ ++ ixU a [u] k = _
  unfold ixU
  rfl
/- each at its place handed on -/
def apU (hs : List Int) : Nat → List Nat → List K10 → List K10
  | _, [], us => us
  | n, j :: js, us => apU hs (n + 1) js (us.set j (handed (us.getD j K10.z) (hs.getD (n % hs.length) 9)))
theorem apU_pre {a : Int} {hs : List Int} : ∀ (l : List K10) (pre : List K10) (n : Nat), apU hs n (ixU a l pre.length) (pre ++ l) = pre ++ shU a hs n l
  | [], pre, n => by simp [ixU, apU, shU]
  | u :: l, pre, n => by
    unfold ixU shU
    split
    · show apU hs (n + 1) (ixU a l (pre.length + 1)) ((pre ++ u :: l).set pre.length (handed ((pre ++ u :: l).getD pre.length K10.z) (hs.getD (n % hs.length) 9))) = _
      have e1 : (pre ++ u :: l).getD pre.length K10.z = u := by simp
      rw [e1]
      have e2 : (pre ++ u :: l).set pre.length (handed u (hs.getD (n % hs.length) 9)) = (pre ++ [handed u (hs.getD (n % hs.length) 9)]) ++ l := by
        rw [List.set_append_right _ _ (Nat.le_refl _), Nat.sub_self, List.set_cons_zero, List.append_assoc]; rfl
      rw [e2]
      have ih := apU_pre (a := a) (hs := hs) l (pre ++ [handed u (hs.getD (n % hs.length) 9)]) (n + 1)
      rw [List.length_append] at ih
      rw [show pre.length + [handed u (hs.getD (n % hs.length) 9)].length = pre.length + 1 from rfl] at ih
      rw [ih, List.append_assoc]
      rfl
    · have ih := apU_pre (a := a) (hs := hs) l (pre ++ [u]) n
      rw [List.length_append] at ih
      rw [show pre.length + [u].length = pre.length + 1 from rfl, List.append_assoc] at ih
      rw [show ([u] ++ l : List K10) = u :: l from rfl] at ih
      rw [ih, List.append_assoc]
      rfl
theorem apU_all (a : Int) (hs : List Int) (l : List K10) : apU hs 0 (ixU a l 0) l = shU a hs 0 l := apU_pre l [] 0
theorem shU_nine (a : Int) : ∀ (l : List K10) (n : Nat), shU a [9] n l = shU a [] n l
  | [], _ => rfl
  | u :: l, n => by
    unfold shU
    rw [shU_nine a l (n + 1), shU_nine a l n]
    have e1 : ([9] : List Int).getD (n % ([9] : List Int).length) 9 = 9 := by
      have : n % ([9] : List Int).length = 0 := Nat.mod_one n
      rw [this]; rfl
    have e2 : ([] : List Int).getD (n % ([] : List Int).length) 9 = 9 := rfl
    rw [e1, e2]
set_option maxRecDepth 20000 in
set_option maxHeartbeats 8000000 in
theorem giveU_c (k : Int) (gu o : Nat) (y : K10) (W : World) (hl : gu < W.heap.size) (c : ∀ f, f < 10 → W.cell? ⟨gu, o + f, none⟩ = some (.int .i64 (y.f f))) (hz : ∀ i, W.frozen? ⟨gu, i, none⟩ = false) :
    Calls Tryz.prog 89 #[.int .i64 k, .pointer (some ⟨gu, o, none⟩)] W fun e w' => e = .returned (.tuple #[]) ∧ ∃ W1, Below W.heap.size W W1 ∧ w' = setU W1 gu o (handed y k) := by
  have qh := fun w => handedTo_c k y w
  have c0 : W.cell? ⟨gu, o, none⟩ = some (.int .i64 y.c0) := c 0 (by omega)
  have c1 : W.cell? ⟨gu, o + 1, none⟩ = some (.int .i64 y.c1) := c 1 (by omega)
  have c2 : W.cell? ⟨gu, o + 2, none⟩ = some (.int .i64 y.c2) := c 2 (by omega)
  have c3 : W.cell? ⟨gu, o + 3, none⟩ = some (.int .i64 y.c3) := c 3 (by omega)
  have c4 : W.cell? ⟨gu, o + 4, none⟩ = some (.int .i64 y.c4) := c 4 (by omega)
  have c5 : W.cell? ⟨gu, o + 5, none⟩ = some (.int .i64 y.c5) := c 5 (by omega)
  have c6 : W.cell? ⟨gu, o + 6, none⟩ = some (.int .i64 y.c6) := c 6 (by omega)
  have c7 : W.cell? ⟨gu, o + 7, none⟩ = some (.int .i64 y.c7) := c 7 (by omega)
  have c8 : W.cell? ⟨gu, o + 8, none⟩ = some (.int .i64 y.c8) := c 8 (by omega)
  have c9 : W.cell? ⟨gu, o + 9, none⟩ = some (.int .i64 y.c9) := c 9 (by omega)
  have Hc : Hid (∀ f, f < 10 → W.cell? ⟨gu, o + f, none⟩ = some (.int .i64 (y.f f))) := c
  have Hz : Hid (∀ i, W.frozen? ⟨gu, i, none⟩ = false) := hz
  clear c hz
  go_enter Tryz.func89, Tryz.ntmps89
  go_wp2_with fail
  refine (qh _).mono ?_
  rintro e w1 ⟨rfl, b1⟩
  clear c0 c1 c2 c3 c4 c5 c6 c7 c8 c9
  have hl1 : gu < w1.heap.size := Nat.lt_of_lt_of_le hl b1.size
  have c0 : w1.cell? ⟨gu, o, none⟩ = some (.int .i64 y.c0) := by rw [b1.cell hl]; exact Hc.out 0 (by omega)
  have z0 : w1.frozen? ⟨gu, o, none⟩ = false := by rw [b1.frozen hl]; exact Hz.out _
  have c1 : w1.cell? ⟨gu, o + 1, none⟩ = some (.int .i64 y.c1) := by rw [b1.cell hl]; exact Hc.out 1 (by omega)
  have z1 : w1.frozen? ⟨gu, o + 1, none⟩ = false := by rw [b1.frozen hl]; exact Hz.out _
  have c2 : w1.cell? ⟨gu, o + 2, none⟩ = some (.int .i64 y.c2) := by rw [b1.cell hl]; exact Hc.out 2 (by omega)
  have z2 : w1.frozen? ⟨gu, o + 2, none⟩ = false := by rw [b1.frozen hl]; exact Hz.out _
  have c3 : w1.cell? ⟨gu, o + 3, none⟩ = some (.int .i64 y.c3) := by rw [b1.cell hl]; exact Hc.out 3 (by omega)
  have z3 : w1.frozen? ⟨gu, o + 3, none⟩ = false := by rw [b1.frozen hl]; exact Hz.out _
  have c4 : w1.cell? ⟨gu, o + 4, none⟩ = some (.int .i64 y.c4) := by rw [b1.cell hl]; exact Hc.out 4 (by omega)
  have z4 : w1.frozen? ⟨gu, o + 4, none⟩ = false := by rw [b1.frozen hl]; exact Hz.out _
  have c5 : w1.cell? ⟨gu, o + 5, none⟩ = some (.int .i64 y.c5) := by rw [b1.cell hl]; exact Hc.out 5 (by omega)
  have z5 : w1.frozen? ⟨gu, o + 5, none⟩ = false := by rw [b1.frozen hl]; exact Hz.out _
  have c6 : w1.cell? ⟨gu, o + 6, none⟩ = some (.int .i64 y.c6) := by rw [b1.cell hl]; exact Hc.out 6 (by omega)
  have z6 : w1.frozen? ⟨gu, o + 6, none⟩ = false := by rw [b1.frozen hl]; exact Hz.out _
  have c7 : w1.cell? ⟨gu, o + 7, none⟩ = some (.int .i64 y.c7) := by rw [b1.cell hl]; exact Hc.out 7 (by omega)
  have z7 : w1.frozen? ⟨gu, o + 7, none⟩ = false := by rw [b1.frozen hl]; exact Hz.out _
  have c8 : w1.cell? ⟨gu, o + 8, none⟩ = some (.int .i64 y.c8) := by rw [b1.cell hl]; exact Hc.out 8 (by omega)
  have z8 : w1.frozen? ⟨gu, o + 8, none⟩ = false := by rw [b1.frozen hl]; exact Hz.out _
  have c9 : w1.cell? ⟨gu, o + 9, none⟩ = some (.int .i64 y.c9) := by rw [b1.cell hl]; exact Hc.out 9 (by omega)
  have z9 : w1.frozen? ⟨gu, o + 9, none⟩ = false := by rw [b1.frozen hl]; exact Hz.out _
  have hh : (handed y k).v = #[.int .i64 y.c0, .int .i64 k, .int .i64 y.c2, .int .i64 y.c3, .int .i64 y.c4, .int .i64 y.c5, .int .i64 0, .int .i64 0, .int .i64 0, .int .i64 0] := rfl
  go_wp2_with fail
  go_end0
  exact ⟨rfl, w1, b1, rfl⟩
/- the list of pointers to units -/
def ptU (gu : Nat) (js : List Nat) : List Value := js.map (fun j => .pointer (some ⟨gu, j * 10, none⟩))
abbrev TU : TypeId → Bool := fun t => t == 68
set_option maxRecDepth 20000 in
set_option maxHeartbeats 4000000 in
theorem shareU_zero (q r : Option Addr) (m c c' : Nat) (f : Value) (w : World) :
    Calls Tryz.prog 88 #[.slice q m c, .slice r 0 c', f] w fun e w' => e = .returned (.tuple #[]) ∧ w' = w := by
  go_enter Tryz.func88, Tryz.ntmps88
  go_wp2_with fail
  go_loopw [10] (fun j wr => j = .int .i64 0 ∧ wr = w) (fun j _ => 0)
  case atStart => exact ⟨rfl, rfl⟩
  case round =>
    obtain ⟨rfl, rfl⟩ := hrel
    go_wp2_with fail
    go_end0
    exact ⟨rfl, rfl⟩
set_option maxRecDepth 20000 in
set_option maxHeartbeats 8000000 in
theorem shareU_c (gu base qh qp ch cp uc : Nat) (csH csP cur : Array Value) (us : List K10) (hs : List Int) (m : Nat) (js : List Nat) (mj : Nat) (w : World) (hb : base ≤ w.heap.size) (hR : RwU w gu uc cur us) (hg : base ≤ gu) (hm : hs.length = m) (m1 : 1 ≤ m) (hmj : js.length = mj) (mj8 : mj ≤ 8)
    (hH : Blk w qh csH 2) (hHc : ∀ (i : Nat) (k : Int), hs[i]? = some k → csH[i]? = some (Value.int .i64 k)) (hP : Blk w qp csP 122) (hPc : ∀ (i j : Nat), js[i]? = some j → csP[i]? = some (Value.pointer (some ⟨gu, j * 10, none⟩))) (hj : ∀ j ∈ js, j < us.length) (m4 : m ≤ 4) :
    Calls Tryz.prog 88 #[.slice (some ⟨qh, 0, none⟩) m ch, .slice (some ⟨qp, 0, none⟩) mj cp, .func (.func 89) #[] #[]] w
      fun e w' => e = .returned (.tuple #[]) ∧ (∃ cur', RwU w' gu uc cur' (apU hs 0 js us)) ∧ KT TU base w w' := by
  obtain ⟨RU, HRU⟩ : ∃ R, Hid (R = apU hs 0 (js.drop 0) us) := ⟨_, rfl⟩
  rw [show apU hs 0 js us = RU from HRU.out.symm]
  have HR : Hid (RwU w gu uc cur us) := hR
  have HM : Hid (hs.length = m) := hm
  have HJ : Hid (js.length = mj) := hmj
  have HHB : Hid (Blk w qh csH 2) := hH
  have HHC : Hid (∀ (i : Nat) (k : Int), hs[i]? = some k → csH[i]? = some (Value.int .i64 k)) := hHc
  have HPB : Hid (Blk w qp csP 122) := hP
  have HPC : Hid (∀ (i j : Nat), js[i]? = some j → csP[i]? = some (Value.pointer (some ⟨gu, j * 10, none⟩))) := hPc
  have HJU : Hid (∀ j ∈ js, j < us.length) := hj
  have HL0 : Hid (us.length = us.length) := rfl
  have hm0 : ((m : Int) == 0) = false := by simp; omega
  clear hR hm hmj hH hHc hP hPc hj
  go_enter Tryz.func88, Tryz.ntmps88
  go_wp2_with fail
  go_loopw [10] (fun x wr => ∃ (i : Nat) (ui : List K10) (cur : Array Value), x = .int .i64 i ∧ i ≤ mj ∧ Hid (RU = apU hs i (js.drop i) ui) ∧ Hid (ui.length = us.length) ∧ Hid (RwU wr gu uc cur ui) ∧ KT TU base w wr) (fun x _ => mj - (intOf x).toNat)
  case atStart => exact ⟨0, us, cur, rfl, Nat.zero_le _, HRU, (show us.length = us.length from rfl), HR, KT.refl _ _ _⟩
  case round =>
    obtain ⟨i, ui, cur, rfl, hi, HA, Hl, HR, KK⟩ := hrel
    by_cases hlt : i < mj
    · have hlt' : (i : Int) < (mj : Int) := by omega
      obtain ⟨j, hx⟩ : ∃ j, js[i]? = some j := ⟨_, List.getElem?_eq_getElem (by have := HJ.out; omega)⟩
      have hju := HJU.out j (List.mem_of_getElem? hx)
      have hmm : i % m < m := Nat.mod_lt _ (by omega)
      obtain ⟨k, hk⟩ : ∃ k, hs[i % m]? = some k := ⟨_, List.getElem?_eq_getElem (by have := HM.out; omega)⟩
      have hH2 := KK.blk HHB.out (by decide)
      have hP2 := KK.blk HPB.out (by decide)
      have c1 : wr.cell? ⟨qh, i % m, none⟩ = some (.int .i64 k) := hH2.cell (HHC.out _ _ hk)
      have c2 : wr.cell? ⟨qp, i, none⟩ = some (.pointer (some ⟨gu, j * 10, none⟩)) := hP2.cell (HPC.out _ _ hx)
      have l1 := hH2.lt
      have l2 := hP2.lt
      have hrem : ((i : Int).tmod (m : Int)) = ((i % m : Nat) : Int) := by rw [Int.tmod_eq_emod_of_nonneg (by omega)]; rfl
      have hrem2 : ((i : Int) % (m : Int)) = ((i % m : Nat) : Int) := rfl
      have hremlt : ((i % m : Nat) : Int) < (m : Int) := by omega
      have hju2 : j < ui.length := by rw [Hl.out]; exact hju
      obtain ⟨y, hy⟩ : ∃ y, ui[j]? = some y := ⟨_, List.getElem?_eq_getElem hju2⟩
      have hat := HR.out.at
      have cG := giveU_c k gu (j * 10) y wr HR.out.b.lt (fun f hf => by have := hat j y hy f hf; rw [Nat.zero_add] at this; exact this) (fun i => HR.out.b.frozen i)
      have HA2 : Hid (RU = apU hs (i + 1) (js.drop (i + 1)) (ui.set j (handed y k))) := by
        show _ = _
        rw [HA.out, drop_cons hx]
        show apU hs (i + 1) (js.drop (i + 1)) (ui.set j (handed (ui.getD j K10.z) (hs.getD (i % hs.length) 9))) = _
        rw [List.getD_eq_getElem?_getD, hy, List.getD_eq_getElem?_getD, HM.out, hk]; rfl
      have Hl2 : Hid ((ui.set j (handed y k)).length = us.length) := by show _ = _; rw [List.length_set]; exact Hl.out
      generalize i % m = im at c1 hrem hrem2 hremlt hmm
      clear hx hk hat hH2 hP2 hy
      go_wp2_with fail
      refine cG.mono ?_
      rintro e w5 ⟨rfl, w4, b4, hw5⟩
      have R4 := HR.out.below b4
      obtain ⟨cur5, R5⟩ := R4.setAll j (handed y k) hju2
      have K4 := KK.step (Nat.le_trans hb KK.size) b4
      have K5 := K4.setU R4.b (by decide) hg (j * 10) (handed y k)
      rw [← hw5] at R5 K5
      have HR5 : Hid (RwU w5 gu uc cur5 (ui.set j (handed y k))) := R5
      clear hw5 R4 R5 cG
      go_wp2_with fail
      go_roundw
      case rel => exact ⟨i + 1, _, cur5, by go_num, by omega, HA2, Hl2, HR5, K5⟩
      case measure => simp [intOf]; omega
    · obtain rfl : i = mj := by omega
      have hlt' : ¬ (i : Int) < (i : Int) := by omega
      have hd : js.drop i = [] := List.drop_of_length_le (by have := HJ.out; omega)
      have e1 : Hid (RU = ui) := by show _ = _; rw [HA.out, hd]; rfl
      clear hd
      go_wp2_with fail
      go_end0
      exact ⟨rfl, ⟨cur, by rw [e1.out]; exact HR.out⟩, KK⟩
end Go.Proofs.YtlfnnobkgbfdgaaGreat
end
