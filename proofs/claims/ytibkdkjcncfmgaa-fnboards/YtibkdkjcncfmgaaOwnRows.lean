/- Slices of units and of fields in memory of a call's own. No condition. -/
import Derived.Test.YtibkdkjcncfmgaaExactBoard
import Derived.Test.YtibkdkjcncfmgaaBoardWalks
namespace Go.Proofs.Ytibkdkjcncfmgaa
open Go.ChangeShapes Go.WideShapes Go.ChangeAt Go.RowKit
set_option linter.unusedVariables false

def flatU : List K10 → List Value
  | [] => []
  | x :: l => x.v.toList ++ flatU l
theorem flatU_len : ∀ l : List K10, (flatU l).length = l.length * 10
  | [] => rfl
  | x :: l => by unfold flatU; rw [List.length_append, flatU_len l]; show 10 + _ = (l.length + 1) * 10; omega
theorem flatU_app : ∀ l l' : List K10, flatU (l ++ l') = flatU l ++ flatU l'
  | [], _ => rfl
  | x :: l, l' => by show x.v.toList ++ flatU (l ++ l') = (x.v.toList ++ flatU l) ++ flatU l'; rw [flatU_app l l', List.append_assoc]
theorem flatU_get : ∀ (l : List K10) (i : Nat) (x : K10) (f : Nat), l[i]? = some x → f < 10 → (flatU l)[i * 10 + f]? = some (.int .i64 (x.f f))
  | [], i, x, f, h, _ => by simp at h
  | y :: l, 0, x, f, h, hf => by
    have e : y = x := by simpa using h
    subst e
    unfold flatU
    rw [Nat.zero_mul, Nat.zero_add, List.getElem?_append_left (by show f < 10; exact hf)]
    have h6 : f = 0 ∨ f = 1 ∨ f = 2 ∨ f = 3 ∨ f = 4 ∨ f = 5 ∨ f = 6 ∨ f = 7 ∨ f = 8 ∨ f = 9 := by omega
    rcases h6 with rfl | rfl | rfl | rfl | rfl | rfl | rfl | rfl | rfl | rfl <;> rfl
  | y :: l, i + 1, x, f, h, hf => by
    unfold flatU
    have e : (y.v.toList).length = 10 := rfl
    rw [List.getElem?_append_right (by rw [e]; omega), e, show (i + 1) * 10 + f - 10 = i * 10 + f from by omega]
    exact flatU_get l i x f (by simpa using h) hf
theorem flatU_one : ∀ (l : List K10), ∀ u ∈ flatU l, u.oneCell' = true
  | [], u, h => by cases h
  | x :: l, u, h => by
    unfold flatU at h
    rcases List.mem_append.1 h with h | h
    · simp at h
      rcases h with rfl | rfl | rfl | rfl | rfl | rfl | rfl | rfl | rfl | rfl <;> rfl
    · exact flatU_one l u h
/- a slice of such structs, made behind base -/
def SlU (w : World) (base : Nat) (v : Value) (l : List K10) : Prop := w.ownsRow base 29 10 v l.length (flatU l)
theorem SlU.of {w : World} {base : Nat} {v : Value} {l : List K10} (h : w.ownsRow base 29 10 v l.length (flatU l)) : SlU w base v l := h
theorem SlU.below {w w' : World} {base : Nat} {v : Value} {l : List K10} (h : SlU w base v l) (hb : Below w.heap.size w w') : SlU w' base v l := by
  rcases h with ⟨h1, h2⟩
  refine ⟨h1, ?_⟩
  rcases h2 with h2 | ⟨g, cap, cur, hv, hbb, hg, r⟩
  · exact .inl h2
  · exact .inr ⟨g, cap, cur, hv, hbb, (hb.block g (Array.getElem?_eq_some_iff.1 hg).1).trans hg, r⟩
theorem SlU.of_block {w w' : World} {base : Nat} {v : Value} {l : List K10} (h : SlU w base v l) (he : ∀ b, v.ownBlock = some b → w'.heap[b]? = w.heap[b]?) : SlU w' base v l := by
  rcases h with ⟨h1, h2⟩
  refine ⟨h1, ?_⟩
  rcases h2 with h2 | ⟨g, cap, cur, hv, hbb, hg, r⟩
  · exact .inl h2
  · exact .inr ⟨g, cap, cur, hv, hbb, (he g (by rw [hv]; rfl)).trans hg, r⟩
theorem SlU.lt {w : World} {base : Nat} {v : Value} {l : List K10} (s : SlU w base v l) : ∀ b, v.ownBlock = some b → base ≤ b ∧ b < w.heap.size := by
  intro b hb
  rcases s.2 with ⟨h1, h2⟩ | ⟨g, cap, cur, hv, hbb, hg, r⟩
  · rw [h1] at hb; cases hb
  · rw [hv] at hb
    have : g = b := Option.some.inj hb
    subst this
    exact ⟨hbb, (Array.getElem?_eq_some_iff.1 hg).1⟩
theorem SlU.form {w : World} {base : Nat} {v : Value} {l : List K10} (h : SlU w base v l) : ∃ a cap, v = .slice a l.length cap ∧ ArgU w a l := by
  rcases h.2 with ⟨h1, h2⟩ | ⟨g, cap, cur, hv, hbb, hg, h4, h5, h6, h7⟩
  · exact ⟨none, 0, by rw [h1, h2], .inl (List.eq_nil_of_length_eq_zero h2)⟩
  · refine ⟨_, cap, hv, .inr ⟨g, 0, rfl, (Array.getElem?_eq_some_iff.1 hg).1, fun i x hi f hf => ?_⟩⟩
    have e := flatU_get l i x f hi hf
    have hil : i < l.length := (List.getElem?_eq_some_iff.1 hi).1
    rw [← h7, List.getElem?_take, if_pos (by omega)] at e
    simp [World.cell?, hg]
    simpa using e
/- the whole block of such a slice as a row -/
theorem SlU.row {w : World} {base : Nat} {v : Value} {l : List K10} (h : SlU w base v l) (hne : l ≠ []) : ∃ g cap N f, v = .slice (some ⟨g, 0, none⟩) l.length cap ∧ base ≤ g ∧ l.length * 10 ≤ N ∧ w.rowIs g 29 N f ∧ cap ≤ maxLen ∧ l.length ≤ cap ∧ N = cap * 10 := by
  rcases h.2 with ⟨h1, h2⟩ | ⟨g, cap, cur, hv, hbb, hg, h4, h5, h6, h7⟩
  · exact absurd (List.eq_nil_of_length_eq_zero h2) hne
  · exact ⟨g, cap, cap * 10, fun i => cur[i]!, hv, hbb, Nat.mul_le_mul_right _ h4, ⟨cur, hg, h6, fun i hi => by show cur[i]? = some cur[i]!; rw [getElem!_pos cur i (by omega)]; exact Array.getElem?_eq_getElem (by omega)⟩, h5, h4, rfl⟩
def flatF : List K3 → List Value
  | [] => []
  | x :: l => x.v.toList ++ flatF l
theorem flatF_len : ∀ l : List K3, (flatF l).length = l.length * 3
  | [] => rfl
  | x :: l => by unfold flatF; rw [List.length_append, flatF_len l]; show 3 + _ = (l.length + 1) * 3; omega
theorem flatF_app : ∀ l l' : List K3, flatF (l ++ l') = flatF l ++ flatF l'
  | [], _ => rfl
  | x :: l, l' => by show x.v.toList ++ flatF (l ++ l') = (x.v.toList ++ flatF l) ++ flatF l'; rw [flatF_app l l', List.append_assoc]
theorem flatF_get : ∀ (l : List K3) (i : Nat) (x : K3) (f : Nat), l[i]? = some x → f < 3 → (flatF l)[i * 3 + f]? = some (.int .i64 (x.f f))
  | [], i, x, f, h, _ => by simp at h
  | y :: l, 0, x, f, h, hf => by
    have e : y = x := by simpa using h
    subst e
    unfold flatF
    rw [Nat.zero_mul, Nat.zero_add, List.getElem?_append_left (by show f < 3; exact hf)]
    have h6 : f = 0 ∨ f = 1 ∨ f = 2 := by omega
    rcases h6 with rfl | rfl | rfl <;> rfl
  | y :: l, i + 1, x, f, h, hf => by
    unfold flatF
    have e : (y.v.toList).length = 3 := rfl
    rw [List.getElem?_append_right (by rw [e]; omega), e, show (i + 1) * 3 + f - 3 = i * 3 + f from by omega]
    exact flatF_get l i x f (by simpa using h) hf
theorem flatF_one : ∀ (l : List K3), ∀ u ∈ flatF l, u.oneCell' = true
  | [], u, h => by cases h
  | x :: l, u, h => by
    unfold flatF at h
    rcases List.mem_append.1 h with h | h
    · simp at h
      rcases h with rfl | rfl | rfl <;> rfl
    · exact flatF_one l u h
/- a slice of such structs, made behind base -/
def SlF (w : World) (base : Nat) (v : Value) (l : List K3) : Prop := w.ownsRow base 105 3 v l.length (flatF l)
theorem SlF.of {w : World} {base : Nat} {v : Value} {l : List K3} (h : w.ownsRow base 105 3 v l.length (flatF l)) : SlF w base v l := h
theorem SlF.below {w w' : World} {base : Nat} {v : Value} {l : List K3} (h : SlF w base v l) (hb : Below w.heap.size w w') : SlF w' base v l := by
  rcases h with ⟨h1, h2⟩
  refine ⟨h1, ?_⟩
  rcases h2 with h2 | ⟨g, cap, cur, hv, hbb, hg, r⟩
  · exact .inl h2
  · exact .inr ⟨g, cap, cur, hv, hbb, (hb.block g (Array.getElem?_eq_some_iff.1 hg).1).trans hg, r⟩
theorem SlF.of_block {w w' : World} {base : Nat} {v : Value} {l : List K3} (h : SlF w base v l) (he : ∀ b, v.ownBlock = some b → w'.heap[b]? = w.heap[b]?) : SlF w' base v l := by
  rcases h with ⟨h1, h2⟩
  refine ⟨h1, ?_⟩
  rcases h2 with h2 | ⟨g, cap, cur, hv, hbb, hg, r⟩
  · exact .inl h2
  · exact .inr ⟨g, cap, cur, hv, hbb, (he g (by rw [hv]; rfl)).trans hg, r⟩
theorem SlF.lt {w : World} {base : Nat} {v : Value} {l : List K3} (s : SlF w base v l) : ∀ b, v.ownBlock = some b → base ≤ b ∧ b < w.heap.size := by
  intro b hb
  rcases s.2 with ⟨h1, h2⟩ | ⟨g, cap, cur, hv, hbb, hg, r⟩
  · rw [h1] at hb; cases hb
  · rw [hv] at hb
    have : g = b := Option.some.inj hb
    subst this
    exact ⟨hbb, (Array.getElem?_eq_some_iff.1 hg).1⟩
theorem SlF.form {w : World} {base : Nat} {v : Value} {l : List K3} (h : SlF w base v l) : ∃ a cap, v = .slice a l.length cap ∧ ArgF w a l := by
  rcases h.2 with ⟨h1, h2⟩ | ⟨g, cap, cur, hv, hbb, hg, h4, h5, h6, h7⟩
  · exact ⟨none, 0, by rw [h1, h2], .inl (List.eq_nil_of_length_eq_zero h2)⟩
  · refine ⟨_, cap, hv, .inr ⟨g, 0, rfl, (Array.getElem?_eq_some_iff.1 hg).1, fun i x hi f hf => ?_⟩⟩
    have e := flatF_get l i x f hi hf
    have hil : i < l.length := (List.getElem?_eq_some_iff.1 hi).1
    rw [← h7, List.getElem?_take, if_pos (by omega)] at e
    simp [World.cell?, hg]
    simpa using e
/- the whole block of such a slice as a row -/
theorem SlF.row {w : World} {base : Nat} {v : Value} {l : List K3} (h : SlF w base v l) (hne : l ≠ []) : ∃ g cap N f, v = .slice (some ⟨g, 0, none⟩) l.length cap ∧ base ≤ g ∧ l.length * 3 ≤ N ∧ w.rowIs g 105 N f ∧ cap ≤ maxLen ∧ l.length ≤ cap ∧ N = cap * 3 := by
  rcases h.2 with ⟨h1, h2⟩ | ⟨g, cap, cur, hv, hbb, hg, h4, h5, h6, h7⟩
  · exact absurd (List.eq_nil_of_length_eq_zero h2) hne
  · exact ⟨g, cap, cap * 3, fun i => cur[i]!, hv, hbb, Nat.mul_le_mul_right _ h4, ⟨cur, hg, h6, fun i hi => by show cur[i]? = some cur[i]!; rw [getElem!_pos cur i (by omega)]; exact Array.getElem?_eq_getElem (by omega)⟩, h5, h4, rfl⟩
end Go.Proofs.Ytibkdkjcncfmgaa
