/- Texts of mine put together (a claim holds at most 60 files): OwnRows, OwnPush, InRows. -/
import Derived.Test.YthopodopedbooaaGreatPartL01
import Derived.Test.YthopodopedbooaaGreatPartL06
import Derived.OwnWalk
import Derived.Laws.AppendOwnNone

/- OwnRows -/
/- Slices of units and of fields in memory of a call's own. No condition. -/
section
namespace Go.Proofs.YthopodopedbooaaGreat
open Go.ChangeShapes Go.WideShapes Go.ChangeAt Go.RowKit
set_option linter.unusedVariables false

def flatU : List K10 → List Value
  | [] => []
  | x :: l => x.v.toList ++ flatU l
theorem flatU_len : ∀ l : List K10, (flatU l).length = l.length * 10
  | [] => rfl
  | x :: l => by unfold flatU; rw [List.length_append, flatU_len l]; show 10 + _ = (l.length + 1) * 10; omega
theorem flatU_app : ∀ l l' : List K10, flatU (l ++ l') = flatU l ++ flatU l'
  | [], _ => rfl
  | x :: l, l' => by show x.v.toList ++ flatU (l ++ l') = (x.v.toList ++ flatU l) ++ flatU l'; rw [flatU_app l l', List.append_assoc]
theorem flatU_get : ∀ (l : List K10) (i : Nat) (x : K10) (f : Nat), l[i]? = some x → f < 10 → (flatU l)[i * 10 + f]? = some (.int .i64 (x.f f))
  | [], i, x, f, h, _ => by simp at h
  | y :: l, 0, x, f, h, hf => by
    have e : y = x := by simpa using h
    subst e
    unfold flatU
    rw [Nat.zero_mul, Nat.zero_add, List.getElem?_append_left (by show f < 10; exact hf)]
    have h6 : f = 0 ∨ f = 1 ∨ f = 2 ∨ f = 3 ∨ f = 4 ∨ f = 5 ∨ f = 6 ∨ f = 7 ∨ f = 8 ∨ f = 9 := by omega
    rcases h6 with rfl | rfl | rfl | rfl | rfl | rfl | rfl | rfl | rfl | rfl <;> rfl
  | y :: l, i + 1, x, f, h, hf => by
    unfold flatU
    have e : (y.v.toList).length = 10 := rfl
    rw [List.getElem?_append_right (by rw [e]; omega), e, show (i + 1) * 10 + f - 10 = i * 10 + f from by omega]
    exact flatU_get l i x f (by simpa using h) hf
theorem flatU_one : ∀ (l : List K10), ∀ u ∈ flatU l, u.oneCell' = true
  | [], u, h => by cases h
  | x :: l, u, h => by
    unfold flatU at h
    rcases List.mem_append.1 h with h | h
    · simp at h
      rcases h with rfl | rfl | rfl | rfl | rfl | rfl | rfl | rfl | rfl | rfl <;> rfl
    · exact flatU_one l u h
/- a slice of such structs, made behind base -/
def SlU (w : World) (base : Nat) (v : Value) (l : List K10) : Prop := w.ownsRow base 105 10 v l.length (flatU l)
theorem SlU.of {w : World} {base : Nat} {v : Value} {l : List K10} (h : w.ownsRow base 105 10 v l.length (flatU l)) : SlU w base v l := h
theorem SlU.below {w w' : World} {base : Nat} {v : Value} {l : List K10} (h : SlU w base v l) (hb : Below w.heap.size w w') : SlU w' base v l := by
  rcases h with ⟨h1, h2⟩
  refine ⟨h1, ?_⟩
  rcases h2 with h2 | ⟨g, cap, cur, hv, hbb, hg, r⟩
  · exact .inl h2
  · exact .inr ⟨g, cap, cur, hv, hbb, (hb.block g (Array.getElem?_eq_some_iff.1 hg).1).trans hg, r⟩
theorem SlU.of_block {w w' : World} {base : Nat} {v : Value} {l : List K10} (h : SlU w base v l) (he : ∀ b, v.ownBlock = some b → w'.heap[b]? = w.heap[b]?) : SlU w' base v l := by
  rcases h with ⟨h1, h2⟩
  refine ⟨h1, ?_⟩
  rcases h2 with h2 | ⟨g, cap, cur, hv, hbb, hg, r⟩
  · exact .inl h2
  · exact .inr ⟨g, cap, cur, hv, hbb, (he g (by rw [hv]; rfl)).trans hg, r⟩
theorem SlU.lt {w : World} {base : Nat} {v : Value} {l : List K10} (s : SlU w base v l) : ∀ b, v.ownBlock = some b → base ≤ b ∧ b < w.heap.size := by
  intro b hb
  rcases s.2 with ⟨h1, h2⟩ | ⟨g, cap, cur, hv, hbb, hg, r⟩
  · rw [h1] at hb; cases hb
  · rw [hv] at hb
    have : g = b := Option.some.inj hb
    subst this
    exact ⟨hbb, (Array.getElem?_eq_some_iff.1 hg).1⟩
theorem SlU.form {w : World} {base : Nat} {v : Value} {l : List K10} (h : SlU w base v l) : ∃ a cap, v = .slice a l.length cap ∧ ArgU w a l := by
  rcases h.2 with ⟨h1, h2⟩ | ⟨g, cap, cur, hv, hbb, hg, h4, h5, h6, h7⟩
  · exact ⟨none, 0, by rw [h1, h2], .inl (List.eq_nil_of_length_eq_zero h2)⟩
  · refine ⟨_, cap, hv, .inr ⟨g, 0, rfl, (Array.getElem?_eq_some_iff.1 hg).1, fun i x hi f hf => ?_⟩⟩
    have e := flatU_get l i x f hi hf
    have hil : i < l.length := (List.getElem?_eq_some_iff.1 hi).1
    rw [← h7, List.getElem?_take, if_pos (by omega)] at e
    simp [World.cell?, hg]
    simpa using e
/- the whole block of such a slice as a row -/
theorem SlU.row {w : World} {base : Nat} {v : Value} {l : List K10} (h : SlU w base v l) (hne : l ≠ []) : ∃ g cap N f, v = .slice (some ⟨g, 0, none⟩) l.length cap ∧ base ≤ g ∧ l.length * 10 ≤ N ∧ w.rowIs g 105 N f ∧ cap ≤ maxLen ∧ l.length ≤ cap ∧ N = cap * 10 := by
  rcases h.2 with ⟨h1, h2⟩ | ⟨g, cap, cur, hv, hbb, hg, h4, h5, h6, h7⟩
  · exact absurd (List.eq_nil_of_length_eq_zero h2) hne
  · exact ⟨g, cap, cap * 10, fun i => cur[i]!, hv, hbb, Nat.mul_le_mul_right _ h4, ⟨cur, hg, h6, fun i hi => by show cur[i]? = some cur[i]!; rw [getElem!_pos cur i (by omega)]; exact Array.getElem?_eq_getElem (by omega)⟩, h5, h4, rfl⟩
def flatF : List K3 → List Value
  | [] => []
  | x :: l => x.v.toList ++ flatF l
theorem flatF_len : ∀ l : List K3, (flatF l).length = l.length * 3
  | [] => rfl
  | x :: l => by unfold flatF; rw [List.length_append, flatF_len l]; show 3 + _ = (l.length + 1) * 3; omega
theorem flatF_app : ∀ l l' : List K3, flatF (l ++ l') = flatF l ++ flatF l'
  | [], _ => rfl
  | x :: l, l' => by show x.v.toList ++ flatF (l ++ l') = (x.v.toList ++ flatF l) ++ flatF l'; rw [flatF_app l l', List.append_assoc]
theorem flatF_get : ∀ (l : List K3) (i : Nat) (x : K3) (f : Nat), l[i]? = some x → f < 3 → (flatF l)[i * 3 + f]? = some (.int .i64 (x.f f))
  | [], i, x, f, h, _ => by simp at h
  | y :: l, 0, x, f, h, hf => by
    have e : y = x := by simpa using h
    subst e
    unfold flatF
    rw [Nat.zero_mul, Nat.zero_add, List.getElem?_append_left (by show f < 3; exact hf)]
    have h6 : f = 0 ∨ f = 1 ∨ f = 2 := by omega
    rcases h6 with rfl | rfl | rfl <;> rfl
  | y :: l, i + 1, x, f, h, hf => by
    unfold flatF
    have e : (y.v.toList).length = 3 := rfl
    rw [List.getElem?_append_right (by rw [e]; omega), e, show (i + 1) * 3 + f - 3 = i * 3 + f from by omega]
    exact flatF_get l i x f (by simpa using h) hf
theorem flatF_one : ∀ (l : List K3), ∀ u ∈ flatF l, u.oneCell' = true
  | [], u, h => by cases h
  | x :: l, u, h => by
    unfold flatF at h
    rcases List.mem_append.1 h with h | h
    · simp at h
      rcases h with rfl | rfl | rfl <;> rfl
    · exact flatF_one l u h
/- a slice of such structs, made behind base -/
def SlF (w : World) (base : Nat) (v : Value) (l : List K3) : Prop := w.ownsRow base 133 3 v l.length (flatF l)
theorem SlF.of {w : World} {base : Nat} {v : Value} {l : List K3} (h : w.ownsRow base 133 3 v l.length (flatF l)) : SlF w base v l := h
theorem SlF.below {w w' : World} {base : Nat} {v : Value} {l : List K3} (h : SlF w base v l) (hb : Below w.heap.size w w') : SlF w' base v l := by
  rcases h with ⟨h1, h2⟩
  refine ⟨h1, ?_⟩
  rcases h2 with h2 | ⟨g, cap, cur, hv, hbb, hg, r⟩
  · exact .inl h2
  · exact .inr ⟨g, cap, cur, hv, hbb, (hb.block g (Array.getElem?_eq_some_iff.1 hg).1).trans hg, r⟩
theorem SlF.of_block {w w' : World} {base : Nat} {v : Value} {l : List K3} (h : SlF w base v l) (he : ∀ b, v.ownBlock = some b → w'.heap[b]? = w.heap[b]?) : SlF w' base v l := by
  rcases h with ⟨h1, h2⟩
  refine ⟨h1, ?_⟩
  rcases h2 with h2 | ⟨g, cap, cur, hv, hbb, hg, r⟩
  · exact .inl h2
  · exact .inr ⟨g, cap, cur, hv, hbb, (he g (by rw [hv]; rfl)).trans hg, r⟩
theorem SlF.lt {w : World} {base : Nat} {v : Value} {l : List K3} (s : SlF w base v l) : ∀ b, v.ownBlock = some b → base ≤ b ∧ b < w.heap.size := by
  intro b hb
  rcases s.2 with ⟨h1, h2⟩ | ⟨g, cap, cur, hv, hbb, hg, r⟩
  · rw [h1] at hb; cases hb
  · rw [hv] at hb
    have : g = b := Option.some.inj hb
    subst this
    exact ⟨hbb, (Array.getElem?_eq_some_iff.1 hg).1⟩
theorem SlF.form {w : World} {base : Nat} {v : Value} {l : List K3} (h : SlF w base v l) : ∃ a cap, v = .slice a l.length cap ∧ ArgF w a l := by
  rcases h.2 with ⟨h1, h2⟩ | ⟨g, cap, cur, hv, hbb, hg, h4, h5, h6, h7⟩
  · exact ⟨none, 0, by rw [h1, h2], .inl (List.eq_nil_of_length_eq_zero h2)⟩
  · refine ⟨_, cap, hv, .inr ⟨g, 0, rfl, (Array.getElem?_eq_some_iff.1 hg).1, fun i x hi f hf => ?_⟩⟩
    have e := flatF_get l i x f hi hf
    have hil : i < l.length := (List.getElem?_eq_some_iff.1 hi).1
    rw [← h7, List.getElem?_take, if_pos (by omega)] at e
    simp [World.cell?, hg]
    simpa using e
/- the whole block of such a slice as a row -/
theorem SlF.row {w : World} {base : Nat} {v : Value} {l : List K3} (h : SlF w base v l) (hne : l ≠ []) : ∃ g cap N f, v = .slice (some ⟨g, 0, none⟩) l.length cap ∧ base ≤ g ∧ l.length * 3 ≤ N ∧ w.rowIs g 133 N f ∧ cap ≤ maxLen ∧ l.length ≤ cap ∧ N = cap * 3 := by
  rcases h.2 with ⟨h1, h2⟩ | ⟨g, cap, cur, hv, hbb, hg, h4, h5, h6, h7⟩
  · exact absurd (List.eq_nil_of_length_eq_zero h2) hne
  · exact ⟨g, cap, cap * 3, fun i => cur[i]!, hv, hbb, Nat.mul_le_mul_right _ h4, ⟨cur, hg, h6, fun i hi => by show cur[i]? = some cur[i]!; rw [getElem!_pos cur i (by omega)]; exact Array.getElem?_eq_getElem (by omega)⟩, h5, h4, rfl⟩
end Go.Proofs.YthopodopedbooaaGreat
end

/- OwnPush -/
/- Append: one more behind a slice of one's own, and a copy. No condition. -/
section
namespace Go.Proofs.YthopodopedbooaaGreat
open Go.ChangeShapes Go.WideShapes Go.ChangeAt Go.RowKit
set_option linter.unusedVariables false

theorem wpList_pushU {ops : Array Oper} {rest : List Oper} {o : Oper} {a : Act} {Q : Exit → Act → World → Prop} (hgd : o.guard = none) (s x : Operand)
    (ho : o.op = .call { callee := .builtin .append, args := #[s, x], argTypes := #[24, 24] }) (w0 : World) (u : K10) (base : Nat) (v : Value) (l : List K10) (hs : a.eval s = v) (hown : SlU w0 base v l)
    (hx : a.eval x = .slice (some ⟨w0.heap.size, 0, none⟩) 1 1) (hlen : l.length ≤ 100) (hbase : base ≤ w0.heap.size)
    (h : ∀ v' w', SlU w' base v' (l ++ [u]) → Below base w0 w' → wpList Tryz.prog ops Q rest (a.put o.dst v') w') :
    wpList Tryz.prog ops Q (o :: rest) a (w0.alloc (.cells u.v 105)) := by
  obtain ⟨i0, hi, hz0, hz1, hz2⟩ := info_parts infoU
  have hown' : SlU (w0.alloc (.cells u.v 105)) base v l := hown.below ((Below.refl _ _).alloc (Nat.le_refl _) _)
  refine wpList_append_own _ hgd s x 24 ho base 105 i0 (.agg K10.z.v) 10 80 Tryz.underlying24 hi hz0 hz1 hz2 rfl (by decide) v l.length _ hs hown' ⟨w0.heap.size, 0, none⟩ 1 1 u.v.toList hx (by rfl) ?_ ?_ (by unfold maxLen; omega) (by omega) (by rw [size_new]; omega) ?_
  · intro j y hj
    rw [add_plain', Nat.zero_add]
    exact cell_new _ _ _ _ _ (by simpa using hj)
  · intro y hy
    exact flatU_one [u] y (by unfold flatU; exact List.mem_append_left _ hy)
  · intro v' w' h1 h2 _
    refine h v' w' ?_ (((Below.refl base w0).alloc hbase _).grown h2 (by rw [size_new]; omega) (fun k' hk' => (hown.lt k' hk').1))
    unfold SlU
    rw [flatU_app, List.length_append]
    exact h1
theorem wpList_copyU {ops : Array Oper} {rest : List Oper} {o : Oper} {a : Act} {Q : Exit → Act → World → Prop} (hgd : o.guard = none) (s x : Operand)
    (ho : o.op = .call { callee := .builtin .append, args := #[s, x], argTypes := #[24, 24] }) (w0 : World) (l : List K10) (g off n c : Nat) (hn : l.length = n) (hat : UAt w0 g off l) (hg : g < w0.heap.size)
    (hs : a.eval s = .slice (some ⟨w0.heap.size, 0, none⟩) 0 0) (hx : a.eval x = .slice (some ⟨g, off, none⟩) n c) (hlen : n ≤ 100)
    (h : ∀ v' w', SlU w' w0.heap.size v' l → Below w0.heap.size w0 w' → wpList Tryz.prog ops Q rest (a.put o.dst v') w') :
    wpList Tryz.prog ops Q (o :: rest) a (w0.alloc (.cells #[] 105)) := by
  obtain ⟨i0, hi, hz0, hz1, hz2⟩ := info_parts infoU
  have hown : (w0.alloc (.cells #[] 105)).ownsRow w0.heap.size 105 10 (.slice (some ⟨w0.heap.size, 0, none⟩) 0 0) 0 [] := World.ownsRow_made w0 #[] 0 (Nat.le_refl _) (by unfold maxLen; omega) rfl
  refine wpList_append_own _ hgd s x 24 ho w0.heap.size 105 i0 (.agg K10.z.v) 10 80 Tryz.underlying24 hi hz0 hz1 hz2 rfl (by decide) _ 0 _ hs hown ⟨g, off, none⟩ n c (flatU l) hx (by rw [flatU_len, hn]) ?_ (flatU_one l) (by unfold maxLen; omega) (by omega) (by rw [size_new]; omega) ?_
  · intro j y hj
    rw [add_plain', cell_old _ _ _ _ hg]
    have hjl : j < l.length * 10 := by rw [← flatU_len]; exact (List.getElem?_eq_some_iff.1 hj).1
    obtain ⟨z, hz⟩ : ∃ z, l[j / 10]? = some z := ⟨_, List.getElem?_eq_getElem (by omega)⟩
    have e := flatU_get l (j / 10) z (j % 10) hz (by omega)
    have hj2 : j / 10 * 10 + j % 10 = j := by omega
    rw [hj2, hj] at e
    have := hat (j / 10) z hz (j % 10) (by omega)
    rw [show off + j / 10 * 10 + j % 10 = off + j from by omega] at this
    rw [this, e]
  · intro v' w' h1 h2 _
    refine h v' w' ?_ (((Below.refl _ w0).alloc (Nat.le_refl _) _).grown h2 (by rw [size_new]; omega) (fun k' hk' => by cases hk'; exact Nat.le_refl _))
    unfold SlU
    rw [hn]
    simpa using h1
theorem wpList_pushF {ops : Array Oper} {rest : List Oper} {o : Oper} {a : Act} {Q : Exit → Act → World → Prop} (hgd : o.guard = none) (s x : Operand)
    (ho : o.op = .call { callee := .builtin .append, args := #[s, x], argTypes := #[25, 25] }) (w0 : World) (u : K3) (base : Nat) (v : Value) (l : List K3) (hs : a.eval s = v) (hown : SlF w0 base v l)
    (hx : a.eval x = .slice (some ⟨w0.heap.size, 0, none⟩) 1 1) (hlen : l.length ≤ 100) (hbase : base ≤ w0.heap.size)
    (h : ∀ v' w', SlF w' base v' (l ++ [u]) → Below base w0 w' → wpList Tryz.prog ops Q rest (a.put o.dst v') w') :
    wpList Tryz.prog ops Q (o :: rest) a (w0.alloc (.cells u.v 133)) := by
  obtain ⟨i0, hi, hz0, hz1, hz2⟩ := info_parts infoF
  have hown' : SlF (w0.alloc (.cells u.v 133)) base v l := hown.below ((Below.refl _ _).alloc (Nat.le_refl _) _)
  refine wpList_append_own _ hgd s x 25 ho base 133 i0 (.agg K3.z.v) 3 24 Tryz.underlying25 hi hz0 hz1 hz2 rfl (by decide) v l.length _ hs hown' ⟨w0.heap.size, 0, none⟩ 1 1 u.v.toList hx (by rfl) ?_ ?_ (by unfold maxLen; omega) (by omega) (by rw [size_new]; omega) ?_
  · intro j y hj
    rw [add_plain', Nat.zero_add]
    exact cell_new _ _ _ _ _ (by simpa using hj)
  · intro y hy
    exact flatF_one [u] y (by unfold flatF; exact List.mem_append_left _ hy)
  · intro v' w' h1 h2 _
    refine h v' w' ?_ (((Below.refl base w0).alloc hbase _).grown h2 (by rw [size_new]; omega) (fun k' hk' => (hown.lt k' hk').1))
    unfold SlF
    rw [flatF_app, List.length_append]
    exact h1
theorem wpList_copyF {ops : Array Oper} {rest : List Oper} {o : Oper} {a : Act} {Q : Exit → Act → World → Prop} (hgd : o.guard = none) (s x : Operand)
    (ho : o.op = .call { callee := .builtin .append, args := #[s, x], argTypes := #[25, 25] }) (w0 : World) (l : List K3) (g off n c : Nat) (hn : l.length = n) (hat : FAt w0 g off l) (hg : g < w0.heap.size)
    (hs : a.eval s = .slice (some ⟨w0.heap.size, 0, none⟩) 0 0) (hx : a.eval x = .slice (some ⟨g, off, none⟩) n c) (hlen : n ≤ 100)
    (h : ∀ v' w', SlF w' w0.heap.size v' l → Below w0.heap.size w0 w' → wpList Tryz.prog ops Q rest (a.put o.dst v') w') :
    wpList Tryz.prog ops Q (o :: rest) a (w0.alloc (.cells #[] 133)) := by
  obtain ⟨i0, hi, hz0, hz1, hz2⟩ := info_parts infoF
  have hown : (w0.alloc (.cells #[] 133)).ownsRow w0.heap.size 133 3 (.slice (some ⟨w0.heap.size, 0, none⟩) 0 0) 0 [] := World.ownsRow_made w0 #[] 0 (Nat.le_refl _) (by unfold maxLen; omega) rfl
  refine wpList_append_own _ hgd s x 25 ho w0.heap.size 133 i0 (.agg K3.z.v) 3 24 Tryz.underlying25 hi hz0 hz1 hz2 rfl (by decide) _ 0 _ hs hown ⟨g, off, none⟩ n c (flatF l) hx (by rw [flatF_len, hn]) ?_ (flatF_one l) (by unfold maxLen; omega) (by omega) (by rw [size_new]; omega) ?_
  · intro j y hj
    rw [add_plain', cell_old _ _ _ _ hg]
    have hjl : j < l.length * 3 := by rw [← flatF_len]; exact (List.getElem?_eq_some_iff.1 hj).1
    obtain ⟨z, hz⟩ : ∃ z, l[j / 3]? = some z := ⟨_, List.getElem?_eq_getElem (by omega)⟩
    have e := flatF_get l (j / 3) z (j % 3) hz (by omega)
    have hj2 : j / 3 * 3 + j % 3 = j := by omega
    rw [hj2, hj] at e
    have := hat (j / 3) z hz (j % 3) (by omega)
    rw [show off + j / 3 * 3 + j % 3 = off + j from by omega] at this
    rw [this, e]
  · intro v' w' h1 h2 _
    refine h v' w' ?_ (((Below.refl _ w0).alloc (Nat.le_refl _) _).grown h2 (by rw [size_new]; omega) (fun k' hk' => by cases hk'; exact Nat.le_refl _))
    unfold SlF
    rw [hn]
    simpa using h1
end Go.Proofs.YthopodopedbooaaGreat
end

/- InRows -/
/- Lists of units and of fields that a slice holds, which may be nil. No condition. -/
section
namespace Go.Proofs.YthopodopedbooaaGreat
open Go.ChangeShapes Go.WideShapes Go.ChangeAt Go.RowKit
set_option linter.unusedVariables false

def InU (w : World) (p : Option Addr) (m c : Nat) (l : List K10) : Prop := (p = none ∧ m = 0 ∧ c = 0 ∧ l = []) ∨ ∃ g off, p = some ⟨g, off, none⟩ ∧ g < w.heap.size ∧ UAt w g off l
theorem InU.later {w w' : World} {p : Option Addr} {m c : Nat} {l : List K10} (h : InU w p m c l) (hb : Below w.heap.size w w') : InU w' p m c l := by
  rcases h with h | ⟨g, off, h1, h2, h3⟩
  · exact .inl h
  · exact .inr ⟨g, off, h1, Nat.lt_of_lt_of_le h2 hb.size, h3.later h2 hb⟩
theorem InU.arg {w : World} {p : Option Addr} {m c : Nat} {l : List K10} (h : InU w p m c l) : ArgU w p l := by
  rcases h with ⟨_, _, _, h⟩ | h
  · exact .inl h
  · exact .inr h
theorem InU.at {w : World} {p : Option Addr} {m c : Nat} {l : List K10} (h : InU w p m c l) {i : Nat} {x : K10} (hi : l[i]? = some x) : ∃ b off, p = some ⟨b, off, none⟩ ∧ b < w.heap.size ∧ UAt w b off l := h.arg.at hi
theorem InU.mk {w : World} {g off m c : Nat} {l : List K10} (hg : g < w.heap.size) (h : UAt w g off l) : InU w (some ⟨g, off, none⟩) m c l := .inr ⟨g, off, rfl, hg, h⟩
theorem SlU.in {w : World} {base : Nat} {v : Value} {l : List K10} (h : SlU w base v l) : ∃ p c, v = .slice p l.length c ∧ InU w p l.length c l := by
  rcases h.2 with ⟨h1, h2⟩ | ⟨g, cap, cur, hv, hbb, hg, h4, h5, h6, h7⟩
  · exact ⟨none, 0, by rw [h1, h2], .inl ⟨rfl, h2, rfl, List.eq_nil_of_length_eq_zero h2⟩⟩
  · obtain ⟨a, cap', e, ha⟩ := h.form
    rw [hv] at e
    injection e with e1 e2 e3
    subst e1
    refine ⟨_, cap, hv, ?_⟩
    rcases ha with ha | ⟨b, off, e4, h8, h9⟩
    · subst ha
      exact .inr ⟨g, 0, rfl, (Array.getElem?_eq_some_iff.1 hg).1, fun i x hi => by simp at hi⟩
    · exact .inr ⟨b, off, e4, h8, h9⟩
def InF (w : World) (p : Option Addr) (m c : Nat) (l : List K3) : Prop := (p = none ∧ m = 0 ∧ c = 0 ∧ l = []) ∨ ∃ g off, p = some ⟨g, off, none⟩ ∧ g < w.heap.size ∧ FAt w g off l
theorem InF.later {w w' : World} {p : Option Addr} {m c : Nat} {l : List K3} (h : InF w p m c l) (hb : Below w.heap.size w w') : InF w' p m c l := by
  rcases h with h | ⟨g, off, h1, h2, h3⟩
  · exact .inl h
  · exact .inr ⟨g, off, h1, Nat.lt_of_lt_of_le h2 hb.size, h3.later h2 hb⟩
theorem InF.arg {w : World} {p : Option Addr} {m c : Nat} {l : List K3} (h : InF w p m c l) : ArgF w p l := by
  rcases h with ⟨_, _, _, h⟩ | h
  · exact .inl h
  · exact .inr h
theorem InF.at {w : World} {p : Option Addr} {m c : Nat} {l : List K3} (h : InF w p m c l) {i : Nat} {x : K3} (hi : l[i]? = some x) : ∃ b off, p = some ⟨b, off, none⟩ ∧ b < w.heap.size ∧ FAt w b off l := h.arg.at hi
theorem InF.mk {w : World} {g off m c : Nat} {l : List K3} (hg : g < w.heap.size) (h : FAt w g off l) : InF w (some ⟨g, off, none⟩) m c l := .inr ⟨g, off, rfl, hg, h⟩
theorem SlF.in {w : World} {base : Nat} {v : Value} {l : List K3} (h : SlF w base v l) : ∃ p c, v = .slice p l.length c ∧ InF w p l.length c l := by
  rcases h.2 with ⟨h1, h2⟩ | ⟨g, cap, cur, hv, hbb, hg, h4, h5, h6, h7⟩
  · exact ⟨none, 0, by rw [h1, h2], .inl ⟨rfl, h2, rfl, List.eq_nil_of_length_eq_zero h2⟩⟩
  · obtain ⟨a, cap', e, ha⟩ := h.form
    rw [hv] at e
    injection e with e1 e2 e3
    subst e1
    refine ⟨_, cap, hv, ?_⟩
    rcases ha with ha | ⟨b, off, e4, h8, h9⟩
    · subst ha
      exact .inr ⟨g, 0, rfl, (Array.getElem?_eq_some_iff.1 hg).1, fun i x hi => by simp at hi⟩
    · exact .inr ⟨b, off, e4, h8, h9⟩
theorem grown_refl (w : World) (r : Option Nat) : w.grownBy w r := ⟨rfl, rfl, rfl, Nat.le_refl _, fun _ _ _ => rfl⟩
theorem wpList_copyFI {ops : Array Oper} {rest : List Oper} {o : Oper} {a : Act} {Q : Exit → Act → World → Prop} (hgd : o.guard = none) (s x : Operand)
    (ho : o.op = .call { callee := .builtin .append, args := #[s, x], argTypes := #[25, 25] }) (w0 : World) (l : List K3) (p : Option Addr) (n c : Nat) (hn : l.length = n) (hat : InF w0 p n c l)
    (hs : a.eval s = .slice (some ⟨w0.heap.size, 0, none⟩) 0 0) (hx : a.eval x = .slice p n c) (hlen : n ≤ 100)
    (h : ∀ v' w', SlF w' w0.heap.size v' l → Below w0.heap.size w0 w' → wpList Tryz.prog ops Q rest (a.put o.dst v') w') :
    wpList Tryz.prog ops Q (o :: rest) a (w0.alloc (.cells #[] 133)) := by
  rcases hat with ⟨rfl, rfl, rfl, rfl⟩ | ⟨g, off, rfl, hg, hat⟩
  · obtain ⟨i0, hi, hz0, hz1, hz2⟩ := info_parts infoF
    have hown : (w0.alloc (.cells #[] 133)).ownsRow w0.heap.size 133 3 (.slice (some ⟨w0.heap.size, 0, none⟩) 0 0) 0 [] := World.ownsRow_made w0 #[] 0 (Nat.le_refl _) (by unfold maxLen; omega) rfl
    exact wpList_append_own_none hgd s x 25 ho w0.heap.size 133 i0 3 Tryz.underlying25 hi _ 0 [] hs hown hx (h _ _ hown ((Below.refl _ _).alloc (Nat.le_refl _) _))
  · exact wpList_copyF hgd s x ho w0 l g off n c hn hat hg hs hx hlen h
end Go.Proofs.YthopodopedbooaaGreat
end
