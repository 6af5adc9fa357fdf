/- Texts of mine put together (a claim holds at most 60 files): OwnRowsW. -/
import Derived.Test.YtmfdggaijbcijaaGreatPartQ01
import Derived.Test.YtmfdggaijbcijaaGreatPartQ09

/- OwnRowsW -/
/- Slices of factions, seats and offers in memory of a call's own. No condition. -/
section
namespace Go.Proofs.YtmfdggaijbcijaaGreat
open Go.ChangeShapes Go.WideShapes Go.ChangeAt Go.RowKit
set_option linter.unusedVariables false


def flatA : List KA → List Value
  | [] => []
  | x :: l => x.v.toList ++ flatA l
theorem flatA_len : ∀ l : List KA, (flatA l).length = l.length * 3
  | [] => rfl
  | x :: l => by unfold flatA; rw [List.length_append, flatA_len l]; show 3 + _ = (l.length + 1) * 3; omega
theorem flatA_app : ∀ l l' : List KA, flatA (l ++ l') = flatA l ++ flatA l'
  | [], _ => rfl
  | x :: l, l' => by show x.v.toList ++ flatA (l ++ l') = (x.v.toList ++ flatA l) ++ flatA l'; rw [flatA_app l l', List.append_assoc]
theorem flatA_get : ∀ (l : List KA) (i : Nat) (x : KA) (f : Nat), l[i]? = some x → f < 3 → (flatA l)[i * 3 + f]? = some (x.f f)
  | [], i, x, f, h, _ => by simp at h
  | y :: l, 0, x, f, h, hf => by
    have e : y = x := by simpa using h
    subst e
    unfold flatA
    rw [Nat.zero_mul, Nat.zero_add, List.getElem?_append_left (by show f < 3; exact hf)]
    have h6 : f = 0 ∨ f = 1 ∨ f = 2 := by omega
    rcases h6 with rfl | rfl | rfl <;> rfl
  | y :: l, i + 1, x, f, h, hf => by
    unfold flatA
    have e : (y.v.toList).length = 3 := rfl
    rw [List.getElem?_append_right (by rw [e]; omega), e, show (i + 1) * 3 + f - 3 = i * 3 + f from by omega]
    exact flatA_get l i x f (by simpa using h) hf
theorem flatA_one : ∀ (l : List KA), ∀ u ∈ flatA l, u.oneCell' = true
  | [], u, h => by cases h
  | x :: l, u, h => by
    unfold flatA at h
    rcases List.mem_append.1 h with h | h
    · simp at h
      rcases h with rfl | rfl | rfl <;> rfl
    · exact flatA_one l u h
def SlA (w : World) (base : Nat) (v : Value) (l : List KA) : Prop := w.ownsRow base 64 3 v l.length (flatA l)
theorem SlA.nil (w : World) (base : Nat) : SlA w base (.slice none 0 0) [] := ⟨rfl, .inl ⟨rfl, rfl⟩⟩
theorem SlA.below {w w' : World} {base : Nat} {v : Value} {l : List KA} (h : SlA w base v l) (hb : Below w.heap.size w w') : SlA w' base v l := by
  rcases h with ⟨h1, h2⟩
  refine ⟨h1, ?_⟩
  rcases h2 with h2 | ⟨g, cap, cur, hv, hbb, hg, r⟩
  · exact .inl h2
  · exact .inr ⟨g, cap, cur, hv, hbb, (hb.block g (Array.getElem?_eq_some_iff.1 hg).1).trans hg, r⟩
theorem SlA.of_block {w w' : World} {base : Nat} {v : Value} {l : List KA} (h : SlA w base v l) (he : ∀ b, v.ownBlock = some b → w'.heap[b]? = w.heap[b]?) : SlA w' base v l := by
  rcases h with ⟨h1, h2⟩
  refine ⟨h1, ?_⟩
  rcases h2 with h2 | ⟨g, cap, cur, hv, hbb, hg, r⟩
  · exact .inl h2
  · exact .inr ⟨g, cap, cur, hv, hbb, (he g (by rw [hv]; rfl)).trans hg, r⟩
theorem SlA.mono {w : World} {base base' : Nat} {v : Value} {l : List KA} (h : SlA w base v l) (hb : base' ≤ base) : SlA w base' v l := by
  rcases h with ⟨h1, h2⟩
  refine ⟨h1, ?_⟩
  rcases h2 with h2 | ⟨g, cap, cur, hv, hbb, r⟩
  · exact .inl h2
  · exact .inr ⟨g, cap, cur, hv, Nat.le_trans hb hbb, r⟩
theorem SlA.lt {w : World} {base : Nat} {v : Value} {l : List KA} (s : SlA w base v l) : ∀ b, v.ownBlock = some b → base ≤ b ∧ b < w.heap.size := by
  intro b hb
  rcases s.2 with ⟨h1, h2⟩ | ⟨g, cap, cur, hv, hbb, hg, r⟩
  · rw [h1] at hb; cases hb
  · rw [hv] at hb
    have : g = b := Option.some.inj hb
    subst this
    exact ⟨hbb, (Array.getElem?_eq_some_iff.1 hg).1⟩
theorem SlA.form {w : World} {base : Nat} {v : Value} {l : List KA} (h : SlA w base v l) : ∃ a cap, v = .slice a l.length cap ∧ ArgA w a l := by
  rcases h.2 with ⟨h1, h2⟩ | ⟨g, cap, cur, hv, hbb, hg, h4, h5, h6, h7⟩
  · exact ⟨none, 0, by rw [h1, h2], .inl (List.eq_nil_of_length_eq_zero h2)⟩
  · refine ⟨_, cap, hv, .inr ⟨g, 0, rfl, (Array.getElem?_eq_some_iff.1 hg).1, fun i x hi f hf => ?_⟩⟩
    have e := flatA_get l i x f hi hf
    have hil : i < l.length := (List.getElem?_eq_some_iff.1 hi).1
    rw [← h7, List.getElem?_take, if_pos (by omega)] at e
    simp [World.cell?, hg]
    simpa using e
theorem SlA.frm {w : World} {base : Nat} {v : Value} {l : List KA} (h : SlA w base v l) : ∃ p c n, v = .slice p n c := by
  obtain ⟨p, c, e, _⟩ := h.form
  exact ⟨p, c, _, e⟩
theorem SlA.ne {w : World} {base b : Nat} {v : Value} {l : List KA} {cs : Array Value} {t : TypeId} (h : SlA w base v l) (hb : Blk w b cs t) (ht : 64 ≠ t) : some b ≠ v.ownBlock := by
  intro e
  rcases h.2 with ⟨h1, _⟩ | ⟨g, cap, cur, hv, _, hg, _⟩
  · rw [h1] at e; cases e
  · rw [hv] at e
    have e' : b = g := Option.some.inj e
    subst e'
    unfold Blk at hb
    rw [hb] at hg
    injection hg with hg
    injection hg with _ hg _
    exact ht hg.symm
theorem SlA.drawn {w w' : World} {base s : Nat} {v : Value} {l : List KA} (h : SlA w base v l) (hg : w.grownBy w' (some s)) (hs : s < base) : SlA w' base v l :=
  h.of_block (fun b hb => hg.block b (h.lt b hb).2 (fun e => by have := (h.lt b hb).1; have := Option.some.inj e; omega))
theorem SlA.setB {w : World} {base b o : Nat} {v : Value} {l : List KA} {cs : Array Value} {t : TypeId} (h : SlA w base v l) (hb : Blk w b cs t) (ht : 64 ≠ t) (x : Value) : SlA (w.setCell ⟨b, o, none⟩ x) base v l :=
  h.of_block (fun q hq => Below.heap_setCell _ ⟨b, o, none⟩ x q (fun e => h.ne hb ht (by rw [hq]; exact congrArg some e.symm)))
theorem SlA.alloc {w : World} {base : Nat} {v : Value} {l : List KA} (h : SlA w base v l) (o : Obj) : SlA (w.alloc o) base v l := h.below ((Below.refl _ _).alloc (Nat.le_refl _) o)
/- a block that such a slice has is one of its type -/
theorem SlA.blk {w : World} {base : Nat} {v : Value} {l : List KA} (h : SlA w base v l) {q : Nat} (hq : v.ownBlock = some q) : ∃ cs, Blk w q cs 64 := by
  rcases h.2 with ⟨h1, _⟩ | ⟨g, cap, cur, hv, _, hg, _⟩
  · rw [h1] at hq; cases hq
  · rw [hv] at hq
    have e : g = q := Option.some.inj hq
    subst e
    exact ⟨cur, hg⟩
def flatS : List K4 → List Value
  | [] => []
  | x :: l => x.v.toList ++ flatS l
theorem flatS_len : ∀ l : List K4, (flatS l).length = l.length * 4
  | [] => rfl
  | x :: l => by unfold flatS; rw [List.length_append, flatS_len l]; show 4 + _ = (l.length + 1) * 4; omega
theorem flatS_app : ∀ l l' : List K4, flatS (l ++ l') = flatS l ++ flatS l'
  | [], _ => rfl
  | x :: l, l' => by show x.v.toList ++ flatS (l ++ l') = (x.v.toList ++ flatS l) ++ flatS l'; rw [flatS_app l l', List.append_assoc]
theorem flatS_get : ∀ (l : List K4) (i : Nat) (x : K4) (f : Nat), l[i]? = some x → f < 4 → (flatS l)[i * 4 + f]? = some (x.f f)
  | [], i, x, f, h, _ => by simp at h
  | y :: l, 0, x, f, h, hf => by
    have e : y = x := by simpa using h
    subst e
    unfold flatS
    rw [Nat.zero_mul, Nat.zero_add, List.getElem?_append_left (by show f < 4; exact hf)]
    have h6 : f = 0 ∨ f = 1 ∨ f = 2 ∨ f = 3 := by omega
    rcases h6 with rfl | rfl | rfl | rfl <;> rfl
  | y :: l, i + 1, x, f, h, hf => by
    unfold flatS
    have e : (y.v.toList).length = 4 := rfl
    rw [List.getElem?_append_right (by rw [e]; omega), e, show (i + 1) * 4 + f - 4 = i * 4 + f from by omega]
    exact flatS_get l i x f (by simpa using h) hf
theorem flatS_one : ∀ (l : List K4), ∀ u ∈ flatS l, u.oneCell' = true
  | [], u, h => by cases h
  | x :: l, u, h => by
    unfold flatS at h
    rcases List.mem_append.1 h with h | h
    · simp at h
      rcases h with rfl | rfl | rfl | rfl <;> rfl
    · exact flatS_one l u h
def SlS (w : World) (base : Nat) (v : Value) (l : List K4) : Prop := w.ownsRow base 88 4 v l.length (flatS l)
theorem SlS.nil (w : World) (base : Nat) : SlS w base (.slice none 0 0) [] := ⟨rfl, .inl ⟨rfl, rfl⟩⟩
theorem SlS.below {w w' : World} {base : Nat} {v : Value} {l : List K4} (h : SlS w base v l) (hb : Below w.heap.size w w') : SlS w' base v l := by
  rcases h with ⟨h1, h2⟩
  refine ⟨h1, ?_⟩
  rcases h2 with h2 | ⟨g, cap, cur, hv, hbb, hg, r⟩
  · exact .inl h2
  · exact .inr ⟨g, cap, cur, hv, hbb, (hb.block g (Array.getElem?_eq_some_iff.1 hg).1).trans hg, r⟩
theorem SlS.of_block {w w' : World} {base : Nat} {v : Value} {l : List K4} (h : SlS w base v l) (he : ∀ b, v.ownBlock = some b → w'.heap[b]? = w.heap[b]?) : SlS w' base v l := by
  rcases h with ⟨h1, h2⟩
  refine ⟨h1, ?_⟩
  rcases h2 with h2 | ⟨g, cap, cur, hv, hbb, hg, r⟩
  · exact .inl h2
  · exact .inr ⟨g, cap, cur, hv, hbb, (he g (by rw [hv]; rfl)).trans hg, r⟩
theorem SlS.mono {w : World} {base base' : Nat} {v : Value} {l : List K4} (h : SlS w base v l) (hb : base' ≤ base) : SlS w base' v l := by
  rcases h with ⟨h1, h2⟩
  refine ⟨h1, ?_⟩
  rcases h2 with h2 | ⟨g, cap, cur, hv, hbb, r⟩
  · exact .inl h2
  · exact .inr ⟨g, cap, cur, hv, Nat.le_trans hb hbb, r⟩
theorem SlS.lt {w : World} {base : Nat} {v : Value} {l : List K4} (s : SlS w base v l) : ∀ b, v.ownBlock = some b → base ≤ b ∧ b < w.heap.size := by
  intro b hb
  rcases s.2 with ⟨h1, h2⟩ | ⟨g, cap, cur, hv, hbb, hg, r⟩
  · rw [h1] at hb; cases hb
  · rw [hv] at hb
    have : g = b := Option.some.inj hb
    subst this
    exact ⟨hbb, (Array.getElem?_eq_some_iff.1 hg).1⟩
theorem SlS.form {w : World} {base : Nat} {v : Value} {l : List K4} (h : SlS w base v l) : ∃ a cap, v = .slice a l.length cap ∧ ArgS w a l := by
  rcases h.2 with ⟨h1, h2⟩ | ⟨g, cap, cur, hv, hbb, hg, h4, h5, h6, h7⟩
  · exact ⟨none, 0, by rw [h1, h2], .inl (List.eq_nil_of_length_eq_zero h2)⟩
  · refine ⟨_, cap, hv, .inr ⟨g, 0, rfl, (Array.getElem?_eq_some_iff.1 hg).1, fun i x hi f hf => ?_⟩⟩
    have e := flatS_get l i x f hi hf
    have hil : i < l.length := (List.getElem?_eq_some_iff.1 hi).1
    rw [← h7, List.getElem?_take, if_pos (by omega)] at e
    simp [World.cell?, hg]
    simpa using e
theorem SlS.frm {w : World} {base : Nat} {v : Value} {l : List K4} (h : SlS w base v l) : ∃ p c n, v = .slice p n c := by
  obtain ⟨p, c, e, _⟩ := h.form
  exact ⟨p, c, _, e⟩
theorem SlS.ne {w : World} {base b : Nat} {v : Value} {l : List K4} {cs : Array Value} {t : TypeId} (h : SlS w base v l) (hb : Blk w b cs t) (ht : 88 ≠ t) : some b ≠ v.ownBlock := by
  intro e
  rcases h.2 with ⟨h1, _⟩ | ⟨g, cap, cur, hv, _, hg, _⟩
  · rw [h1] at e; cases e
  · rw [hv] at e
    have e' : b = g := Option.some.inj e
    subst e'
    unfold Blk at hb
    rw [hb] at hg
    injection hg with hg
    injection hg with _ hg _
    exact ht hg.symm
theorem SlS.drawn {w w' : World} {base s : Nat} {v : Value} {l : List K4} (h : SlS w base v l) (hg : w.grownBy w' (some s)) (hs : s < base) : SlS w' base v l :=
  h.of_block (fun b hb => hg.block b (h.lt b hb).2 (fun e => by have := (h.lt b hb).1; have := Option.some.inj e; omega))
theorem SlS.setB {w : World} {base b o : Nat} {v : Value} {l : List K4} {cs : Array Value} {t : TypeId} (h : SlS w base v l) (hb : Blk w b cs t) (ht : 88 ≠ t) (x : Value) : SlS (w.setCell ⟨b, o, none⟩ x) base v l :=
  h.of_block (fun q hq => Below.heap_setCell _ ⟨b, o, none⟩ x q (fun e => h.ne hb ht (by rw [hq]; exact congrArg some e.symm)))
theorem SlS.alloc {w : World} {base : Nat} {v : Value} {l : List K4} (h : SlS w base v l) (o : Obj) : SlS (w.alloc o) base v l := h.below ((Below.refl _ _).alloc (Nat.le_refl _) o)
/- a block that such a slice has is one of its type -/
theorem SlS.blk {w : World} {base : Nat} {v : Value} {l : List K4} (h : SlS w base v l) {q : Nat} (hq : v.ownBlock = some q) : ∃ cs, Blk w q cs 88 := by
  rcases h.2 with ⟨h1, _⟩ | ⟨g, cap, cur, hv, _, hg, _⟩
  · rw [h1] at hq; cases hq
  · rw [hv] at hq
    have e : g = q := Option.some.inj hq
    subst e
    exact ⟨cur, hg⟩
theorem step_pushS {ops : Array Oper} {o : Oper} {a : Act} {W : World} {K : Act → World → Prop} {Q : Exit → Act → World → Prop} {E : Prop} (hgd : o.guard = none) (s x : Operand)
    (ho : o.op = .call { callee := .builtin .append, args := #[s, x], argTypes := #[29, 29] }) (b : Nat) (u : K4) (base : Nat) (v : Value) (l : List K4) (hs : a.eval s = v) (hown : SlS W base v l)
    (hx : a.eval x = .slice (some ⟨b, 0, none⟩) 1 1) (hc : Blk W b u.v 88) (hlen : l.length ≤ 100) (hbase : base ≤ W.heap.size)
    (h : ∀ v' w', SlS w' base v' (l ++ [u]) → W.grownBy w' v.ownBlock → K (a.put o.dst v') w') :
    if Region.wanted o (yielded ops a.tmps) = true then Oper.wp Tryz.prog o a W K Q else E := by
  have hw : Region.wanted o (yielded ops a.tmps) = true := by simp [Region.wanted, hgd]
  rw [if_pos hw]
  obtain ⟨i0, hi, hz0, hz1, hz2⟩ := info_parts infoS
  refine wp_append_own _ s x 29 ho base 88 i0 (.agg K4.z.v) 4 32 Tryz.underlying29 hi hz0 hz1 hz2 rfl (by decide) v l.length _ hs hown ⟨b, 0, none⟩ 1 1 u.v.toList hx (by rfl) ?_ ?_ (by unfold maxLen; omega) (by omega) hbase ?_
  · intro j y hj
    rw [add_plain', Nat.zero_add]
    exact hc.cell (by simpa using hj)
  · intro y hy
    exact flatS_one [u] y (by unfold flatS; exact List.mem_append_left _ hy)
  · intro v' w' h1 h2 _
    refine h v' w' ?_ h2
    unfold SlS
    rw [flatS_app, List.length_append]
    exact h1

def flatO : List K2 → List Value
  | [] => []
  | x :: l => x.v.toList ++ flatO l
theorem flatO_len : ∀ l : List K2, (flatO l).length = l.length * 2
  | [] => rfl
  | x :: l => by unfold flatO; rw [List.length_append, flatO_len l]; show 2 + _ = (l.length + 1) * 2; omega
theorem flatO_app : ∀ l l' : List K2, flatO (l ++ l') = flatO l ++ flatO l'
  | [], _ => rfl
  | x :: l, l' => by show x.v.toList ++ flatO (l ++ l') = (x.v.toList ++ flatO l) ++ flatO l'; rw [flatO_app l l', List.append_assoc]
theorem flatO_get : ∀ (l : List K2) (i : Nat) (x : K2) (f : Nat), l[i]? = some x → f < 2 → (flatO l)[i * 2 + f]? = some (x.f f)
  | [], i, x, f, h, _ => by simp at h
  | y :: l, 0, x, f, h, hf => by
    have e : y = x := by simpa using h
    subst e
    unfold flatO
    rw [Nat.zero_mul, Nat.zero_add, List.getElem?_append_left (by show f < 2; exact hf)]
    have h6 : f = 0 ∨ f = 1 := by omega
    rcases h6 with rfl | rfl <;> rfl
  | y :: l, i + 1, x, f, h, hf => by
    unfold flatO
    have e : (y.v.toList).length = 2 := rfl
    rw [List.getElem?_append_right (by rw [e]; omega), e, show (i + 1) * 2 + f - 2 = i * 2 + f from by omega]
    exact flatO_get l i x f (by simpa using h) hf
theorem flatO_one : ∀ (l : List K2), ∀ u ∈ flatO l, u.oneCell' = true
  | [], u, h => by cases h
  | x :: l, u, h => by
    unfold flatO at h
    rcases List.mem_append.1 h with h | h
    · simp at h
      rcases h with rfl | rfl <;> rfl
    · exact flatO_one l u h
def SlO (w : World) (base : Nat) (v : Value) (l : List K2) : Prop := w.ownsRow base 49 2 v l.length (flatO l)
theorem SlO.nil (w : World) (base : Nat) : SlO w base (.slice none 0 0) [] := ⟨rfl, .inl ⟨rfl, rfl⟩⟩
theorem SlO.below {w w' : World} {base : Nat} {v : Value} {l : List K2} (h : SlO w base v l) (hb : Below w.heap.size w w') : SlO w' base v l := by
  rcases h with ⟨h1, h2⟩
  refine ⟨h1, ?_⟩
  rcases h2 with h2 | ⟨g, cap, cur, hv, hbb, hg, r⟩
  · exact .inl h2
  · exact .inr ⟨g, cap, cur, hv, hbb, (hb.block g (Array.getElem?_eq_some_iff.1 hg).1).trans hg, r⟩
theorem SlO.of_block {w w' : World} {base : Nat} {v : Value} {l : List K2} (h : SlO w base v l) (he : ∀ b, v.ownBlock = some b → w'.heap[b]? = w.heap[b]?) : SlO w' base v l := by
  rcases h with ⟨h1, h2⟩
  refine ⟨h1, ?_⟩
  rcases h2 with h2 | ⟨g, cap, cur, hv, hbb, hg, r⟩
  · exact .inl h2
  · exact .inr ⟨g, cap, cur, hv, hbb, (he g (by rw [hv]; rfl)).trans hg, r⟩
theorem SlO.mono {w : World} {base base' : Nat} {v : Value} {l : List K2} (h : SlO w base v l) (hb : base' ≤ base) : SlO w base' v l := by
  rcases h with ⟨h1, h2⟩
  refine ⟨h1, ?_⟩
  rcases h2 with h2 | ⟨g, cap, cur, hv, hbb, r⟩
  · exact .inl h2
  · exact .inr ⟨g, cap, cur, hv, Nat.le_trans hb hbb, r⟩
theorem SlO.lt {w : World} {base : Nat} {v : Value} {l : List K2} (s : SlO w base v l) : ∀ b, v.ownBlock = some b → base ≤ b ∧ b < w.heap.size := by
  intro b hb
  rcases s.2 with ⟨h1, h2⟩ | ⟨g, cap, cur, hv, hbb, hg, r⟩
  · rw [h1] at hb; cases hb
  · rw [hv] at hb
    have : g = b := Option.some.inj hb
    subst this
    exact ⟨hbb, (Array.getElem?_eq_some_iff.1 hg).1⟩
theorem SlO.form {w : World} {base : Nat} {v : Value} {l : List K2} (h : SlO w base v l) : ∃ a cap, v = .slice a l.length cap ∧ ArgO w a l := by
  rcases h.2 with ⟨h1, h2⟩ | ⟨g, cap, cur, hv, hbb, hg, h4, h5, h6, h7⟩
  · exact ⟨none, 0, by rw [h1, h2], .inl (List.eq_nil_of_length_eq_zero h2)⟩
  · refine ⟨_, cap, hv, .inr ⟨g, 0, rfl, (Array.getElem?_eq_some_iff.1 hg).1, fun i x hi f hf => ?_⟩⟩
    have e := flatO_get l i x f hi hf
    have hil : i < l.length := (List.getElem?_eq_some_iff.1 hi).1
    rw [← h7, List.getElem?_take, if_pos (by omega)] at e
    simp [World.cell?, hg]
    simpa using e
theorem SlO.frm {w : World} {base : Nat} {v : Value} {l : List K2} (h : SlO w base v l) : ∃ p c n, v = .slice p n c := by
  obtain ⟨p, c, e, _⟩ := h.form
  exact ⟨p, c, _, e⟩
theorem SlO.ne {w : World} {base b : Nat} {v : Value} {l : List K2} {cs : Array Value} {t : TypeId} (h : SlO w base v l) (hb : Blk w b cs t) (ht : 49 ≠ t) : some b ≠ v.ownBlock := by
  intro e
  rcases h.2 with ⟨h1, _⟩ | ⟨g, cap, cur, hv, _, hg, _⟩
  · rw [h1] at e; cases e
  · rw [hv] at e
    have e' : b = g := Option.some.inj e
    subst e'
    unfold Blk at hb
    rw [hb] at hg
    injection hg with hg
    injection hg with _ hg _
    exact ht hg.symm
theorem SlO.drawn {w w' : World} {base s : Nat} {v : Value} {l : List K2} (h : SlO w base v l) (hg : w.grownBy w' (some s)) (hs : s < base) : SlO w' base v l :=
  h.of_block (fun b hb => hg.block b (h.lt b hb).2 (fun e => by have := (h.lt b hb).1; have := Option.some.inj e; omega))
theorem SlO.setB {w : World} {base b o : Nat} {v : Value} {l : List K2} {cs : Array Value} {t : TypeId} (h : SlO w base v l) (hb : Blk w b cs t) (ht : 49 ≠ t) (x : Value) : SlO (w.setCell ⟨b, o, none⟩ x) base v l :=
  h.of_block (fun q hq => Below.heap_setCell _ ⟨b, o, none⟩ x q (fun e => h.ne hb ht (by rw [hq]; exact congrArg some e.symm)))
theorem SlO.alloc {w : World} {base : Nat} {v : Value} {l : List K2} (h : SlO w base v l) (o : Obj) : SlO (w.alloc o) base v l := h.below ((Below.refl _ _).alloc (Nat.le_refl _) o)
/- a block that such a slice has is one of its type -/
theorem SlO.blk {w : World} {base : Nat} {v : Value} {l : List K2} (h : SlO w base v l) {q : Nat} (hq : v.ownBlock = some q) : ∃ cs, Blk w q cs 49 := by
  rcases h.2 with ⟨h1, _⟩ | ⟨g, cap, cur, hv, _, hg, _⟩
  · rw [h1] at hq; cases hq
  · rw [hv] at hq
    have e : g = q := Option.some.inj hq
    subst e
    exact ⟨cur, hg⟩
theorem step_pushO {ops : Array Oper} {o : Oper} {a : Act} {W : World} {K : Act → World → Prop} {Q : Exit → Act → World → Prop} {E : Prop} (hgd : o.guard = none) (s x : Operand)
    (ho : o.op = .call { callee := .builtin .append, args := #[s, x], argTypes := #[30, 30] }) (b : Nat) (u : K2) (base : Nat) (v : Value) (l : List K2) (hs : a.eval s = v) (hown : SlO W base v l)
    (hx : a.eval x = .slice (some ⟨b, 0, none⟩) 1 1) (hc : Blk W b u.v 49) (hlen : l.length ≤ 100) (hbase : base ≤ W.heap.size)
    (h : ∀ v' w', SlO w' base v' (l ++ [u]) → W.grownBy w' v.ownBlock → K (a.put o.dst v') w') :
    if Region.wanted o (yielded ops a.tmps) = true then Oper.wp Tryz.prog o a W K Q else E := by
  have hw : Region.wanted o (yielded ops a.tmps) = true := by simp [Region.wanted, hgd]
  rw [if_pos hw]
  obtain ⟨i0, hi, hz0, hz1, hz2⟩ := info_parts infoO
  refine wp_append_own _ s x 30 ho base 49 i0 (.agg K2.z.v) 2 16 Tryz.underlying30 hi hz0 hz1 hz2 rfl (by decide) v l.length _ hs hown ⟨b, 0, none⟩ 1 1 u.v.toList hx (by rfl) ?_ ?_ (by unfold maxLen; omega) (by omega) hbase ?_
  · intro j y hj
    rw [add_plain', Nat.zero_add]
    exact hc.cell (by simpa using hj)
  · intro y hy
    exact flatO_one [u] y (by unfold flatO; exact List.mem_append_left _ hy)
  · intro v' w' h1 h2 _
    refine h v' w' ?_ h2
    unfold SlO
    rw [flatO_app, List.length_append]
    exact h1
end Go.Proofs.YtmfdggaijbcijaaGreat
end
