/- Texts of mine put together (a claim holds at most 60 files): OwnPush, InRows. -/
import Derived.Test.YtmfdggaijbcijaaGreatPartQ04
import Derived.OwnWalk
import Derived.Laws.AppendOwnNone

/- OwnPush -/
/- Append: one more behind a slice of one's own, and a copy. No condition. -/
section
namespace Go.Proofs.YtmfdggaijbcijaaGreat
open Go.ChangeShapes Go.WideShapes Go.ChangeAt Go.RowKit
set_option linter.unusedVariables false

theorem wpList_copyU {ops : Array Oper} {rest : List Oper} {o : Oper} {a : Act} {Q : Exit → Act → World → Prop} (hgd : o.guard = none) (s x : Operand)
    (ho : o.op = .call { callee := .builtin .append, args := #[s, x], argTypes := #[24, 24] }) (w0 : World) (l : List K10) (g off n c : Nat) (hn : l.length = n) (hat : UAt w0 g off l) (hg : g < w0.heap.size)
    (hs : a.eval s = .slice (some ⟨w0.heap.size, 0, none⟩) 0 0) (hx : a.eval x = .slice (some ⟨g, off, none⟩) n c) (hlen : n ≤ 100)
    (h : ∀ v' w', SlU w' w0.heap.size v' l → Below w0.heap.size w0 w' → wpList Tryz.prog ops Q rest (a.put o.dst v') w') :
    wpList Tryz.prog ops Q (o :: rest) a (w0.alloc (.cells #[] 113)) := by
  obtain ⟨i0, hi, hz0, hz1, hz2⟩ := info_parts infoU
  have hown : (w0.alloc (.cells #[] 113)).ownsRow w0.heap.size 113 10 (.slice (some ⟨w0.heap.size, 0, none⟩) 0 0) 0 [] := World.ownsRow_made w0 #[] 0 (Nat.le_refl _) (by unfold maxLen; omega) rfl
  refine wpList_append_own _ hgd s x 24 ho w0.heap.size 113 i0 (.agg K10.z.v) 10 80 Tryz.underlying24 hi hz0 hz1 hz2 rfl (by decide) _ 0 _ hs hown ⟨g, off, none⟩ n c (flatU l) hx (by rw [flatU_len, hn]) ?_ (flatU_one l) (by unfold maxLen; omega) (by omega) (by rw [size_new]; omega) ?_
  · intro j y hj
    rw [add_plain', cell_old _ _ _ _ hg]
    have hjl : j < l.length * 10 := by rw [← flatU_len]; exact (List.getElem?_eq_some_iff.1 hj).1
    obtain ⟨z, hz⟩ : ∃ z, l[j / 10]? = some z := ⟨_, List.getElem?_eq_getElem (by omega)⟩
    have e := flatU_get l (j / 10) z (j % 10) hz (by omega)
    have hj2 : j / 10 * 10 + j % 10 = j := by omega
    rw [hj2, hj] at e
    have := hat (j / 10) z hz (j % 10) (by omega)
    rw [show off + j / 10 * 10 + j % 10 = off + j from by omega] at this
    rw [this, e]
  · intro v' w' h1 h2 _
    refine h v' w' ?_ (((Below.refl _ w0).alloc (Nat.le_refl _) _).grown h2 (by rw [size_new]; omega) (fun k' hk' => by cases hk'; exact Nat.le_refl _))
    unfold SlU
    rw [hn]
    simpa using h1
theorem wpList_copyF {ops : Array Oper} {rest : List Oper} {o : Oper} {a : Act} {Q : Exit → Act → World → Prop} (hgd : o.guard = none) (s x : Operand)
    (ho : o.op = .call { callee := .builtin .append, args := #[s, x], argTypes := #[25, 25] }) (w0 : World) (l : List K3) (g off n c : Nat) (hn : l.length = n) (hat : FAt w0 g off l) (hg : g < w0.heap.size)
    (hs : a.eval s = .slice (some ⟨w0.heap.size, 0, none⟩) 0 0) (hx : a.eval x = .slice (some ⟨g, off, none⟩) n c) (hlen : n ≤ 100)
    (h : ∀ v' w', SlF w' w0.heap.size v' l → Below w0.heap.size w0 w' → wpList Tryz.prog ops Q rest (a.put o.dst v') w') :
    wpList Tryz.prog ops Q (o :: rest) a (w0.alloc (.cells #[] 118)) := by
  obtain ⟨i0, hi, hz0, hz1, hz2⟩ := info_parts infoF
  have hown : (w0.alloc (.cells #[] 118)).ownsRow w0.heap.size 118 3 (.slice (some ⟨w0.heap.size, 0, none⟩) 0 0) 0 [] := World.ownsRow_made w0 #[] 0 (Nat.le_refl _) (by unfold maxLen; omega) rfl
  refine wpList_append_own _ hgd s x 25 ho w0.heap.size 118 i0 (.agg K3.z.v) 3 24 Tryz.underlying25 hi hz0 hz1 hz2 rfl (by decide) _ 0 _ hs hown ⟨g, off, none⟩ n c (flatF l) hx (by rw [flatF_len, hn]) ?_ (flatF_one l) (by unfold maxLen; omega) (by omega) (by rw [size_new]; omega) ?_
  · intro j y hj
    rw [add_plain', cell_old _ _ _ _ hg]
    have hjl : j < l.length * 3 := by rw [← flatF_len]; exact (List.getElem?_eq_some_iff.1 hj).1
    obtain ⟨z, hz⟩ : ∃ z, l[j / 3]? = some z := ⟨_, List.getElem?_eq_getElem (by omega)⟩
    have e := flatF_get l (j / 3) z (j % 3) hz (by omega)
    have hj2 : j / 3 * 3 + j % 3 = j := by omega
    rw [hj2, hj] at e
    have := hat (j / 3) z hz (j % 3) (by omega)
    rw [show off + j / 3 * 3 + j % 3 = off + j from by omega] at this
    rw [this, e]
  · intro v' w' h1 h2 _
    refine h v' w' ?_ (((Below.refl _ w0).alloc (Nat.le_refl _) _).grown h2 (by rw [size_new]; omega) (fun k' hk' => by cases hk'; exact Nat.le_refl _))
    unfold SlF
    rw [hn]
    simpa using h1
end Go.Proofs.YtmfdggaijbcijaaGreat
end

/- InRows -/
/- Lists of units and of fields that a slice holds, which may be nil. No condition. -/
section
namespace Go.Proofs.YtmfdggaijbcijaaGreat
open Go.ChangeShapes Go.WideShapes Go.ChangeAt Go.RowKit
set_option linter.unusedVariables false

def InU (w : World) (p : Option Addr) (m c : Nat) (l : List K10) : Prop := (p = none ∧ m = 0 ∧ c = 0 ∧ l = []) ∨ ∃ g off, p = some ⟨g, off, none⟩ ∧ g < w.heap.size ∧ UAt w g off l
theorem InU.later {w w' : World} {p : Option Addr} {m c : Nat} {l : List K10} (h : InU w p m c l) (hb : Below w.heap.size w w') : InU w' p m c l := by
  rcases h with h | ⟨g, off, h1, h2, h3⟩
  · exact .inl h
  · exact .inr ⟨g, off, h1, Nat.lt_of_lt_of_le h2 hb.size, h3.later h2 hb⟩
theorem InU.arg {w : World} {p : Option Addr} {m c : Nat} {l : List K10} (h : InU w p m c l) : ArgU w p l := by
  rcases h with ⟨_, _, _, h⟩ | h
  · exact .inl h
  · exact .inr h
theorem InU.at {w : World} {p : Option Addr} {m c : Nat} {l : List K10} (h : InU w p m c l) {i : Nat} {x : K10} (hi : l[i]? = some x) : ∃ b off, p = some ⟨b, off, none⟩ ∧ b < w.heap.size ∧ UAt w b off l := h.arg.at hi
theorem InU.mk {w : World} {g off m c : Nat} {l : List K10} (hg : g < w.heap.size) (h : UAt w g off l) : InU w (some ⟨g, off, none⟩) m c l := .inr ⟨g, off, rfl, hg, h⟩
theorem SlU.in {w : World} {base : Nat} {v : Value} {l : List K10} (h : SlU w base v l) : ∃ p c, v = .slice p l.length c ∧ InU w p l.length c l := by
  rcases h.2 with ⟨h1, h2⟩ | ⟨g, cap, cur, hv, hbb, hg, h4, h5, h6, h7⟩
  · exact ⟨none, 0, by rw [h1, h2], .inl ⟨rfl, h2, rfl, List.eq_nil_of_length_eq_zero h2⟩⟩
  · obtain ⟨a, cap', e, ha⟩ := h.form
    rw [hv] at e
    injection e with e1 e2 e3
    subst e1
    refine ⟨_, cap, hv, ?_⟩
    rcases ha with ha | ⟨b, off, e4, h8, h9⟩
    · subst ha
      exact .inr ⟨g, 0, rfl, (Array.getElem?_eq_some_iff.1 hg).1, fun i x hi => by simp at hi⟩
    · exact .inr ⟨b, off, e4, h8, h9⟩
def InF (w : World) (p : Option Addr) (m c : Nat) (l : List K3) : Prop := (p = none ∧ m = 0 ∧ c = 0 ∧ l = []) ∨ ∃ g off, p = some ⟨g, off, none⟩ ∧ g < w.heap.size ∧ FAt w g off l
theorem InF.later {w w' : World} {p : Option Addr} {m c : Nat} {l : List K3} (h : InF w p m c l) (hb : Below w.heap.size w w') : InF w' p m c l := by
  rcases h with h | ⟨g, off, h1, h2, h3⟩
  · exact .inl h
  · exact .inr ⟨g, off, h1, Nat.lt_of_lt_of_le h2 hb.size, h3.later h2 hb⟩
theorem InF.arg {w : World} {p : Option Addr} {m c : Nat} {l : List K3} (h : InF w p m c l) : ArgF w p l := by
  rcases h with ⟨_, _, _, h⟩ | h
  · exact .inl h
  · exact .inr h
theorem InF.at {w : World} {p : Option Addr} {m c : Nat} {l : List K3} (h : InF w p m c l) {i : Nat} {x : K3} (hi : l[i]? = some x) : ∃ b off, p = some ⟨b, off, none⟩ ∧ b < w.heap.size ∧ FAt w b off l := h.arg.at hi
theorem InF.mk {w : World} {g off m c : Nat} {l : List K3} (hg : g < w.heap.size) (h : FAt w g off l) : InF w (some ⟨g, off, none⟩) m c l := .inr ⟨g, off, rfl, hg, h⟩
theorem SlF.in {w : World} {base : Nat} {v : Value} {l : List K3} (h : SlF w base v l) : ∃ p c, v = .slice p l.length c ∧ InF w p l.length c l := by
  rcases h.2 with ⟨h1, h2⟩ | ⟨g, cap, cur, hv, hbb, hg, h4, h5, h6, h7⟩
  · exact ⟨none, 0, by rw [h1, h2], .inl ⟨rfl, h2, rfl, List.eq_nil_of_length_eq_zero h2⟩⟩
  · obtain ⟨a, cap', e, ha⟩ := h.form
    rw [hv] at e
    injection e with e1 e2 e3
    subst e1
    refine ⟨_, cap, hv, ?_⟩
    rcases ha with ha | ⟨b, off, e4, h8, h9⟩
    · subst ha
      exact .inr ⟨g, 0, rfl, (Array.getElem?_eq_some_iff.1 hg).1, fun i x hi => by simp at hi⟩
    · exact .inr ⟨b, off, e4, h8, h9⟩
theorem grown_refl (w : World) (r : Option Nat) : w.grownBy w r := ⟨rfl, rfl, rfl, Nat.le_refl _, fun _ _ _ => rfl⟩
end Go.Proofs.YtmfdggaijbcijaaGreat
end
