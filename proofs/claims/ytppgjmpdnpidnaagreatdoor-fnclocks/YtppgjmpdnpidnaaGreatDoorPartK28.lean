/- Texts of mine put together (a claim holds at most 60 files): InRowsW, WRes. -/
import Derived.Test.YtppgjmpdnpidnaaGreatDoorPartK27
import Derived.Test.YtppgjmpdnpidnaaGreatDoorPartK11
import Derived.Test.YtppgjmpdnpidnaaGreatDoorPartK08

/- InRowsW -/
/- Lists of factions, seats and offers that a slice holds, which may be nil; their copies; worlds of such lists. No condition. -/
section
namespace Go.Proofs.YtppgjmpdnpidnaaGreatDoor
open Go.ChangeShapes Go.WideShapes Go.ChangeAt Go.RowKit
set_option linter.unusedVariables false


def InA (w : World) (p : Option Addr) (m c : Nat) (l : List KA) : Prop := (p = none ∧ m = 0 ∧ c = 0 ∧ l = []) ∨ ∃ g off, p = some ⟨g, off, none⟩ ∧ g < w.heap.size ∧ AAt w g off l
theorem InA.later {w w' : World} {p : Option Addr} {m c : Nat} {l : List KA} (h : InA w p m c l) (hb : Below w.heap.size w w') : InA w' p m c l := by
  rcases h with h | ⟨g, off, h1, h2, h3⟩
  · exact .inl h
  · exact .inr ⟨g, off, h1, Nat.lt_of_lt_of_le h2 hb.size, h3.later h2 hb⟩
theorem InA.arg {w : World} {p : Option Addr} {m c : Nat} {l : List KA} (h : InA w p m c l) : ArgA w p l := by
  rcases h with ⟨_, _, _, h⟩ | h
  · exact .inl h
  · exact .inr h
theorem InA.mk {w : World} {g off m c : Nat} {l : List KA} (hg : g < w.heap.size) (h : AAt w g off l) : InA w (some ⟨g, off, none⟩) m c l := .inr ⟨g, off, rfl, hg, h⟩
theorem SlA.in {w : World} {base : Nat} {v : Value} {l : List KA} (h : SlA w base v l) : ∃ p c, v = .slice p l.length c ∧ l.length ≤ c ∧ c ≤ maxLen ∧ InA w p l.length c l := by
  rcases h.2 with ⟨h1, h2⟩ | ⟨g, cap, cur, hv, hbb, hg, h4, h5, h6, h7⟩
  · exact ⟨none, 0, by rw [h1, h2], by omega, Nat.zero_le _, .inl ⟨rfl, h2, rfl, List.eq_nil_of_length_eq_zero h2⟩⟩
  · obtain ⟨a, cap', e, ha⟩ := h.form
    rw [hv] at e
    injection e with e1 e2 e3
    subst e1
    refine ⟨_, cap, hv, h4, h5, ?_⟩
    rcases ha with ha | ⟨b, off, e4, h8, h9⟩
    · subst ha
      exact .inr ⟨g, 0, rfl, (Array.getElem?_eq_some_iff.1 hg).1, fun i x hi => by simp at hi⟩
    · exact .inr ⟨b, off, e4, h8, h9⟩
theorem wpList_copyA {ops : Array Oper} {rest : List Oper} {o : Oper} {a : Act} {Q : Exit → Act → World → Prop} (hgd : o.guard = none) (s x : Operand)
    (ho : o.op = .call { callee := .builtin .append, args := #[s, x], argTypes := #[28, 28] }) (w0 : World) (l : List KA) (g off n c : Nat) (hn : l.length = n) (hat : AAt w0 g off l) (hg : g < w0.heap.size)
    (hs : a.eval s = .slice (some ⟨w0.heap.size, 0, none⟩) 0 0) (hx : a.eval x = .slice (some ⟨g, off, none⟩) n c) (hlen : n ≤ 100)
    (h : ∀ v' w', SlA w' w0.heap.size v' l → Below w0.heap.size w0 w' → wpList Tryz.prog ops Q rest (a.put o.dst v') w') :
    wpList Tryz.prog ops Q (o :: rest) a (w0.alloc (.cells #[] 61)) := by
  obtain ⟨i0, hi, hz0, hz1, hz2⟩ := info_parts infoA
  have hown : (w0.alloc (.cells #[] 61)).ownsRow w0.heap.size 61 3 (.slice (some ⟨w0.heap.size, 0, none⟩) 0 0) 0 [] := World.ownsRow_made w0 #[] 0 (Nat.le_refl _) (by unfold maxLen; omega) rfl
  refine wpList_append_own _ hgd s x 28 ho w0.heap.size 61 i0 (.agg KA.z.v) 3 24 Tryz.underlying28 hi hz0 hz1 hz2 rfl (by decide) _ 0 _ hs hown ⟨g, off, none⟩ n c (flatA l) hx (by rw [flatA_len, hn]) ?_ (flatA_one l) (by unfold maxLen; omega) (by omega) (by rw [size_new]; omega) ?_
  · intro j y hj
    rw [add_plain', cell_old _ _ _ _ hg]
    have hjl : j < l.length * 3 := by rw [← flatA_len]; exact (List.getElem?_eq_some_iff.1 hj).1
    obtain ⟨z, hz⟩ : ∃ z, l[j / 3]? = some z := ⟨_, List.getElem?_eq_getElem (by omega)⟩
    have e := flatA_get l (j / 3) z (j % 3) hz (by omega)
    have hj2 : j / 3 * 3 + j % 3 = j := by omega
    rw [hj2, hj] at e
    have := hat (j / 3) z hz (j % 3) (by omega)
    rw [show off + j / 3 * 3 + j % 3 = off + j from by omega] at this
    rw [this, e]
  · intro v' w' h1 h2 _
    refine h v' w' ?_ (((Below.refl _ w0).alloc (Nat.le_refl _) _).grown h2 (by rw [size_new]; omega) (fun k' hk' => by cases hk'; exact Nat.le_refl _))
    unfold SlA
    rw [hn]
    simpa using h1
set_option maxRecDepth 20000 in
set_option maxHeartbeats 2000000 in
theorem cloneA_i (p : Option Addr) (c n : Nat) (l : List KA) (hn : l.length = n) (hl : n ≤ 100) (w : World) (hat : InA w p n c l) :
    Calls Tryz.prog 42 #[.slice p n c] w fun e w' => ∃ v, e = .returned v ∧ SlA w' w.heap.size v l ∧ Below w.heap.size w w' := by
  rcases hat with ⟨rfl, rfl, rfl, rfl⟩ | ⟨g, off, rfl, hg, hat⟩
  · have hnil : ∀ W, (binOp .eql 28 (.slice none 0 0) (.slice none 0 0)).run Tryz.prog W = .ok (.bool true) W := fun W => by kernel_rfl
    go_enter Tryz.func42, Tryz.ntmps42
    go_wp2
    go_ret
    exact ⟨_, rfl, ⟨rfl, .inl ⟨rfl, rfl⟩⟩, Below.refl _ _⟩
  · have Hn : Hid (l.length = n) := hn
    have Hat : Hid (AAt w g off l) := hat
    have hnil : ∀ W, (binOp .eql 28 (.slice (some ⟨g, off, none⟩) n c) (.slice none 0 0)).run Tryz.prog W = .ok (.bool false) W := fun W => by kernel_rfl
    clear hn hat
    go_enter Tryz.func42, Tryz.ntmps42
    go_wp2_with (first | (at_builtin; refine wpList_copyA rfl _ _ rfl w l g off n c Hn.out Hat.out hg rfl rfl (by omega) ?_))
    intro v2 w2 hS2 hb2
    go_wp2_with fail
    go_ret
    exact ⟨_, rfl, hS2, hb2⟩

def InS (w : World) (p : Option Addr) (m c : Nat) (l : List K4) : Prop := (p = none ∧ m = 0 ∧ c = 0 ∧ l = []) ∨ ∃ g off, p = some ⟨g, off, none⟩ ∧ g < w.heap.size ∧ SAt w g off l
theorem InS.later {w w' : World} {p : Option Addr} {m c : Nat} {l : List K4} (h : InS w p m c l) (hb : Below w.heap.size w w') : InS w' p m c l := by
  rcases h with h | ⟨g, off, h1, h2, h3⟩
  · exact .inl h
  · exact .inr ⟨g, off, h1, Nat.lt_of_lt_of_le h2 hb.size, h3.later h2 hb⟩
theorem InS.arg {w : World} {p : Option Addr} {m c : Nat} {l : List K4} (h : InS w p m c l) : ArgS w p l := by
  rcases h with ⟨_, _, _, h⟩ | h
  · exact .inl h
  · exact .inr h
theorem InS.mk {w : World} {g off m c : Nat} {l : List K4} (hg : g < w.heap.size) (h : SAt w g off l) : InS w (some ⟨g, off, none⟩) m c l := .inr ⟨g, off, rfl, hg, h⟩
theorem SlS.in {w : World} {base : Nat} {v : Value} {l : List K4} (h : SlS w base v l) : ∃ p c, v = .slice p l.length c ∧ l.length ≤ c ∧ c ≤ maxLen ∧ InS w p l.length c l := by
  rcases h.2 with ⟨h1, h2⟩ | ⟨g, cap, cur, hv, hbb, hg, h4, h5, h6, h7⟩
  · exact ⟨none, 0, by rw [h1, h2], by omega, Nat.zero_le _, .inl ⟨rfl, h2, rfl, List.eq_nil_of_length_eq_zero h2⟩⟩
  · obtain ⟨a, cap', e, ha⟩ := h.form
    rw [hv] at e
    injection e with e1 e2 e3
    subst e1
    refine ⟨_, cap, hv, h4, h5, ?_⟩
    rcases ha with ha | ⟨b, off, e4, h8, h9⟩
    · subst ha
      exact .inr ⟨g, 0, rfl, (Array.getElem?_eq_some_iff.1 hg).1, fun i x hi => by simp at hi⟩
    · exact .inr ⟨b, off, e4, h8, h9⟩
theorem wpList_copyS {ops : Array Oper} {rest : List Oper} {o : Oper} {a : Act} {Q : Exit → Act → World → Prop} (hgd : o.guard = none) (s x : Operand)
    (ho : o.op = .call { callee := .builtin .append, args := #[s, x], argTypes := #[29, 29] }) (w0 : World) (l : List K4) (g off n c : Nat) (hn : l.length = n) (hat : SAt w0 g off l) (hg : g < w0.heap.size)
    (hs : a.eval s = .slice (some ⟨w0.heap.size, 0, none⟩) 0 0) (hx : a.eval x = .slice (some ⟨g, off, none⟩) n c) (hlen : n ≤ 100)
    (h : ∀ v' w', SlS w' w0.heap.size v' l → Below w0.heap.size w0 w' → wpList Tryz.prog ops Q rest (a.put o.dst v') w') :
    wpList Tryz.prog ops Q (o :: rest) a (w0.alloc (.cells #[] 87)) := by
  obtain ⟨i0, hi, hz0, hz1, hz2⟩ := info_parts infoS
  have hown : (w0.alloc (.cells #[] 87)).ownsRow w0.heap.size 87 4 (.slice (some ⟨w0.heap.size, 0, none⟩) 0 0) 0 [] := World.ownsRow_made w0 #[] 0 (Nat.le_refl _) (by unfold maxLen; omega) rfl
  refine wpList_append_own _ hgd s x 29 ho w0.heap.size 87 i0 (.agg K4.z.v) 4 32 Tryz.underlying29 hi hz0 hz1 hz2 rfl (by decide) _ 0 _ hs hown ⟨g, off, none⟩ n c (flatS l) hx (by rw [flatS_len, hn]) ?_ (flatS_one l) (by unfold maxLen; omega) (by omega) (by rw [size_new]; omega) ?_
  · intro j y hj
    rw [add_plain', cell_old _ _ _ _ hg]
    have hjl : j < l.length * 4 := by rw [← flatS_len]; exact (List.getElem?_eq_some_iff.1 hj).1
    obtain ⟨z, hz⟩ : ∃ z, l[j / 4]? = some z := ⟨_, List.getElem?_eq_getElem (by omega)⟩
    have e := flatS_get l (j / 4) z (j % 4) hz (by omega)
    have hj2 : j / 4 * 4 + j % 4 = j := by omega
    rw [hj2, hj] at e
    have := hat (j / 4) z hz (j % 4) (by omega)
    rw [show off + j / 4 * 4 + j % 4 = off + j from by omega] at this
    rw [this, e]
  · intro v' w' h1 h2 _
    refine h v' w' ?_ (((Below.refl _ w0).alloc (Nat.le_refl _) _).grown h2 (by rw [size_new]; omega) (fun k' hk' => by cases hk'; exact Nat.le_refl _))
    unfold SlS
    rw [hn]
    simpa using h1
set_option maxRecDepth 20000 in
set_option maxHeartbeats 2000000 in
theorem cloneS_i (p : Option Addr) (c n : Nat) (l : List K4) (hn : l.length = n) (hl : n ≤ 100) (w : World) (hat : InS w p n c l) :
    Calls Tryz.prog 43 #[.slice p n c] w fun e w' => ∃ v, e = .returned v ∧ SlS w' w.heap.size v l ∧ Below w.heap.size w w' := by
  rcases hat with ⟨rfl, rfl, rfl, rfl⟩ | ⟨g, off, rfl, hg, hat⟩
  · have hnil : ∀ W, (binOp .eql 29 (.slice none 0 0) (.slice none 0 0)).run Tryz.prog W = .ok (.bool true) W := fun W => by kernel_rfl
    go_enter Tryz.func43, Tryz.ntmps43
    go_wp2
    go_ret
    exact ⟨_, rfl, ⟨rfl, .inl ⟨rfl, rfl⟩⟩, Below.refl _ _⟩
  · have Hn : Hid (l.length = n) := hn
    have Hat : Hid (SAt w g off l) := hat
    have hnil : ∀ W, (binOp .eql 29 (.slice (some ⟨g, off, none⟩) n c) (.slice none 0 0)).run Tryz.prog W = .ok (.bool false) W := fun W => by kernel_rfl
    clear hn hat
    go_enter Tryz.func43, Tryz.ntmps43
    go_wp2_with (first | (at_builtin; refine wpList_copyS rfl _ _ rfl w l g off n c Hn.out Hat.out hg rfl rfl (by omega) ?_))
    intro v2 w2 hS2 hb2
    go_wp2_with fail
    go_ret
    exact ⟨_, rfl, hS2, hb2⟩

def InO (w : World) (p : Option Addr) (m c : Nat) (l : List K2) : Prop := (p = none ∧ m = 0 ∧ c = 0 ∧ l = []) ∨ ∃ g off, p = some ⟨g, off, none⟩ ∧ g < w.heap.size ∧ OAt w g off l
theorem InO.later {w w' : World} {p : Option Addr} {m c : Nat} {l : List K2} (h : InO w p m c l) (hb : Below w.heap.size w w') : InO w' p m c l := by
  rcases h with h | ⟨g, off, h1, h2, h3⟩
  · exact .inl h
  · exact .inr ⟨g, off, h1, Nat.lt_of_lt_of_le h2 hb.size, h3.later h2 hb⟩
theorem InO.arg {w : World} {p : Option Addr} {m c : Nat} {l : List K2} (h : InO w p m c l) : ArgO w p l := by
  rcases h with ⟨_, _, _, h⟩ | h
  · exact .inl h
  · exact .inr h
theorem InO.mk {w : World} {g off m c : Nat} {l : List K2} (hg : g < w.heap.size) (h : OAt w g off l) : InO w (some ⟨g, off, none⟩) m c l := .inr ⟨g, off, rfl, hg, h⟩
theorem SlO.in {w : World} {base : Nat} {v : Value} {l : List K2} (h : SlO w base v l) : ∃ p c, v = .slice p l.length c ∧ l.length ≤ c ∧ c ≤ maxLen ∧ InO w p l.length c l := by
  rcases h.2 with ⟨h1, h2⟩ | ⟨g, cap, cur, hv, hbb, hg, h4, h5, h6, h7⟩
  · exact ⟨none, 0, by rw [h1, h2], by omega, Nat.zero_le _, .inl ⟨rfl, h2, rfl, List.eq_nil_of_length_eq_zero h2⟩⟩
  · obtain ⟨a, cap', e, ha⟩ := h.form
    rw [hv] at e
    injection e with e1 e2 e3
    subst e1
    refine ⟨_, cap, hv, h4, h5, ?_⟩
    rcases ha with ha | ⟨b, off, e4, h8, h9⟩
    · subst ha
      exact .inr ⟨g, 0, rfl, (Array.getElem?_eq_some_iff.1 hg).1, fun i x hi => by simp at hi⟩
    · exact .inr ⟨b, off, e4, h8, h9⟩
theorem wpList_copyO {ops : Array Oper} {rest : List Oper} {o : Oper} {a : Act} {Q : Exit → Act → World → Prop} (hgd : o.guard = none) (s x : Operand)
    (ho : o.op = .call { callee := .builtin .append, args := #[s, x], argTypes := #[30, 30] }) (w0 : World) (l : List K2) (g off n c : Nat) (hn : l.length = n) (hat : OAt w0 g off l) (hg : g < w0.heap.size)
    (hs : a.eval s = .slice (some ⟨w0.heap.size, 0, none⟩) 0 0) (hx : a.eval x = .slice (some ⟨g, off, none⟩) n c) (hlen : n ≤ 100)
    (h : ∀ v' w', SlO w' w0.heap.size v' l → Below w0.heap.size w0 w' → wpList Tryz.prog ops Q rest (a.put o.dst v') w') :
    wpList Tryz.prog ops Q (o :: rest) a (w0.alloc (.cells #[] 85)) := by
  obtain ⟨i0, hi, hz0, hz1, hz2⟩ := info_parts infoO
  have hown : (w0.alloc (.cells #[] 85)).ownsRow w0.heap.size 85 2 (.slice (some ⟨w0.heap.size, 0, none⟩) 0 0) 0 [] := World.ownsRow_made w0 #[] 0 (Nat.le_refl _) (by unfold maxLen; omega) rfl
  refine wpList_append_own _ hgd s x 30 ho w0.heap.size 85 i0 (.agg K2.z.v) 2 16 Tryz.underlying30 hi hz0 hz1 hz2 rfl (by decide) _ 0 _ hs hown ⟨g, off, none⟩ n c (flatO l) hx (by rw [flatO_len, hn]) ?_ (flatO_one l) (by unfold maxLen; omega) (by omega) (by rw [size_new]; omega) ?_
  · intro j y hj
    rw [add_plain', cell_old _ _ _ _ hg]
    have hjl : j < l.length * 2 := by rw [← flatO_len]; exact (List.getElem?_eq_some_iff.1 hj).1
    obtain ⟨z, hz⟩ : ∃ z, l[j / 2]? = some z := ⟨_, List.getElem?_eq_getElem (by omega)⟩
    have e := flatO_get l (j / 2) z (j % 2) hz (by omega)
    have hj2 : j / 2 * 2 + j % 2 = j := by omega
    rw [hj2, hj] at e
    have := hat (j / 2) z hz (j % 2) (by omega)
    rw [show off + j / 2 * 2 + j % 2 = off + j from by omega] at this
    rw [this, e]
  · intro v' w' h1 h2 _
    refine h v' w' ?_ (((Below.refl _ w0).alloc (Nat.le_refl _) _).grown h2 (by rw [size_new]; omega) (fun k' hk' => by cases hk'; exact Nat.le_refl _))
    unfold SlO
    rw [hn]
    simpa using h1
set_option maxRecDepth 20000 in
set_option maxHeartbeats 2000000 in
theorem cloneO_i (p : Option Addr) (c n : Nat) (l : List K2) (hn : l.length = n) (hl : n ≤ 100) (w : World) (hat : InO w p n c l) :
    Calls Tryz.prog 44 #[.slice p n c] w fun e w' => ∃ v, e = .returned v ∧ SlO w' w.heap.size v l ∧ Below w.heap.size w w' := by
  rcases hat with ⟨rfl, rfl, rfl, rfl⟩ | ⟨g, off, rfl, hg, hat⟩
  · have hnil : ∀ W, (binOp .eql 30 (.slice none 0 0) (.slice none 0 0)).run Tryz.prog W = .ok (.bool true) W := fun W => by kernel_rfl
    go_enter Tryz.func44, Tryz.ntmps44
    go_wp2
    go_ret
    exact ⟨_, rfl, ⟨rfl, .inl ⟨rfl, rfl⟩⟩, Below.refl _ _⟩
  · have Hn : Hid (l.length = n) := hn
    have Hat : Hid (OAt w g off l) := hat
    have hnil : ∀ W, (binOp .eql 30 (.slice (some ⟨g, off, none⟩) n c) (.slice none 0 0)).run Tryz.prog W = .ok (.bool false) W := fun W => by kernel_rfl
    clear hn hat
    go_enter Tryz.func44, Tryz.ntmps44
    go_wp2_with (first | (at_builtin; refine wpList_copyO rfl _ _ rfl w l g off n c Hn.out Hat.out hg rfl rfl (by omega) ?_))
    intro v2 w2 hS2 hb2
    go_wp2_with fail
    go_ret
    exact ⟨_, rfl, hS2, hb2⟩
set_option maxRecDepth 20000 in
set_option maxHeartbeats 2000000 in
theorem cloneU_i (p : Option Addr) (c n : Nat) (l : List K10) (hn : l.length = n) (hl : n ≤ 100) (w : World) (hat : InU w p n c l) :
    Calls Tryz.prog 73 #[.slice p n c] w fun e w' => ∃ v, e = .returned v ∧ SlU w' w.heap.size v l ∧ Below w.heap.size w w' := by
  rcases hat with ⟨rfl, rfl, rfl, rfl⟩ | ⟨g, off, rfl, hg, hat⟩
  · have hnil : ∀ W, (binOp .eql 24 (.slice none 0 0) (.slice none 0 0)).run Tryz.prog W = .ok (.bool true) W := fun W => by kernel_rfl
    go_enter Tryz.func73, Tryz.ntmps73
    go_wp2
    go_ret
    exact ⟨_, rfl, ⟨rfl, .inl ⟨rfl, rfl⟩⟩, Below.refl _ _⟩
  · have Hn : Hid (l.length = n) := hn
    have Hat : Hid (UAt w g off l) := hat
    have hnil : ∀ W, (binOp .eql 24 (.slice (some ⟨g, off, none⟩) n c) (.slice none 0 0)).run Tryz.prog W = .ok (.bool false) W := fun W => by kernel_rfl
    clear hn hat
    go_enter Tryz.func73, Tryz.ntmps73
    go_wp2_with (first | (at_builtin; refine wpList_copyU rfl _ _ rfl w l g off n c Hn.out Hat.out hg rfl rfl (by omega) ?_))
    intro v2 w2 hS2 hb2
    go_wp2_with fail
    go_ret
    exact ⟨_, rfl, hS2, hb2⟩
set_option maxRecDepth 20000 in
set_option maxHeartbeats 2000000 in
theorem cloneF_i (p : Option Addr) (c n : Nat) (l : List K3) (hn : l.length = n) (hl : n ≤ 100) (w : World) (hat : InF w p n c l) :
    Calls Tryz.prog 74 #[.slice p n c] w fun e w' => ∃ v, e = .returned v ∧ SlF w' w.heap.size v l ∧ Below w.heap.size w w' := by
  rcases hat with ⟨rfl, rfl, rfl, rfl⟩ | ⟨g, off, rfl, hg, hat⟩
  · have hnil : ∀ W, (binOp .eql 25 (.slice none 0 0) (.slice none 0 0)).run Tryz.prog W = .ok (.bool true) W := fun W => by kernel_rfl
    go_enter Tryz.func74, Tryz.ntmps74
    go_wp2
    go_ret
    exact ⟨_, rfl, ⟨rfl, .inl ⟨rfl, rfl⟩⟩, Below.refl _ _⟩
  · have Hn : Hid (l.length = n) := hn
    have Hat : Hid (FAt w g off l) := hat
    have hnil : ∀ W, (binOp .eql 25 (.slice (some ⟨g, off, none⟩) n c) (.slice none 0 0)).run Tryz.prog W = .ok (.bool false) W := fun W => by kernel_rfl
    clear hn hat
    go_enter Tryz.func74, Tryz.ntmps74
    go_wp2_with (first | (at_builtin; refine wpList_copyF rfl _ _ rfl w l g off n c Hn.out Hat.out hg rfl rfl (by omega) ?_))
    intro v2 w2 hS2 hb2
    go_wp2_with fail
    go_ret
    exact ⟨_, rfl, hS2, hb2⟩

/- a world whose lists may be nil -/
structure InW (w : World) (p : WP) (x : KW) : Prop where
  u : InU w p.u x.us.length p.uc x.us
  f : InF w p.f x.fs.length p.fc x.fs
  a : InA w p.a x.fa.length p.ac x.fa
  s : InS w p.s x.se.length p.sc x.se
  o : InO w p.o x.oo.length p.oc x.oo
  o1 : x.oo.length ≤ p.oc
  o2 : p.oc ≤ maxLen
theorem InW.arg {w : World} {p : WP} {x : KW} (h : InW w p x) : ArgW w p x := ⟨h.u.arg, h.f.arg, h.a.arg, h.s.arg, h.o.arg⟩
theorem InW.later {w w' : World} {p : WP} {x : KW} (h : InW w p x) (hb : Below w.heap.size w w') : InW w' p x := ⟨h.u.later hb, h.f.later hb, h.a.later hb, h.s.later hb, h.o.later hb, h.o1, h.o2⟩
end Go.Proofs.YtppgjmpdnpidnaaGreatDoor
end

/- WRes -/
/- Worlds of a call's own: what an answer's block holds, and what a store into a block of another type leaves. No condition. -/
section
namespace Go.Proofs.YtppgjmpdnpidnaaGreatDoor
open Go.ChangeShapes Go.WideShapes Go.ChangeAt Go.RowKit
set_option linter.unusedVariables false

abbrev r8 (c : Int) (p : WP) (x : KW) : Array Value := #[.int .i64 c, .int .i64 x.t, .int .i64 x.s, .slice p.u x.us.length p.uc, .slice p.f x.fs.length p.fc, .slice p.a x.fa.length p.ac, .slice p.s x.se.length p.sc, .slice p.o x.oo.length p.oc]
def wpz : WP := ⟨none, 0, none, 0, none, 0, none, 0, none, 0⟩
abbrev set8 (W : World) (g : Nat) (v0 v1 v2 v3 v4 v5 v6 v7 : Value) : World := (((((((W.setCell ⟨g, 0, none⟩ v0).setCell ⟨g, 1, none⟩ v1).setCell ⟨g, 2, none⟩ v2).setCell ⟨g, 3, none⟩ v3).setCell ⟨g, 4, none⟩ v4).setCell ⟨g, 5, none⟩ v5).setCell ⟨g, 6, none⟩ v6).setCell ⟨g, 7, none⟩ v7
/- five lists of a call's own -/
structure OwW (w : World) (base : Nat) (p : WP) (x : KW) : Prop where
  u : SlU w base (.slice p.u x.us.length p.uc) x.us
  f : SlF w base (.slice p.f x.fs.length p.fc) x.fs
  a : SlA w base (.slice p.a x.fa.length p.ac) x.fa
  s : SlS w base (.slice p.s x.se.length p.sc) x.se
  o : SlO w base (.slice p.o x.oo.length p.oc) x.oo
theorem OwW.z (w : World) (base : Nat) : OwW w base wpz kz := ⟨⟨rfl, .inl ⟨rfl, rfl⟩⟩, ⟨rfl, .inl ⟨rfl, rfl⟩⟩, ⟨rfl, .inl ⟨rfl, rfl⟩⟩, ⟨rfl, .inl ⟨rfl, rfl⟩⟩, ⟨rfl, .inl ⟨rfl, rfl⟩⟩⟩
theorem OwW.in {w : World} {base : Nat} {p : WP} {x : KW} (h : OwW w base p x) : InW w p x := by
  obtain ⟨pu, cu, e1, U⟩ := h.u.in
  obtain ⟨pf, cf, e2, F⟩ := h.f.in
  obtain ⟨pa, ca, e3, a1, a2, A⟩ := h.a.in
  obtain ⟨ps, cs, e4, s1, s2, S⟩ := h.s.in
  obtain ⟨po, co, e5, o1, o2, O⟩ := h.o.in
  injection e1 with u1 u2 u3
  injection e2 with f1 f2 f3
  injection e3 with b1 b2 b3
  injection e4 with t1 t2 t3
  injection e5 with q1 q2 q3
  exact ⟨by rw [u1, u3]; exact U, by rw [f1, f3]; exact F, by rw [b1, b3]; exact A, by rw [t1, t3]; exact S, by rw [q1, q3]; exact O, by rw [q3]; exact o1, by rw [q3]; exact o2⟩
theorem OwW.later {w w' : World} {base : Nat} {p : WP} {x : KW} (h : OwW w base p x) (hb : Below w.heap.size w w') : OwW w' base p x := ⟨h.u.below hb, h.f.below hb, h.a.below hb, h.s.below hb, h.o.below hb⟩
theorem OwW.mono {w : World} {base base' : Nat} {p : WP} {x : KW} (h : OwW w base p x) (hb : base' ≤ base) : OwW w base' p x := ⟨h.u.mono hb, h.f.mono hb, h.a.mono hb, h.s.mono hb, h.o.mono hb⟩
theorem OwW.setB {w : World} {base b : Nat} {p : WP} {x : KW} (h : OwW w base p x) {cs : Array Value} {t : TypeId} (hb : Blk w b cs t) (h1 : 75 ≠ t) (h2 : 78 ≠ t) (h3 : 61 ≠ t) (h4 : 87 ≠ t) (h5 : 85 ≠ t) (o : Nat) (v : Value) : OwW (w.setCell ⟨b, o, none⟩ v) base p x :=
  ⟨h.u.setB hb h1 v, h.f.setB hb h2 v, h.a.setB hb h3 v, h.s.setB hb h4 v, h.o.setB hb h5 v⟩
theorem OwW.of_block {w w' : World} {base g : Nat} {p : WP} {x : KW} (h : OwW w base p x) {cs : Array Value} {t : TypeId} (hb : Blk w g cs t) (h1 : 75 ≠ t) (h2 : 78 ≠ t) (h3 : 61 ≠ t) (h4 : 87 ≠ t) (h5 : 85 ≠ t) (he : ∀ q, q ≠ g → w'.heap[q]? = w.heap[q]?) : OwW w' base p x :=
  ⟨h.u.of_block (fun q hq => he q (fun e => h.u.ne hb h1 (by rw [hq, e]))), h.f.of_block (fun q hq => he q (fun e => h.f.ne hb h2 (by rw [hq, e]))), h.a.of_block (fun q hq => he q (fun e => h.a.ne hb h3 (by rw [hq, e]))), h.s.of_block (fun q hq => he q (fun e => h.s.ne hb h4 (by rw [hq, e]))), h.o.of_block (fun q hq => he q (fun e => h.o.ne hb h5 (by rw [hq, e])))⟩
/- the answer's block is filled -/
theorem set8_blk {W : World} {g : Nat} {c0 c1 c2 c3 c4 c5 c6 c7 : Value} {t : TypeId} (h : Blk W g #[c0, c1, c2, c3, c4, c5, c6, c7] t) (v0 v1 v2 v3 v4 v5 v6 v7 : Value) : Blk (set8 W g v0 v1 v2 v3 v4 v5 v6 v7) g #[v0, v1, v2, v3, v4, v5, v6, v7] t := by
  have q0 : Blk _ g #[v0, c1, c2, c3, c4, c5, c6, c7] t := h.set 0 v0
  have q1 : Blk _ g #[v0, v1, c2, c3, c4, c5, c6, c7] t := q0.set 1 v1
  have q2 : Blk _ g #[v0, v1, v2, c3, c4, c5, c6, c7] t := q1.set 2 v2
  have q3 : Blk _ g #[v0, v1, v2, v3, c4, c5, c6, c7] t := q2.set 3 v3
  have q4 : Blk _ g #[v0, v1, v2, v3, v4, c5, c6, c7] t := q3.set 4 v4
  have q5 : Blk _ g #[v0, v1, v2, v3, v4, v5, c6, c7] t := q4.set 5 v5
  have q6 : Blk _ g #[v0, v1, v2, v3, v4, v5, v6, c7] t := q5.set 6 v6
  have q7 : Blk _ g #[v0, v1, v2, v3, v4, v5, v6, v7] t := q6.set 7 v7
  exact q7
theorem set8_other {W : World} {g : Nat} (v0 v1 v2 v3 v4 v5 v6 v7 : Value) (q : Nat) (hq : q ≠ g) : (set8 W g v0 v1 v2 v3 v4 v5 v6 v7).heap[q]? = W.heap[q]? :=
  (Below.heap_setCell _ _ _ _ hq).trans ((Below.heap_setCell _ _ _ _ hq).trans ((Below.heap_setCell _ _ _ _ hq).trans ((Below.heap_setCell _ _ _ _ hq).trans ((Below.heap_setCell _ _ _ _ hq).trans ((Below.heap_setCell _ _ _ _ hq).trans ((Below.heap_setCell _ _ _ _ hq).trans (Below.heap_setCell _ _ _ _ hq)))))))
theorem set8_below {n : Nat} {w W : World} {g : Nat} (h : Below n w W) (hg : n ≤ g) (v0 v1 v2 v3 v4 v5 v6 v7 : Value) : Below n w (set8 W g v0 v1 v2 v3 v4 v5 v6 v7) :=
  bel_set (bel_set (bel_set (bel_set (bel_set (bel_set (bel_set (bel_set h g 0 hg v0) g 1 hg v1) g 2 hg v2) g 3 hg v3) g 4 hg v4) g 5 hg v5) g 6 hg v6) g 7 hg v7
theorem result8 {w : World} {p : Nat} {c : Int} {q : WP} {x : KW} {fn : Func} {k : Nat} (hf : fn.results = #[.cell k 35]) (h : Blk w p (r8 c q x) 35) (T : Array Value) (hT : T[k]?.getD undef = .pointer (some ⟨p, 0, none⟩)) :
    (results fn T).run Tryz.prog w = .ok (.agg (r8 c q x)) w := by
  have c0 := h.cell (i := 0) rfl
  have c1 := h.cell (i := 1) rfl
  have c2 := h.cell (i := 2) rfl
  have c3 := h.cell (i := 3) rfl
  have c4 := h.cell (i := 4) rfl
  have c5 := h.cell (i := 5) rfl
  have c6 := h.cell (i := 6) rfl
  have c7 := h.cell (i := 7) rfl
  simp [results, hf, go_sem, hT, c0, c1, c2, c3, c4, c5, c6, c7]
/- what a walk wants of an answer's block that is still as it was made -/
structure Z8 (w : World) (g : Nat) : Prop where
  c0 : w.cell? ⟨g, 0, none⟩ = some (.int .i64 0)
  c1 : w.cell? ⟨g, 1, none⟩ = some (.int .i64 0)
  c2 : w.cell? ⟨g, 2, none⟩ = some (.int .i64 0)
  c3 : w.cell? ⟨g, 3, none⟩ = some (.slice none 0 0)
  c4 : w.cell? ⟨g, 4, none⟩ = some (.slice none 0 0)
  c5 : w.cell? ⟨g, 5, none⟩ = some (.slice none 0 0)
  c6 : w.cell? ⟨g, 6, none⟩ = some (.slice none 0 0)
  c7 : w.cell? ⟨g, 7, none⟩ = some (.slice none 0 0)
  f0 : w.frozen? ⟨g, 0, none⟩ = false
  f1 : w.frozen? ⟨g, 1, none⟩ = false
  f2 : w.frozen? ⟨g, 2, none⟩ = false
  f3 : w.frozen? ⟨g, 3, none⟩ = false
  f4 : w.frozen? ⟨g, 4, none⟩ = false
  f5 : w.frozen? ⟨g, 5, none⟩ = false
  f6 : w.frozen? ⟨g, 6, none⟩ = false
  f7 : w.frozen? ⟨g, 7, none⟩ = false
  lt : g < w.heap.size
abbrev z8 : Array Value := #[.int .i64 0, .int .i64 0, .int .i64 0, .slice none 0 0, .slice none 0 0, .slice none 0 0, .slice none 0 0, .slice none 0 0]
theorem Blk.z8 {w : World} {g : Nat} (h : Blk w g z8 35) : Z8 w g :=
  ⟨h.cell rfl, h.cell rfl, h.cell rfl, h.cell rfl, h.cell rfl, h.cell rfl, h.cell rfl, h.cell rfl, h.frozen _, h.frozen _, h.frozen _, h.frozen _, h.frozen _, h.frozen _, h.frozen _, h.frozen _, h.lt⟩
/- a list of factions of a call's own whose block is told -/
theorem SlA.of_blk {w : World} {g : Nat} {l : List KA} {base : Nat} (h : Blk w g (flatA l).toArray 61) (hb : base ≤ g) (hl : l.length ≤ 100) : SlA w base (.slice (some ⟨g, 0, none⟩) l.length l.length) l :=
  ⟨flatA_len l, .inr ⟨g, l.length, (flatA l).toArray, rfl, hb, h, Nat.le_refl _, by unfold maxLen; omega, by simp [flatA_len], by rw [List.take_of_length_le (by simp [flatA_len])]⟩⟩
/- a store into a cell of such a list -/
theorem take_set {l : List Value} {n i : Nat} {v : Value} (h : i < n) : (l.set i v).take n = (l.take n).set i v := by
  apply List.ext_getElem?
  intro j
  rw [List.getElem?_take, List.getElem?_set, List.getElem?_set, List.getElem?_take]
  by_cases hj : j < n
  · rw [if_pos hj, if_pos hj]
    by_cases e : i = j
    · subst e
      rw [if_pos rfl, if_pos rfl, List.length_take]
      by_cases hl : i < l.length
      · rw [if_pos hl, if_pos (by omega)]
      · rw [if_neg hl, if_neg (by omega)]
    · rw [if_neg e, if_neg e]
  · rw [if_neg hj, if_neg (by omega), if_neg hj]
theorem SlA.setCell {w : World} {base g n c : Nat} {l l' : List KA} (h : SlA w base (.slice (some ⟨g, 0, none⟩) n c) l) (i : Nat) (v : Value) (hi : i < l.length * 3) (hc : (flatA l).set i v = flatA l') : SlA (w.setCell ⟨g, i, none⟩ v) base (.slice (some ⟨g, 0, none⟩) n c) l' := by
  have hl : l'.length = l.length := by
    have h1 := congrArg List.length hc
    rw [List.length_set, flatA_len, flatA_len] at h1
    omega
  obtain ⟨h1, h2 | ⟨g', cap, cur, hv, hb, hg, h4, h5, h6, h7⟩⟩ := h
  · cases h2.1
  · injection hv with e1 e2 e3
    have eg : g = g' := by have := Option.some.inj e1; injection this
    subst eg e2 e3
    refine ⟨flatA_len l', .inr ⟨g, c, cur.setIfInBounds i v, by rw [hl], hb, ?_, by rw [hl]; exact h4, h5, by simpa using h6, ?_⟩⟩
    · simp [World.setCell, Array.getElem?_modify, hg]
    · rw [hl, ← hc, ← h7]
      rw [show (cur.setIfInBounds i v).toList = cur.toList.set i v from by simp]
      exact take_set hi
theorem SlA.blk0 {w : World} {base : Nat} {p : Option Addr} {n c : Nat} {l : List KA} (h : SlA w base (.slice p n c) l) (hl : 0 < l.length) : ∃ g, p = some ⟨g, 0, none⟩ ∧ base ≤ g ∧ g < w.heap.size ∧ AAt w g 0 l ∧ n = l.length ∧ ∀ i, w.frozen? ⟨g, i, none⟩ = false := by
  obtain ⟨h1, h2 | ⟨g, cap, cur, hv, hb, hg, h4, h5, h6, h7⟩⟩ := h
  · omega
  · injection hv with e1 e2 e3
    refine ⟨g, e1, hb, (Array.getElem?_eq_some_iff.1 hg).1, ?_, e2, fun i => by simp [World.frozen?, hg]⟩
    intro i x hi f hf
    have e := flatA_get l i x f hi hf
    have hil : i < l.length := (List.getElem?_eq_some_iff.1 hi).1
    rw [← h7, List.getElem?_take, if_pos (by omega)] at e
    simp [World.cell?, hg]
    simpa using e
end Go.Proofs.YtppgjmpdnpidnaaGreatDoor
end
