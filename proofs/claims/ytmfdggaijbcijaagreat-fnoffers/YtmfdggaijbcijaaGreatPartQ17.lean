/- Texts of mine put together (a claim holds at most 60 files): BrdDraws5, InRowsW, RightWalks. -/
import Derived.Test.YtmfdggaijbcijaaGreatPartQ15
import Derived.Test.YtmfdggaijbcijaaGreatPartQ10
import Derived.Test.YtmfdggaijbcijaaGreatPartQ05
import Derived.Test.YtmfdggaijbcijaaGreatPartQ02
import Derived.Laws.BitsLemmas

/- BrdDraws5 -/
/- Contracts of the draws of PutUnit, OwnedBy and UnitOf: boards in memory of their own, a unit, a number. Condition: the code has at most 1048576 bytes, which can be read. -/
section
namespace Go.Proofs.YtmfdggaijbcijaaGreat
open Go.ChangeShapes Go.WideShapes Go.ChangeAt Go.RowKit
set_option linter.unusedVariables false

theorem Dn.start {w0 w1 : World} {a : Option Addr} {len cap : Nat} (st : St w0 w1 a len cap 0) : Dn w0 w1 w1 a len cap 0 := ⟨st.src.lt, ⟨0, by omega, by omega, st⟩, grown_refl _ _⟩
theorem Blk.old {w0 w W : World} {a : Option Addr} {len cap : Nat} {n : Int} {g : Nat} {cs : Array Value} {t : TypeId} (h : Blk w0 g cs t) (d : Dn w0 w W a len cap n) : Blk W g cs t := by
  unfold Blk; rw [d.below.block g h.lt]; exact h
def PSmall (x : Int) : Prop := -100 ≤ x ∧ x ≤ 100
abbrev Z2 : Obj := .cells #[.slice none 0 0, .slice none 0 0] 27
end Go.Proofs.YtmfdggaijbcijaaGreat
end

/- InRowsW -/
/- Lists of factions, seats and offers that a slice holds, which may be nil; their copies; worlds of such lists. No condition. -/
section
namespace Go.Proofs.YtmfdggaijbcijaaGreat
open Go.ChangeShapes Go.WideShapes Go.ChangeAt Go.RowKit
set_option linter.unusedVariables false


def InA (w : World) (p : Option Addr) (m c : Nat) (l : List KA) : Prop := (p = none ∧ m = 0 ∧ c = 0 ∧ l = []) ∨ ∃ g off, p = some ⟨g, off, none⟩ ∧ g < w.heap.size ∧ AAt w g off l
theorem InA.later {w w' : World} {p : Option Addr} {m c : Nat} {l : List KA} (h : InA w p m c l) (hb : Below w.heap.size w w') : InA w' p m c l := by
  rcases h with h | ⟨g, off, h1, h2, h3⟩
  · exact .inl h
  · exact .inr ⟨g, off, h1, Nat.lt_of_lt_of_le h2 hb.size, h3.later h2 hb⟩
theorem InA.arg {w : World} {p : Option Addr} {m c : Nat} {l : List KA} (h : InA w p m c l) : ArgA w p l := by
  rcases h with ⟨_, _, _, h⟩ | h
  · exact .inl h
  · exact .inr h
theorem InA.mk {w : World} {g off m c : Nat} {l : List KA} (hg : g < w.heap.size) (h : AAt w g off l) : InA w (some ⟨g, off, none⟩) m c l := .inr ⟨g, off, rfl, hg, h⟩
theorem SlA.in {w : World} {base : Nat} {v : Value} {l : List KA} (h : SlA w base v l) : ∃ p c, v = .slice p l.length c ∧ l.length ≤ c ∧ c ≤ maxLen ∧ InA w p l.length c l := by
  rcases h.2 with ⟨h1, h2⟩ | ⟨g, cap, cur, hv, hbb, hg, h4, h5, h6, h7⟩
  · exact ⟨none, 0, by rw [h1, h2], by omega, Nat.zero_le _, .inl ⟨rfl, h2, rfl, List.eq_nil_of_length_eq_zero h2⟩⟩
  · obtain ⟨a, cap', e, ha⟩ := h.form
    rw [hv] at e
    injection e with e1 e2 e3
    subst e1
    refine ⟨_, cap, hv, h4, h5, ?_⟩
    rcases ha with ha | ⟨b, off, e4, h8, h9⟩
    · subst ha
      exact .inr ⟨g, 0, rfl, (Array.getElem?_eq_some_iff.1 hg).1, fun i x hi => by simp at hi⟩
    · exact .inr ⟨b, off, e4, h8, h9⟩
theorem wpList_copyA {ops : Array Oper} {rest : List Oper} {o : Oper} {a : Act} {Q : Exit → Act → World → Prop} (hgd : o.guard = none) (s x : Operand)
    (ho : o.op = .call { callee := .builtin .append, args := #[s, x], argTypes := #[28, 28] }) (w0 : World) (l : List KA) (g off n c : Nat) (hn : l.length = n) (hat : AAt w0 g off l) (hg : g < w0.heap.size)
    (hs : a.eval s = .slice (some ⟨w0.heap.size, 0, none⟩) 0 0) (hx : a.eval x = .slice (some ⟨g, off, none⟩) n c) (hlen : n ≤ 100)
    (h : ∀ v' w', SlA w' w0.heap.size v' l → Below w0.heap.size w0 w' → wpList Tryz.prog ops Q rest (a.put o.dst v') w') :
    wpList Tryz.prog ops Q (o :: rest) a (w0.alloc (.cells #[] 64)) := by
  obtain ⟨i0, hi, hz0, hz1, hz2⟩ := info_parts infoA
  have hown : (w0.alloc (.cells #[] 64)).ownsRow w0.heap.size 64 3 (.slice (some ⟨w0.heap.size, 0, none⟩) 0 0) 0 [] := World.ownsRow_made w0 #[] 0 (Nat.le_refl _) (by unfold maxLen; omega) rfl
  refine wpList_append_own _ hgd s x 28 ho w0.heap.size 64 i0 (.agg KA.z.v) 3 24 Tryz.underlying28 hi hz0 hz1 hz2 rfl (by decide) _ 0 _ hs hown ⟨g, off, none⟩ n c (flatA l) hx (by rw [flatA_len, hn]) ?_ (flatA_one l) (by unfold maxLen; omega) (by omega) (by rw [size_new]; omega) ?_
  · intro j y hj
    rw [add_plain', cell_old _ _ _ _ hg]
    have hjl : j < l.length * 3 := by rw [← flatA_len]; exact (List.getElem?_eq_some_iff.1 hj).1
    obtain ⟨z, hz⟩ : ∃ z, l[j / 3]? = some z := ⟨_, List.getElem?_eq_getElem (by omega)⟩
    have e := flatA_get l (j / 3) z (j % 3) hz (by omega)
    have hj2 : j / 3 * 3 + j % 3 = j := by omega
    rw [hj2, hj] at e
    have := hat (j / 3) z hz (j % 3) (by omega)
    rw [show off + j / 3 * 3 + j % 3 = off + j from by omega] at this
    rw [this, e]
  · intro v' w' h1 h2 _
    refine h v' w' ?_ (((Below.refl _ w0).alloc (Nat.le_refl _) _).grown h2 (by rw [size_new]; omega) (fun k' hk' => by cases hk'; exact Nat.le_refl _))
    unfold SlA
    rw [hn]
    simpa using h1
set_option maxRecDepth 20000 in
set_option maxHeartbeats 2000000 in
theorem cloneA_i (p : Option Addr) (c n : Nat) (l : List KA) (hn : l.length = n) (hl : n ≤ 100) (w : World) (hat : InA w p n c l) :
    Calls Tryz.prog 69 #[.slice p n c] w fun e w' => ∃ v, e = .returned v ∧ SlA w' w.heap.size v l ∧ Below w.heap.size w w' := by
  rcases hat with ⟨rfl, rfl, rfl, rfl⟩ | ⟨g, off, rfl, hg, hat⟩
  · have hnil : ∀ W, (binOp .eql 28 (.slice none 0 0) (.slice none 0 0)).run Tryz.prog W = .ok (.bool true) W := fun W => by kernel_rfl
    go_enter Tryz.func69, Tryz.ntmps69
    go_wp2
    go_ret
    exact ⟨_, rfl, ⟨rfl, .inl ⟨rfl, rfl⟩⟩, Below.refl _ _⟩
  · have Hn : Hid (l.length = n) := hn
    have Hat : Hid (AAt w g off l) := hat
    have hnil : ∀ W, (binOp .eql 28 (.slice (some ⟨g, off, none⟩) n c) (.slice none 0 0)).run Tryz.prog W = .ok (.bool false) W := fun W => by kernel_rfl
    clear hn hat
    go_enter Tryz.func69, Tryz.ntmps69
    go_wp2_with (first | (at_builtin; refine wpList_copyA rfl _ _ rfl w l g off n c Hn.out Hat.out hg rfl rfl (by omega) ?_))
    intro v2 w2 hS2 hb2
    go_wp2_with fail
    go_ret
    exact ⟨_, rfl, hS2, hb2⟩

def InS (w : World) (p : Option Addr) (m c : Nat) (l : List K4) : Prop := (p = none ∧ m = 0 ∧ c = 0 ∧ l = []) ∨ ∃ g off, p = some ⟨g, off, none⟩ ∧ g < w.heap.size ∧ SAt w g off l
theorem InS.later {w w' : World} {p : Option Addr} {m c : Nat} {l : List K4} (h : InS w p m c l) (hb : Below w.heap.size w w') : InS w' p m c l := by
  rcases h with h | ⟨g, off, h1, h2, h3⟩
  · exact .inl h
  · exact .inr ⟨g, off, h1, Nat.lt_of_lt_of_le h2 hb.size, h3.later h2 hb⟩
theorem InS.arg {w : World} {p : Option Addr} {m c : Nat} {l : List K4} (h : InS w p m c l) : ArgS w p l := by
  rcases h with ⟨_, _, _, h⟩ | h
  · exact .inl h
  · exact .inr h
theorem InS.mk {w : World} {g off m c : Nat} {l : List K4} (hg : g < w.heap.size) (h : SAt w g off l) : InS w (some ⟨g, off, none⟩) m c l := .inr ⟨g, off, rfl, hg, h⟩
theorem SlS.in {w : World} {base : Nat} {v : Value} {l : List K4} (h : SlS w base v l) : ∃ p c, v = .slice p l.length c ∧ l.length ≤ c ∧ c ≤ maxLen ∧ InS w p l.length c l := by
  rcases h.2 with ⟨h1, h2⟩ | ⟨g, cap, cur, hv, hbb, hg, h4, h5, h6, h7⟩
  · exact ⟨none, 0, by rw [h1, h2], by omega, Nat.zero_le _, .inl ⟨rfl, h2, rfl, List.eq_nil_of_length_eq_zero h2⟩⟩
  · obtain ⟨a, cap', e, ha⟩ := h.form
    rw [hv] at e
    injection e with e1 e2 e3
    subst e1
    refine ⟨_, cap, hv, h4, h5, ?_⟩
    rcases ha with ha | ⟨b, off, e4, h8, h9⟩
    · subst ha
      exact .inr ⟨g, 0, rfl, (Array.getElem?_eq_some_iff.1 hg).1, fun i x hi => by simp at hi⟩
    · exact .inr ⟨b, off, e4, h8, h9⟩
theorem wpList_copyS {ops : Array Oper} {rest : List Oper} {o : Oper} {a : Act} {Q : Exit → Act → World → Prop} (hgd : o.guard = none) (s x : Operand)
    (ho : o.op = .call { callee := .builtin .append, args := #[s, x], argTypes := #[29, 29] }) (w0 : World) (l : List K4) (g off n c : Nat) (hn : l.length = n) (hat : SAt w0 g off l) (hg : g < w0.heap.size)
    (hs : a.eval s = .slice (some ⟨w0.heap.size, 0, none⟩) 0 0) (hx : a.eval x = .slice (some ⟨g, off, none⟩) n c) (hlen : n ≤ 100)
    (h : ∀ v' w', SlS w' w0.heap.size v' l → Below w0.heap.size w0 w' → wpList Tryz.prog ops Q rest (a.put o.dst v') w') :
    wpList Tryz.prog ops Q (o :: rest) a (w0.alloc (.cells #[] 88)) := by
  obtain ⟨i0, hi, hz0, hz1, hz2⟩ := info_parts infoS
  have hown : (w0.alloc (.cells #[] 88)).ownsRow w0.heap.size 88 4 (.slice (some ⟨w0.heap.size, 0, none⟩) 0 0) 0 [] := World.ownsRow_made w0 #[] 0 (Nat.le_refl _) (by unfold maxLen; omega) rfl
  refine wpList_append_own _ hgd s x 29 ho w0.heap.size 88 i0 (.agg K4.z.v) 4 32 Tryz.underlying29 hi hz0 hz1 hz2 rfl (by decide) _ 0 _ hs hown ⟨g, off, none⟩ n c (flatS l) hx (by rw [flatS_len, hn]) ?_ (flatS_one l) (by unfold maxLen; omega) (by omega) (by rw [size_new]; omega) ?_
  · intro j y hj
    rw [add_plain', cell_old _ _ _ _ hg]
    have hjl : j < l.length * 4 := by rw [← flatS_len]; exact (List.getElem?_eq_some_iff.1 hj).1
    obtain ⟨z, hz⟩ : ∃ z, l[j / 4]? = some z := ⟨_, List.getElem?_eq_getElem (by omega)⟩
    have e := flatS_get l (j / 4) z (j % 4) hz (by omega)
    have hj2 : j / 4 * 4 + j % 4 = j := by omega
    rw [hj2, hj] at e
    have := hat (j / 4) z hz (j % 4) (by omega)
    rw [show off + j / 4 * 4 + j % 4 = off + j from by omega] at this
    rw [this, e]
  · intro v' w' h1 h2 _
    refine h v' w' ?_ (((Below.refl _ w0).alloc (Nat.le_refl _) _).grown h2 (by rw [size_new]; omega) (fun k' hk' => by cases hk'; exact Nat.le_refl _))
    unfold SlS
    rw [hn]
    simpa using h1
set_option maxRecDepth 20000 in
set_option maxHeartbeats 2000000 in
theorem cloneS_i (p : Option Addr) (c n : Nat) (l : List K4) (hn : l.length = n) (hl : n ≤ 100) (w : World) (hat : InS w p n c l) :
    Calls Tryz.prog 70 #[.slice p n c] w fun e w' => ∃ v, e = .returned v ∧ SlS w' w.heap.size v l ∧ Below w.heap.size w w' := by
  rcases hat with ⟨rfl, rfl, rfl, rfl⟩ | ⟨g, off, rfl, hg, hat⟩
  · have hnil : ∀ W, (binOp .eql 29 (.slice none 0 0) (.slice none 0 0)).run Tryz.prog W = .ok (.bool true) W := fun W => by kernel_rfl
    go_enter Tryz.func70, Tryz.ntmps70
    go_wp2
    go_ret
    exact ⟨_, rfl, ⟨rfl, .inl ⟨rfl, rfl⟩⟩, Below.refl _ _⟩
  · have Hn : Hid (l.length = n) := hn
    have Hat : Hid (SAt w g off l) := hat
    have hnil : ∀ W, (binOp .eql 29 (.slice (some ⟨g, off, none⟩) n c) (.slice none 0 0)).run Tryz.prog W = .ok (.bool false) W := fun W => by kernel_rfl
    clear hn hat
    go_enter Tryz.func70, Tryz.ntmps70
    go_wp2_with (first | (at_builtin; refine wpList_copyS rfl _ _ rfl w l g off n c Hn.out Hat.out hg rfl rfl (by omega) ?_))
    intro v2 w2 hS2 hb2
    go_wp2_with fail
    go_ret
    exact ⟨_, rfl, hS2, hb2⟩

def InO (w : World) (p : Option Addr) (m c : Nat) (l : List K2) : Prop := (p = none ∧ m = 0 ∧ c = 0 ∧ l = []) ∨ ∃ g off, p = some ⟨g, off, none⟩ ∧ g < w.heap.size ∧ OAt w g off l
theorem InO.later {w w' : World} {p : Option Addr} {m c : Nat} {l : List K2} (h : InO w p m c l) (hb : Below w.heap.size w w') : InO w' p m c l := by
  rcases h with h | ⟨g, off, h1, h2, h3⟩
  · exact .inl h
  · exact .inr ⟨g, off, h1, Nat.lt_of_lt_of_le h2 hb.size, h3.later h2 hb⟩
theorem InO.arg {w : World} {p : Option Addr} {m c : Nat} {l : List K2} (h : InO w p m c l) : ArgO w p l := by
  rcases h with ⟨_, _, _, h⟩ | h
  · exact .inl h
  · exact .inr h
theorem InO.mk {w : World} {g off m c : Nat} {l : List K2} (hg : g < w.heap.size) (h : OAt w g off l) : InO w (some ⟨g, off, none⟩) m c l := .inr ⟨g, off, rfl, hg, h⟩
theorem SlO.in {w : World} {base : Nat} {v : Value} {l : List K2} (h : SlO w base v l) : ∃ p c, v = .slice p l.length c ∧ l.length ≤ c ∧ c ≤ maxLen ∧ InO w p l.length c l := by
  rcases h.2 with ⟨h1, h2⟩ | ⟨g, cap, cur, hv, hbb, hg, h4, h5, h6, h7⟩
  · exact ⟨none, 0, by rw [h1, h2], by omega, Nat.zero_le _, .inl ⟨rfl, h2, rfl, List.eq_nil_of_length_eq_zero h2⟩⟩
  · obtain ⟨a, cap', e, ha⟩ := h.form
    rw [hv] at e
    injection e with e1 e2 e3
    subst e1
    refine ⟨_, cap, hv, h4, h5, ?_⟩
    rcases ha with ha | ⟨b, off, e4, h8, h9⟩
    · subst ha
      exact .inr ⟨g, 0, rfl, (Array.getElem?_eq_some_iff.1 hg).1, fun i x hi => by simp at hi⟩
    · exact .inr ⟨b, off, e4, h8, h9⟩
theorem wpList_copyO {ops : Array Oper} {rest : List Oper} {o : Oper} {a : Act} {Q : Exit → Act → World → Prop} (hgd : o.guard = none) (s x : Operand)
    (ho : o.op = .call { callee := .builtin .append, args := #[s, x], argTypes := #[30, 30] }) (w0 : World) (l : List K2) (g off n c : Nat) (hn : l.length = n) (hat : OAt w0 g off l) (hg : g < w0.heap.size)
    (hs : a.eval s = .slice (some ⟨w0.heap.size, 0, none⟩) 0 0) (hx : a.eval x = .slice (some ⟨g, off, none⟩) n c) (hlen : n ≤ 100)
    (h : ∀ v' w', SlO w' w0.heap.size v' l → Below w0.heap.size w0 w' → wpList Tryz.prog ops Q rest (a.put o.dst v') w') :
    wpList Tryz.prog ops Q (o :: rest) a (w0.alloc (.cells #[] 49)) := by
  obtain ⟨i0, hi, hz0, hz1, hz2⟩ := info_parts infoO
  have hown : (w0.alloc (.cells #[] 49)).ownsRow w0.heap.size 49 2 (.slice (some ⟨w0.heap.size, 0, none⟩) 0 0) 0 [] := World.ownsRow_made w0 #[] 0 (Nat.le_refl _) (by unfold maxLen; omega) rfl
  refine wpList_append_own _ hgd s x 30 ho w0.heap.size 49 i0 (.agg K2.z.v) 2 16 Tryz.underlying30 hi hz0 hz1 hz2 rfl (by decide) _ 0 _ hs hown ⟨g, off, none⟩ n c (flatO l) hx (by rw [flatO_len, hn]) ?_ (flatO_one l) (by unfold maxLen; omega) (by omega) (by rw [size_new]; omega) ?_
  · intro j y hj
    rw [add_plain', cell_old _ _ _ _ hg]
    have hjl : j < l.length * 2 := by rw [← flatO_len]; exact (List.getElem?_eq_some_iff.1 hj).1
    obtain ⟨z, hz⟩ : ∃ z, l[j / 2]? = some z := ⟨_, List.getElem?_eq_getElem (by omega)⟩
    have e := flatO_get l (j / 2) z (j % 2) hz (by omega)
    have hj2 : j / 2 * 2 + j % 2 = j := by omega
    rw [hj2, hj] at e
    have := hat (j / 2) z hz (j % 2) (by omega)
    rw [show off + j / 2 * 2 + j % 2 = off + j from by omega] at this
    rw [this, e]
  · intro v' w' h1 h2 _
    refine h v' w' ?_ (((Below.refl _ w0).alloc (Nat.le_refl _) _).grown h2 (by rw [size_new]; omega) (fun k' hk' => by cases hk'; exact Nat.le_refl _))
    unfold SlO
    rw [hn]
    simpa using h1
set_option maxRecDepth 20000 in
set_option maxHeartbeats 2000000 in
theorem cloneO_i (p : Option Addr) (c n : Nat) (l : List K2) (hn : l.length = n) (hl : n ≤ 100) (w : World) (hat : InO w p n c l) :
    Calls Tryz.prog 71 #[.slice p n c] w fun e w' => ∃ v, e = .returned v ∧ SlO w' w.heap.size v l ∧ Below w.heap.size w w' := by
  rcases hat with ⟨rfl, rfl, rfl, rfl⟩ | ⟨g, off, rfl, hg, hat⟩
  · have hnil : ∀ W, (binOp .eql 30 (.slice none 0 0) (.slice none 0 0)).run Tryz.prog W = .ok (.bool true) W := fun W => by kernel_rfl
    go_enter Tryz.func71, Tryz.ntmps71
    go_wp2
    go_ret
    exact ⟨_, rfl, ⟨rfl, .inl ⟨rfl, rfl⟩⟩, Below.refl _ _⟩
  · have Hn : Hid (l.length = n) := hn
    have Hat : Hid (OAt w g off l) := hat
    have hnil : ∀ W, (binOp .eql 30 (.slice (some ⟨g, off, none⟩) n c) (.slice none 0 0)).run Tryz.prog W = .ok (.bool false) W := fun W => by kernel_rfl
    clear hn hat
    go_enter Tryz.func71, Tryz.ntmps71
    go_wp2_with (first | (at_builtin; refine wpList_copyO rfl _ _ rfl w l g off n c Hn.out Hat.out hg rfl rfl (by omega) ?_))
    intro v2 w2 hS2 hb2
    go_wp2_with fail
    go_ret
    exact ⟨_, rfl, hS2, hb2⟩
set_option maxRecDepth 20000 in
set_option maxHeartbeats 2000000 in
theorem cloneU_i (p : Option Addr) (c n : Nat) (l : List K10) (hn : l.length = n) (hl : n ≤ 100) (w : World) (hat : InU w p n c l) :
    Calls Tryz.prog 96 #[.slice p n c] w fun e w' => ∃ v, e = .returned v ∧ SlU w' w.heap.size v l ∧ Below w.heap.size w w' := by
  rcases hat with ⟨rfl, rfl, rfl, rfl⟩ | ⟨g, off, rfl, hg, hat⟩
  · have hnil : ∀ W, (binOp .eql 24 (.slice none 0 0) (.slice none 0 0)).run Tryz.prog W = .ok (.bool true) W := fun W => by kernel_rfl
    go_enter Tryz.func96, Tryz.ntmps96
    go_wp2
    go_ret
    exact ⟨_, rfl, ⟨rfl, .inl ⟨rfl, rfl⟩⟩, Below.refl _ _⟩
  · have Hn : Hid (l.length = n) := hn
    have Hat : Hid (UAt w g off l) := hat
    have hnil : ∀ W, (binOp .eql 24 (.slice (some ⟨g, off, none⟩) n c) (.slice none 0 0)).run Tryz.prog W = .ok (.bool false) W := fun W => by kernel_rfl
    clear hn hat
    go_enter Tryz.func96, Tryz.ntmps96
    go_wp2_with (first | (at_builtin; refine wpList_copyU rfl _ _ rfl w l g off n c Hn.out Hat.out hg rfl rfl (by omega) ?_))
    intro v2 w2 hS2 hb2
    go_wp2_with fail
    go_ret
    exact ⟨_, rfl, hS2, hb2⟩
set_option maxRecDepth 20000 in
set_option maxHeartbeats 2000000 in
theorem cloneF_i (p : Option Addr) (c n : Nat) (l : List K3) (hn : l.length = n) (hl : n ≤ 100) (w : World) (hat : InF w p n c l) :
    Calls Tryz.prog 97 #[.slice p n c] w fun e w' => ∃ v, e = .returned v ∧ SlF w' w.heap.size v l ∧ Below w.heap.size w w' := by
  rcases hat with ⟨rfl, rfl, rfl, rfl⟩ | ⟨g, off, rfl, hg, hat⟩
  · have hnil : ∀ W, (binOp .eql 25 (.slice none 0 0) (.slice none 0 0)).run Tryz.prog W = .ok (.bool true) W := fun W => by kernel_rfl
    go_enter Tryz.func97, Tryz.ntmps97
    go_wp2
    go_ret
    exact ⟨_, rfl, ⟨rfl, .inl ⟨rfl, rfl⟩⟩, Below.refl _ _⟩
  · have Hn : Hid (l.length = n) := hn
    have Hat : Hid (FAt w g off l) := hat
    have hnil : ∀ W, (binOp .eql 25 (.slice (some ⟨g, off, none⟩) n c) (.slice none 0 0)).run Tryz.prog W = .ok (.bool false) W := fun W => by kernel_rfl
    clear hn hat
    go_enter Tryz.func97, Tryz.ntmps97
    go_wp2_with (first | (at_builtin; refine wpList_copyF rfl _ _ rfl w l g off n c Hn.out Hat.out hg rfl rfl (by omega) ?_))
    intro v2 w2 hS2 hb2
    go_wp2_with fail
    go_ret
    exact ⟨_, rfl, hS2, hb2⟩

/- a world whose lists may be nil -/
structure InW (w : World) (p : WP) (x : KW) : Prop where
  u : InU w p.u x.us.length p.uc x.us
  f : InF w p.f x.fs.length p.fc x.fs
  a : InA w p.a x.fa.length p.ac x.fa
  s : InS w p.s x.se.length p.sc x.se
  o : InO w p.o x.oo.length p.oc x.oo
  o1 : x.oo.length ≤ p.oc
  o2 : p.oc ≤ maxLen
theorem InW.arg {w : World} {p : WP} {x : KW} (h : InW w p x) : ArgW w p x := ⟨h.u.arg, h.f.arg, h.a.arg, h.s.arg, h.o.arg⟩
theorem InW.later {w w' : World} {p : WP} {x : KW} (h : InW w p x) (hb : Below w.heap.size w w') : InW w' p x := ⟨h.u.later hb, h.f.later hb, h.a.later hb, h.s.later hb, h.o.later hb, h.o1, h.o2⟩
end Go.Proofs.YtmfdggaijbcijaaGreat
end

/- RightWalks -/
/- Contracts of HasRight and of its model, and of their parts. No condition. -/
section
namespace Go.Proofs.YtmfdggaijbcijaaGreat
open Go.ChangeShapes Go.WideShapes Go.ChangeAt Go.RowKit
open Bd
set_option linter.unusedVariables false

/- has the mask that bit: as the program asks it, and as the model does -/
def hasI (m b : Int) : Bool := bits .and .i64 (m / 2 ^ b.toNat) 1 == 1
def hasS (m b : Int) : Bool := (m / 2 ^ b.toNat).tmod 2 == 1
theorem has_eq (m b : Int) (h0 : 0 ≤ m) (h1 : m ≤ 9223372036854775807) : hasI m b = hasS m b := by
  have hp : (0 : Int) < 2 ^ b.toNat := Int.pow_pos (by omega)
  have q0 : 0 ≤ m / 2 ^ b.toNat := Int.ediv_nonneg h0 (Int.le_of_lt hp)
  have q1 : m / 2 ^ b.toNat ≤ m := Int.ediv_le_self _ h0
  have h := bits_mask .i64 63 (by decide) (fun n h0 h1 => by rw [IntKind.wrap_i64]; omega) 1 (by decide) (m / 2 ^ b.toNat) q0 (by omega)
  have e : ((2 : Int) ^ 1 - 1) = 1 := by decide
  have e2 : ((2 : Int) ^ 1) = 2 := by decide
  rw [e, e2] at h
  unfold hasI hasS
  rw [h, Int.tmod_eq_emod_of_nonneg q0]
theorem hasBit_c (m b : Int) (h0 : 0 ≤ b) (h1 : b ≤ 62) (w : World) :
    Calls Tryz.prog 38 #[.int .i64 m, .int .i64 b] w fun e w' => e = .returned (.bool (hasI m b)) ∧ w' = w := by
  go_enter Tryz.func38, Tryz.ntmps38
  go_wp2
  go_ret
  exact ⟨rfl, rfl⟩
theorem l6Has_c (m b : Int) (h0 : 0 ≤ b) (h1 : b ≤ 62) (w : World) :
    Calls Tryz.prog 45 #[.int .i64 m, .int .i64 b] w fun e w' => e = .returned (.bool (hasS m b)) ∧ w' = w := by
  go_enter Tryz.func45, Tryz.ntmps45
  go_wp2
  go_ret
  exact ⟨rfl, rfl⟩
theorem isMask_c (v : Int) (w : World) :
    Calls Tryz.prog 90 #[.int .i64 v] w fun e w' => e = .returned (.bool (inb v 0 2047)) ∧ w' = w := by
  by_cases h1 : 0 ≤ v
  · by_cases h2 : v ≤ 2047
    · rw [inb_t h1 h2]
      go_enter Tryz.func90, Tryz.ntmps90
      go_wp2
      go_ret
      exact ⟨rfl, rfl⟩
    · rw [inb_f (by omega)]
      have d2 : decide (v ≤ 2047) = false := decide_eq_false h2
      go_enter Tryz.func90, Tryz.ntmps90
      go_wp2
      go_ret
      exact ⟨rfl, rfl⟩
  · rw [inb_f (by omega)]
    have d2 : decide (0 ≤ v) = false := decide_eq_false h1
    go_enter Tryz.func90, Tryz.ntmps90
    go_wp2
    go_ret
    exact ⟨rfl, rfl⟩
def hr (m k : Int) : Bool := inb k 1 11 && (inb m 0 2047 && hasS m (k - 1))
end Go.Proofs.YtmfdggaijbcijaaGreat
end
