/- Texts of mine put together (a claim holds at most 60 files): WfSpec4, GfPlain. -/
import Derived.Test.YtgfdfpaimlcgaaaPartS19
import Derived.Test.YtgfdfpaimlcgaaaPartS17

/- WfSpec4 -/
/- The contract of the model of WorldFault. Condition: the lists lie in memory as they were laid there; the offers' room is no more than a list can have. -/
section
namespace Go.Proofs.Ytgfdfpaimlcgaaa
open Go.ChangeShapes Go.WideShapes Go.ChangeAt Go.RowKit
open Bd
set_option linter.unusedVariables false

set_option maxRecDepth 20000 in
set_option maxHeartbeats 16000000 in
theorem l6Fault_c (p : Nat) (t s : Int) (u : Option Addr) (mu uc : Nat) (f : Option Addr) (mf fc : Nat) (a : Option Addr) (ma ac : Nat) (q : Option Addr) (ms qc : Nat) (r : Option Addr) (mo rc : Nat) (us : List K10) (fs : List K3) (fa : List KA) (se : List K4) (oo : List K2) (lu : us.length = mu) (lf : fs.length = mf) (la : fa.length = ma) (ls : se.length = ms) (lo : oo.length = mo) (hc : mo ≤ rc) (hrc : rc ≤ maxLen) (w : World)
    (hP : At7 w p t s (.slice u mu uc) (.slice f mf fc) (.slice a ma ac) (.slice q ms qc) (.slice r mo rc)) (hU : ArgU w u us) (hF : ArgF w f fs) (hA : ArgA w a fa) (hS : ArgS w q se) (hO : ArgO w r oo) :
    Calls Try.prog 32 #[.pointer (some ⟨p, 0, none⟩)] w fun e w' => e = .returned (.int .i64 (wf hasS ⟨t, s, us, fs, fa, se, oo⟩)) ∧ Below w.heap.size w w' := by
  have hcs := wf_cases hasS ⟨t, s, us, fs, fa, se, oo⟩
  dsimp only at hcs
  rw [la, ls, lo] at hcs
  generalize wf hasS ⟨t, s, us, fs, fa, se, oo⟩ = RR at hcs ⊢
  have q0 := fun w => l1In_c t 0 9999 w
  have q1 := fun w => l1In_c s 0 100000000 w
  have qB := fun W' (h : Below w.heap.size w W') => l4Fault2_c p u mu uc f mf fc us fs lu lf W' ⟨(hP.later h).c2, (hP.later h).c3, (hP.later h).lt⟩ (hU.later h) (hF.later h)
  obtain ⟨p0, p1, p2, p3, p4, p5, p6, pl⟩ := hP
  have HP : Hid (At7 w p t s (.slice u mu uc) (.slice f mf fc) (.slice a ma ac) (.slice q ms qc) (.slice r mo rc)) := ⟨p0, p1, p2, p3, p4, p5, p6, pl⟩
  rcases hcs with ⟨e0, e⟩ | ⟨e0, e1, e⟩ | ⟨e0, e1, e2, e⟩ | ⟨e0, e1, e2, e3, e⟩ | ⟨e0, e1, e2, e3, e4, e⟩ | ⟨e0, e1, e2, e3, e4, e5, e⟩ | ⟨e0, e1, e2, e3, e4, e5, e6, e⟩ | ⟨e0, e1, e2, e3, e4, e5, e6, e⟩
  · subst e
    rw [inb_f (v := t) (lo := 0) (hi := 9999) (by omega)] at q0
    go_enter Try.func32, Try.ntmps32
    go_wp2_with (first | (go_at_call 37; with_reducible refine (q0 _).mono ?_; rintro e w1 ⟨rfl, hw1⟩; obtain rfl := hw1.symm) | (go_at_call 37; with_reducible refine (q1 _).mono ?_; rintro e w1 ⟨rfl, hw1⟩; obtain rfl := hw1.symm))
    go_ret
    exact ⟨rfl, Below.refl _ _⟩
  · subst e
    rw [inb_f (v := t) (lo := 0) (hi := 9999) (by omega)] at q0
    go_enter Try.func32, Try.ntmps32
    go_wp2_with (first | (go_at_call 37; with_reducible refine (q0 _).mono ?_; rintro e w1 ⟨rfl, hw1⟩; obtain rfl := hw1.symm) | (go_at_call 37; with_reducible refine (q1 _).mono ?_; rintro e w1 ⟨rfl, hw1⟩; obtain rfl := hw1.symm))
    go_ret
    exact ⟨rfl, Below.refl _ _⟩
  · subst e
    rw [inb_t (v := t) (lo := 0) (hi := 9999) e0 e1] at q0
    rw [e2] at q1
    go_enter Try.func32, Try.ntmps32
    go_wp2_with (first | (go_at_call 37; with_reducible refine (q0 _).mono ?_; rintro e w1 ⟨rfl, hw1⟩; obtain rfl := hw1.symm) | (go_at_call 37; with_reducible refine (q1 _).mono ?_; rintro e w1 ⟨rfl, hw1⟩; obtain rfl := hw1.symm))
    go_ret
    exact ⟨rfl, Below.refl _ _⟩
  · subst e
    rw [inb_t (v := t) (lo := 0) (hi := 9999) e0 e1] at q0
    rw [e2] at q1
    generalize bf us fs = BF at e3 qB ⊢
    have n3 : (BF != 0) = true := by simp only [bne, e3]; rfl
    go_enter Try.func32, Try.ntmps32
    go_wp2_with (first | (go_at_call 37; with_reducible refine (q0 _).mono ?_; rintro e w1 ⟨rfl, hw1⟩; obtain rfl := hw1.symm) | (go_at_call 37; with_reducible refine (q1 _).mono ?_; rintro e w1 ⟨rfl, hw1⟩; obtain rfl := hw1.symm))
    refine (qB _ (Below.refl _ _)).mono ?_
    rintro e w1 ⟨rfl, k1⟩
    go_wp2
    go_ret
    exact ⟨rfl, k1⟩
  · subst e
    rw [inb_t (v := t) (lo := 0) (hi := 9999) e0 e1] at q0
    rw [e2] at q1
    rw [e3] at qB
    go_enter Try.func32, Try.ntmps32
    go_wp2_with (first | (go_at_call 37; with_reducible refine (q0 _).mono ?_; rintro e w1 ⟨rfl, hw1⟩; obtain rfl := hw1.symm) | (go_at_call 37; with_reducible refine (q1 _).mono ?_; rintro e w1 ⟨rfl, hw1⟩; obtain rfl := hw1.symm))
    refine (qB _ (Below.refl _ _)).mono ?_
    rintro e w1 ⟨rfl, k1⟩
    clear p0 p1 p2 p3 p4 p5 p6 pl
    obtain ⟨p0, p1, p2, p3, p4, p5, p6, pl⟩ := HP.out.later k1
    have n4 : ((ma : Int) != 4) = true := by simp; omega
    go_wp2
    go_ret
    exact ⟨rfl, k1⟩
  · subst e e4
    rw [inb_t (v := t) (lo := 0) (hi := 9999) e0 e1] at q0
    rw [e2] at q1
    rw [e3] at qB
    go_enter Try.func32, Try.ntmps32
    go_wp2_with (first | (go_at_call 37; with_reducible refine (q0 _).mono ?_; rintro e w1 ⟨rfl, hw1⟩; obtain rfl := hw1.symm) | (go_at_call 37; with_reducible refine (q1 _).mono ?_; rintro e w1 ⟨rfl, hw1⟩; obtain rfl := hw1.symm))
    refine (qB _ (Below.refl _ _)).mono ?_
    rintro e w1 ⟨rfl, k1⟩
    clear p0 p1 p2 p3 p4 p5 p6 pl
    obtain ⟨p0, p1, p2, p3, p4, p5, p6, pl⟩ := HP.out.later k1
    have n5 : (6 : Int) < (ms : Int) := by omega
    go_wp2
    go_ret
    exact ⟨rfl, k1⟩
  · subst e e4
    rw [inb_t (v := t) (lo := 0) (hi := 9999) e0 e1] at q0
    rw [e2] at q1
    rw [e3] at qB
    go_enter Try.func32, Try.ntmps32
    go_wp2_with (first | (go_at_call 37; with_reducible refine (q0 _).mono ?_; rintro e w1 ⟨rfl, hw1⟩; obtain rfl := hw1.symm) | (go_at_call 37; with_reducible refine (q1 _).mono ?_; rintro e w1 ⟨rfl, hw1⟩; obtain rfl := hw1.symm))
    refine (qB _ (Below.refl _ _)).mono ?_
    rintro e w1 ⟨rfl, k1⟩
    clear p0 p1 p2 p3 p4 p5 p6 pl
    obtain ⟨p0, p1, p2, p3, p4, p5, p6, pl⟩ := HP.out.later k1
    have n5 : decide ((6 : Int) < (ms : Int)) = false := decide_eq_false (by omega)
    have n6 : (6 : Int) < (mo : Int) := by omega
    go_wp2
    go_ret
    exact ⟨rfl, k1⟩
  · subst e e4
    obtain ⟨u8, _, huf, _, _⟩ := bf_ok e3
    rw [lu] at u8
    have cA := fun W' (h : Below w.heap.size w W') => l6Factions_c a ac fa la W' (hA.later h)
    have cS := fun W' (h : Below w.heap.size w W') => l6Seats_c p t s u mu uc f mf fc a ac q ms qc r mo rc fa se la ls e5 W' (HP.out.later h) (hA.later h) (hS.later h)
    have cO := fun W' (h : Below w.heap.size w W') => l6Offers_c p t s u mu uc f mf fc a ac q ms qc r mo rc fa oo la lo e6 hc hrc W' (HP.out.later h) (hA.later h) (hO.later h)
    have Huf : Hid (∀ x ∈ us, uf x = 0) := huf
    have Hl : Hid (us.length = mu) := lu
    have H4 : Hid (fa.length = 4) := la
    have HU : Hid (ArgU w u us) := hU
    obtain ⟨ba, oa, rfl, hba, hat⟩ := hA.four la
    have Hat : Hid (AAt w ba oa fa) := hat
    generalize faF hasS fa 0 fa = RA at cA ⊢
    generalize seF fa none se = RS at cS ⊢
    generalize ofF hasS fa [] oo = RO at cO ⊢
    have n4 : ((4 : Int) != 4) = false := by simp
    have n5 : decide ((6 : Int) < (ms : Int)) = false := decide_eq_false (by omega)
    have n6 : decide ((6 : Int) < (mo : Int)) = false := decide_eq_false (by omega)
    obtain ⟨R, HR⟩ : ∃ R : Int, Hid (R = or4 RA RS RO (owF fa us)) := ⟨_, rfl⟩
    rw [← HR.out]
    clear huf lu la ls lo lf hU hF hA hS hO hat
    rw [inb_t (v := t) (lo := 0) (hi := 9999) e0 e1] at q0
    rw [e2] at q1
    rw [e3] at qB
    go_enter Try.func32, Try.ntmps32
    go_wp2_with (first | (go_at_call 37; with_reducible refine (q0 _).mono ?_; rintro e w1 ⟨rfl, hw1⟩; obtain rfl := hw1.symm) | (go_at_call 37; with_reducible refine (q1 _).mono ?_; rintro e w1 ⟨rfl, hw1⟩; obtain rfl := hw1.symm))
    refine (qB _ (Below.refl _ _)).mono ?_
    rintro e w1 ⟨rfl, k1⟩
    clear p0 p1 p2 p3 p4 p5 p6 pl
    obtain ⟨p0, p1, p2, p3, p4, p5, p6, pl⟩ := HP.out.later k1
    go_wp2_with fail
    refine (cA _ k1).mono ?_
    rintro e w2 ⟨rfl, k2⟩
    have B2 := k1.trans (k2.mono k1.size)
    cases z1 : RA == 0
    · have n7 : (RA != 0) = true := by simp only [bne, z1]; rfl
      have HE : Hid (R = RA) := by show _ = _; rw [HR.out]; unfold or4; rw [z1]; rfl
      go_wp2
      go_ret
      exact ⟨by rw [HE.out]; rfl, B2⟩
    have n7 : (RA != 0) = false := by simp only [bne, z1]; rfl
    go_wp2_with fail
    refine (cS _ B2).mono ?_
    rintro e w3 ⟨rfl, k3⟩
    have B3 := B2.trans (k3.mono B2.size)
    cases z2 : RS == 0
    · have n8 : (RS != 0) = true := by simp only [bne, z2]; rfl
      have HE : Hid (R = RS) := by show _ = _; rw [HR.out]; unfold or4; rw [z1, z2]; rfl
      go_wp2
      go_ret
      exact ⟨by rw [HE.out]; rfl, B3⟩
    have n8 : (RS != 0) = false := by simp only [bne, z2]; rfl
    go_wp2_with fail
    refine (cO _ B3).mono ?_
    rintro e w4 ⟨rfl, k4⟩
    have B4 := B3.trans (k4.mono B3.size)
    cases z3 : RO == 0
    · have n9 : (RO != 0) = true := by simp only [bne, z3]; rfl
      have HE : Hid (R = RO) := by show _ = _; rw [HR.out]; unfold or4; rw [z1, z2, z3]; rfl
      go_wp2
      go_ret
      exact ⟨by rw [HE.out]; rfl, B4⟩
    have n9 : (RO != 0) = false := by simp only [bne, z3]; rfl
    have HR0 : Hid (R = owF fa (us.drop 0)) := by show _ = _; rw [HR.out]; unfold or4; rw [z1, z2, z3]; rfl
    clear HR z1 z2 z3 p0 p1 p2 p3 p4 p5 p6 pl cA cS cO qB
    go_wp2_with fail
    go_loopw [7] (fun j wr => ∃ k : Nat, k ≤ mu ∧ j = .int .i64 k ∧ Hid (R = owF fa (us.drop k)) ∧ Below w.heap.size w wr) (fun j _ => mu - (intOf j).toNat)
    case atStart => exact ⟨0, Nat.zero_le _, rfl, HR0, B4⟩
    case round =>
      obtain ⟨k, hk, rfl, Hk, hbel⟩ := hrel
      obtain ⟨p0, p1, p2, p3, p4, p5, p6, pl⟩ := HP.out.later hbel
      by_cases hlt : k < mu
      · have hlt' : (k : Int) < (mu : Int) := by omega
        obtain ⟨x, hx⟩ : ∃ x, us[k]? = some x := ⟨_, List.getElem?_eq_getElem (by have := Hl.out; omega)⟩
        obtain ⟨b, off, rfl, hb, hat⟩ := HU.out.at hx
        obtain ⟨x0, x1, x2, x3, x4, x5, x6, x7, x8, x9, xl⟩ := (hat.later hb hbel).one (Nat.lt_of_lt_of_le hb hbel.size) hx
        have hS2 : Hid (R = if ((x.c1 != 9) && goneA fa x.c1) = true then 1 else owF fa (us.drop (k + 1))) := by show _ = _; rw [Hk.out, owF_step hx]
        have ho := uf_own (Huf.out x (List.mem_of_getElem? hx))
        clear hx hat Hk
        cases h9 : x.c1 == 9
        · have h9' : (x.c1 != 9) = true := by simp only [bne, h9]; rfl
          have hr : 0 ≤ x.c1 ∧ x.c1 ≤ 3 := by
            rcases ho with h | h
            · exact h
            · rw [h] at h9; cases h9
          obtain ⟨i0, i1⟩ := hr
          obtain ⟨g, hg, hgo, _⟩ := side_at H4.out i0 i1
          have hi4 : x.c1 < 4 := by omega
          rw [hgo, h9'] at hS2
          obtain ⟨y0, y1, y2, yl⟩ := (Hat.out.later hba hbel).one (Nat.lt_of_lt_of_le hba hbel.size) hg
          clear hg hgo ho
          cases eg : g.c1
          · rw [eg] at y1 hS2
            have HE : Hid (R = owF fa (us.drop (k + 1))) := hS2
            go_wp2
            go_roundw
            case rel => exact ⟨k + 1, by omega, by go_num, HE, hbel⟩
            case measure => simp [intOf]; omega
          · rw [eg] at y1 hS2
            have HE : Hid (R = 1) := hS2
            go_wp2
            go_ret
            exact ⟨by rw [HE.out]; rfl, hbel⟩
        · have h9' : (x.c1 != 9) = false := by simp only [bne, h9]; rfl
          rw [h9'] at hS2
          have HE : Hid (R = owF fa (us.drop (k + 1))) := hS2
          clear ho
          go_wp2
          go_roundw
          case rel => exact ⟨k + 1, by omega, by go_num, HE, hbel⟩
          case measure => simp [intOf]; omega
      · obtain rfl : mu = k := by omega
        have HE : Hid (R = 0) := by show _ = _; rw [Hk.out, List.drop_of_length_le (by have := Hl.out; omega)]; rfl
        go_wp2
        go_ret
        exact ⟨by rw [HE.out]; rfl, hbel⟩
end Go.Proofs.Ytgfdfpaimlcgaaa
end

/- GfPlain -/
/- Plain facts of worlds and of what is given away: a world without a fault, part by part; a tribute and one that comes back. No condition. -/
section
namespace Go.Proofs.Ytgfdfpaimlcgaaa
open Bd
set_option linter.unusedVariables false

/- what a world without a fault is, part by part -/
structure GdW (h : Int → Int → Bool) (x : KW) : Prop where
  t : inb x.t 0 9999 = true
  s : inb x.s 0 100000000 = true
  b : bf x.us x.fs = 0
  a4 : x.fa.length = 4
  s6 : x.se.length ≤ 6
  o6 : x.oo.length ≤ 6
  a : faF h x.fa 0 x.fa = 0
  se : seF x.fa none x.se = 0
  oo : ofF h x.fa [] x.oo = 0
  ow : owF x.fa x.us = 0
theorem or4_zero {a b c d : Int} : or4 a b c d = 0 ↔ a = 0 ∧ b = 0 ∧ c = 0 ∧ d = 0 := by
  unfold or4
  constructor
  · intro h
    by_cases ha : a = 0
    · subst ha
      by_cases hb : b = 0
      · subst hb
        by_cases hc : c = 0
        · subst hc; simp at h; exact ⟨rfl, rfl, rfl, h⟩
        · simp [hc] at h
      · simp [hb] at h
    · simp [ha] at h
  · rintro ⟨rfl, rfl, rfl, rfl⟩; simp
theorem gdW_iff (h : Int → Int → Bool) (x : KW) : wf h x = 0 ↔ GdW h x := by
  constructor
  · intro e
    rcases wf_cases h x with ⟨_, e'⟩ | ⟨_, _, e'⟩ | ⟨_, _, _, e'⟩ | ⟨_, _, _, e3, e'⟩ | ⟨_, _, _, _, _, e'⟩ | ⟨_, _, _, _, _, _, e'⟩ | ⟨_, _, _, _, _, _, _, e'⟩ | ⟨t0, t1, s1, b1, a4, s6, o6, e'⟩
    · rw [e'] at e; cases e
    · rw [e'] at e; cases e
    · rw [e'] at e; cases e
    · rw [e'] at e; rw [e] at e3; cases e3
    · rw [e'] at e; cases e
    · rw [e'] at e; cases e
    · rw [e'] at e; cases e
    · rw [e'] at e
      obtain ⟨h1, h2, h3, h4⟩ := or4_zero.1 e
      exact ⟨inb_t t0 t1, s1, b1, a4, s6, o6, h1, h2, h3, h4⟩
  · rintro ⟨t, s, b, a4, s6, o6, a, se, oo, ow⟩
    unfold wf
    rw [t, s, b, if_neg (by simp), if_neg (by simp), if_neg (by omega)]
    exact or4_zero.2 ⟨a, se, oo, ow⟩
theorem faC_iff {h : Int → Int → Bool} {fa : List KA} {i : Int} {f : KA} : faC h fa i f = 0 ↔ inb f.c0 0 1000000 = true ∧ inb f.c2 0 15 = true ∧ (f.c1 = true → f.c2 = 0) ∧ alB h f.c2 i 0 fa = true := by
  unfold faC faR faG
  cases e0 : inb f.c0 0 1000000 <;> cases e2 : inb f.c2 0 15 <;> cases ea : alB h f.c2 i 0 fa <;> cases e1 : f.c1 <;> simp
  all_goals by_cases e3 : f.c2 = 0 <;> simp [e3]
theorem faF_iff {h : Int → Int → Bool} {fa : List KA} : ∀ {l : List KA} {i : Int}, faF h fa i l = 0 ↔ ∀ (j : Nat) (f : KA), l[j]? = some f → faC h fa (i + j) f = 0
  | [], i => by simp [faF]
  | a :: l, i => by
    unfold faF
    have ih := faF_iff (h := h) (fa := fa) (l := l) (i := i + 1)
    constructor
    · intro e j f hf
      have ha : faC h fa i a = 0 := by
        cases ec : faC h fa i a == 0
        · rw [ec] at e; simpa using e
        · simpa using ec
      rw [ha] at e
      have hl := ih.1 (by simpa using e)
      cases j with
      | zero =>
        have e : a = f := by simpa using hf
        subst e
        rw [show i + ((0 : Nat) : Int) = i from by omega]; exact ha
      | succ j =>
        have := hl j f (by simpa using hf)
        rw [show i + ((j + 1 : Nat) : Int) = i + 1 + (j : Int) from by omega]; exact this
    · intro H
      have ha := H 0 a rfl
      rw [show i + ((0 : Nat) : Int) = i from by omega] at ha
      rw [ha, if_neg (by simp)]
      exact ih.2 (fun j f hf => by
        have := H (j + 1) f (by simpa using hf)
        rw [show i + ((j + 1 : Nat) : Int) = i + 1 + (j : Int) from by omega] at this; exact this)
/- seats rise -/
def rsF : Option Int → List K4 → Bool
  | _, [] => true
  | p, s :: l => !(leP p s.c0) && rsF (some s.c0) l
theorem seF_iff {fa : List KA} : ∀ {l : List K4} {p : Option Int}, seF fa p l = 0 ↔ rsF p l = true ∧ ∀ s ∈ l, seR s = true ∧ goneA fa s.c1 = false
  | [], p => by simp [seF, rsF]
  | s :: l, p => by
    have ih := seF_iff (fa := fa) (l := l) (p := some s.c0)
    unfold seF rsF
    cases e1 : seR s
    · simp [e1]
    cases e2 : leP p s.c0
    · cases e3 : goneA fa s.c1
      · simp [ih, e1, e3]
      · simp [e3]
    · simp
/- no offer twice -/
def ndF : List K2 → List K2 → Bool
  | _, [] => true
  | q, x :: l => !(memO q x) && ndF (q ++ [x]) l
/- factions with the same Gone and Allies -/
def eqGA (fa fa' : List KA) : Prop := fa.length = fa'.length ∧ ∀ (j : Nat) (f f' : KA), fa[j]? = some f → fa'[j]? = some f' → f.c1 = f'.c1 ∧ f.c2 = f'.c2
theorem getD_z {fa : List KA} {i : Nat} : fa.getD i KA.z = match fa[i]? with | some f => f | none => KA.z := by
  rw [List.getD_eq_getElem?_getD]; cases fa[i]? <;> rfl
theorem eqGA.at {fa fa' : List KA} (e : eqGA fa fa') (i : Nat) : (fa.getD i KA.z).c1 = (fa'.getD i KA.z).c1 ∧ (fa.getD i KA.z).c2 = (fa'.getD i KA.z).c2 := by
  rw [getD_z, getD_z]
  by_cases hi : i < fa.length
  · have h1 : fa[i]? = some fa[i] := List.getElem?_eq_getElem hi
    have h2 : fa'[i]? = some (fa'[i]'(by rw [← e.1]; exact hi)) := List.getElem?_eq_getElem _
    rw [h1, h2]
    exact e.2 i _ _ h1 h2
  · rw [List.getElem?_eq_none (by omega), List.getElem?_eq_none (by rw [← e.1]; omega)]
    exact ⟨rfl, rfl⟩
theorem eqGA.ally {fa fa' : List KA} (e : eqGA fa fa') (i : Int) : allyA fa i = allyA fa' i := (e.at i.toNat).2
/- two sides of a right world -/
def sdF (fa : List KA) (a b : Int) : Int := if (inb a 0 3 && inb b 0 3) = false then 3 else if (a == b) = true then 1 else if (goneA fa a || goneA fa b) = true then 8 else 0
def prF (h : Int → Int → Bool) (x : KW) (a b : Int) : Int := if (wf h x == 0) = false then wf h x else sdF x.fa a b
def purA (fa : List KA) (i : Int) : Int := (fa.getD i.toNat KA.z).c0
def setP (fa : List KA) (i v : Int) : List KA := fa.set i.toNat ⟨v, (fa.getD i.toNat KA.z).c1, (fa.getD i.toNat KA.z).c2⟩
/- a tribute -/
def payC (h : Int → Int → Bool) (x : KW) (a b n : Int) : Int := if (prF h x a b == 0) = false then prF h x a b else if inb n 1 1000000 = false then 3 else if purA x.fa a < n then 10 else if 1000000 < purA x.fa b + n then 7 else 0
def payA (fa : List KA) (a b n : Int) : List KA := setP (setP fa a (purA fa a - n)) b (purA fa b + n)
def kz : KW := ⟨0, 0, [], [], [], [], []⟩
def payX (h : Int → Int → Bool) (x : KW) (a b n : Int) : KW := if (payC h x a b n == 0) = true then ⟨x.t, x.s, x.us, x.fs, payA x.fa a b n, x.se, x.oo⟩ else kz
def purS : List KA → Int
  | [] => 0
  | f :: l => f.c0 + purS l
theorem setP_len (fa : List KA) (i v : Int) : (setP fa i v).length = fa.length := by unfold setP; simp
theorem eqGA.refl (fa : List KA) : eqGA fa fa := ⟨rfl, fun j f f' h h' => by rw [h] at h'; cases h'; exact ⟨rfl, rfl⟩⟩
theorem eqGA.symm {fa fa' : List KA} (e : eqGA fa fa') : eqGA fa' fa := ⟨e.1.symm, fun j f f' h h' => ⟨(e.2 j f' f h' h).1.symm, (e.2 j f' f h' h).2.symm⟩⟩
theorem eqGA.setP {fa fa' : List KA} (e : eqGA fa fa') (i v : Int) : eqGA fa (setP fa' i v) := by
  refine ⟨by rw [setP_len]; exact e.1, fun j f f' h h' => ?_⟩
  unfold Go.Proofs.Ytgfdfpaimlcgaaa.setP at h'
  rw [List.getElem?_set] at h'
  by_cases hj : i.toNat = j
  · subst hj
    rw [if_pos rfl] at h'
    by_cases hl : i.toNat < fa'.length
    · rw [if_pos hl] at h'
      have h2 : fa'[i.toNat]? = some fa'[i.toNat] := List.getElem?_eq_getElem hl
      have := e.2 _ _ _ h h2
      cases h'
      rw [getD_z, h2]
      exact this
    · rw [if_neg hl] at h'; cases h'
  · rw [if_neg hj] at h'
    exact e.2 j f f' h h'
theorem purse_in {h : Int → Int → Bool} {x : KW} (g : GdW h x) : ∀ f ∈ x.fa, inb f.c0 0 1000000 = true := by
  intro f hf
  obtain ⟨j, hj, rfl⟩ := List.getElem_of_mem hf
  exact (faC_iff.1 (faF_iff.1 g.a j _ (List.getElem?_eq_getElem hj))).1
/- the law of tributes, in plain words -/
structure PayG (h : Int → Int → Bool) (x : KW) (a b n : Int) : Prop where
  wf0 : wf h (payX h x a b n) = 0
  sum : purS (payX h x a b n).fa = purS x.fa
  back : payC h (payX h x a b n) b a n = 0
  same : payX h (payX h x a b n) b a n = x
end Go.Proofs.Ytgfdfpaimlcgaaa
end
