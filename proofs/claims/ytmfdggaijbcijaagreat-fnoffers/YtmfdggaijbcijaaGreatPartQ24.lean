/- Texts of mine put together (a claim holds at most 60 files): WfSpec4. -/
import Derived.Test.YtmfdggaijbcijaaGreatPartQ23

/- WfSpec4 -/
/- The contract of the model of WorldFault. Condition: the lists lie in memory as they were laid there; the offers' room is no more than a list can have. -/
section
namespace Go.Proofs.YtmfdggaijbcijaaGreat
open Go.ChangeShapes Go.WideShapes Go.ChangeAt Go.RowKit
open Bd
set_option linter.unusedVariables false

set_option maxRecDepth 20000 in
set_option maxHeartbeats 16000000 in
theorem l6Fault_c (p : Nat) (t s : Int) (u : Option Addr) (mu uc : Nat) (f : Option Addr) (mf fc : Nat) (a : Option Addr) (ma ac : Nat) (q : Option Addr) (ms qc : Nat) (r : Option Addr) (mo rc : Nat) (us : List K10) (fs : List K3) (fa : List KA) (se : List K4) (oo : List K2) (lu : us.length = mu) (lf : fs.length = mf) (la : fa.length = ma) (ls : se.length = ms) (lo : oo.length = mo) (hc : mo ≤ rc) (hrc : rc ≤ maxLen) (w : World)
    (hP : At7 w p t s (.slice u mu uc) (.slice f mf fc) (.slice a ma ac) (.slice q ms qc) (.slice r mo rc)) (hU : ArgU w u us) (hF : ArgF w f fs) (hA : ArgA w a fa) (hS : ArgS w q se) (hO : ArgO w r oo) :
    Calls Tryz.prog 44 #[.pointer (some ⟨p, 0, none⟩)] w fun e w' => e = .returned (.int .i64 (wf hasS ⟨t, s, us, fs, fa, se, oo⟩)) ∧ Below w.heap.size w w' := by
  have hcs := wf_cases hasS ⟨t, s, us, fs, fa, se, oo⟩
  dsimp only at hcs
  rw [la, ls, lo] at hcs
  generalize wf hasS ⟨t, s, us, fs, fa, se, oo⟩ = RR at hcs ⊢
  have q0 := fun w => l1In_c t 0 9999 w
  have q1 := fun w => l1In_c s 0 100000000 w
  have qB := fun W' (h : Below w.heap.size w W') => l4Fault2_c p u mu uc f mf fc us fs lu lf W' ⟨(hP.later h).c2, (hP.later h).c3, (hP.later h).lt⟩ (hU.later h) (hF.later h)
  obtain ⟨p0, p1, p2, p3, p4, p5, p6, pl⟩ := hP
  have HP : Hid (At7 w p t s (.slice u mu uc) (.slice f mf fc) (.slice a ma ac) (.slice q ms qc) (.slice r mo rc)) := ⟨p0, p1, p2, p3, p4, p5, p6, pl⟩
  rcases hcs with ⟨e0, e⟩ | ⟨e0, e1, e⟩ | ⟨e0, e1, e2, e⟩ | ⟨e0, e1, e2, e3, e⟩ | ⟨e0, e1, e2, e3, e4, e⟩ | ⟨e0, e1, e2, e3, e4, e5, e⟩ | ⟨e0, e1, e2, e3, e4, e5, e6, e⟩ | ⟨e0, e1, e2, e3, e4, e5, e6, e⟩
  · subst e
    rw [inb_f (v := t) (lo := 0) (hi := 9999) (by omega)] at q0
    go_enter Tryz.func44, Tryz.ntmps44
    go_wp2_with (first | (go_at_call 78; with_reducible refine (q0 _).mono ?_; rintro e w1 ⟨rfl, hw1⟩; obtain rfl := hw1.symm) | (go_at_call 78; with_reducible refine (q1 _).mono ?_; rintro e w1 ⟨rfl, hw1⟩; obtain rfl := hw1.symm))
    go_ret
    exact ⟨rfl, Below.refl _ _⟩
  · subst e
    rw [inb_f (v := t) (lo := 0) (hi := 9999) (by omega)] at q0
    go_enter Tryz.func44, Tryz.ntmps44
    go_wp2_with (first | (go_at_call 78; with_reducible refine (q0 _).mono ?_; rintro e w1 ⟨rfl, hw1⟩; obtain rfl := hw1.symm) | (go_at_call 78; with_reducible refine (q1 _).mono ?_; rintro e w1 ⟨rfl, hw1⟩; obtain rfl := hw1.symm))
    go_ret
    exact ⟨rfl, Below.refl _ _⟩
  · subst e
    rw [inb_t (v := t) (lo := 0) (hi := 9999) e0 e1] at q0
    rw [e2] at q1
    go_enter Tryz.func44, Tryz.ntmps44
    go_wp2_with (first | (go_at_call 78; with_reducible refine (q0 _).mono ?_; rintro e w1 ⟨rfl, hw1⟩; obtain rfl := hw1.symm) | (go_at_call 78; with_reducible refine (q1 _).mono ?_; rintro e w1 ⟨rfl, hw1⟩; obtain rfl := hw1.symm))
    go_ret
    exact ⟨rfl, Below.refl _ _⟩
  · subst e
    rw [inb_t (v := t) (lo := 0) (hi := 9999) e0 e1] at q0
    rw [e2] at q1
    generalize bf us fs = BF at e3 qB ⊢
    have n3 : (BF != 0) = true := by simp only [bne, e3]; rfl
    go_enter Tryz.func44, Tryz.ntmps44
    go_wp2_with (first | (go_at_call 78; with_reducible refine (q0 _).mono ?_; rintro e w1 ⟨rfl, hw1⟩; obtain rfl := hw1.symm) | (go_at_call 78; with_reducible refine (q1 _).mono ?_; rintro e w1 ⟨rfl, hw1⟩; obtain rfl := hw1.symm))
    refine (qB _ (Below.refl _ _)).mono ?_
    rintro e w1 ⟨rfl, k1⟩
    go_wp2
    go_ret
    exact ⟨rfl, k1⟩
  · subst e
    rw [inb_t (v := t) (lo := 0) (hi := 9999) e0 e1] at q0
    rw [e2] at q1
    rw [e3] at qB
    go_enter Tryz.func44, Tryz.ntmps44
    go_wp2_with (first | (go_at_call 78; with_reducible refine (q0 _).mono ?_; rintro e w1 ⟨rfl, hw1⟩; obtain rfl := hw1.symm) | (go_at_call 78; with_reducible refine (q1 _).mono ?_; rintro e w1 ⟨rfl, hw1⟩; obtain rfl := hw1.symm))
    refine (qB _ (Below.refl _ _)).mono ?_
    rintro e w1 ⟨rfl, k1⟩
    clear p0 p1 p2 p3 p4 p5 p6 pl
    obtain ⟨p0, p1, p2, p3, p4, p5, p6, pl⟩ := HP.out.later k1
    have n4 : ((ma : Int) != 4) = true := by simp; omega
    go_wp2
    go_ret
    exact ⟨rfl, k1⟩
  · subst e e4
    rw [inb_t (v := t) (lo := 0) (hi := 9999) e0 e1] at q0
    rw [e2] at q1
    rw [e3] at qB
    go_enter Tryz.func44, Tryz.ntmps44
    go_wp2_with (first | (go_at_call 78; with_reducible refine (q0 _).mono ?_; rintro e w1 ⟨rfl, hw1⟩; obtain rfl := hw1.symm) | (go_at_call 78; with_reducible refine (q1 _).mono ?_; rintro e w1 ⟨rfl, hw1⟩; obtain rfl := hw1.symm))
    refine (qB _ (Below.refl _ _)).mono ?_
    rintro e w1 ⟨rfl, k1⟩
    clear p0 p1 p2 p3 p4 p5 p6 pl
    obtain ⟨p0, p1, p2, p3, p4, p5, p6, pl⟩ := HP.out.later k1
    have n5 : (6 : Int) < (ms : Int) := by omega
    go_wp2
    go_ret
    exact ⟨rfl, k1⟩
  · subst e e4
    rw [inb_t (v := t) (lo := 0) (hi := 9999) e0 e1] at q0
    rw [e2] at q1
    rw [e3] at qB
    go_enter Tryz.func44, Tryz.ntmps44
    go_wp2_with (first | (go_at_call 78; with_reducible refine (q0 _).mono ?_; rintro e w1 ⟨rfl, hw1⟩; obtain rfl := hw1.symm) | (go_at_call 78; with_reducible refine (q1 _).mono ?_; rintro e w1 ⟨rfl, hw1⟩; obtain rfl := hw1.symm))
    refine (qB _ (Below.refl _ _)).mono ?_
    rintro e w1 ⟨rfl, k1⟩
    clear p0 p1 p2 p3 p4 p5 p6 pl
    obtain ⟨p0, p1, p2, p3, p4, p5, p6, pl⟩ := HP.out.later k1
    have n5 : decide ((6 : Int) < (ms : Int)) = false := decide_eq_false (by omega)
    have n6 : (6 : Int) < (mo : Int) := by omega
    go_wp2
    go_ret
    exact ⟨rfl, k1⟩
  · subst e e4
    obtain ⟨u8, _, huf, _, _⟩ := bf_ok e3
    rw [lu] at u8
    have cA := fun W' (h : Below w.heap.size w W') => l6Factions_c a ac fa la W' (hA.later h)
    have cS := fun W' (h : Below w.heap.size w W') => l6Seats_c p t s u mu uc f mf fc a ac q ms qc r mo rc fa se la ls e5 W' (HP.out.later h) (hA.later h) (hS.later h)
    have cO := fun W' (h : Below w.heap.size w W') => l6Offers_c p t s u mu uc f mf fc a ac q ms qc r mo rc fa oo la lo e6 hc hrc W' (HP.out.later h) (hA.later h) (hO.later h)
    have Huf : Hid (∀ x ∈ us, uf x = 0) := huf
    have Hl : Hid (us.length = mu) := lu
    have H4 : Hid (fa.length = 4) := la
    have HU : Hid (ArgU w u us) := hU
    obtain ⟨ba, oa, rfl, hba, hat⟩ := hA.four la
    have Hat : Hid (AAt w ba oa fa) := hat
    generalize faF hasS fa 0 fa = RA at cA ⊢
    generalize seF fa none se = RS at cS ⊢
    generalize ofF hasS fa [] oo = RO at cO ⊢
    have n4 : ((4 : Int) != 4) = false := by simp
    have n5 : decide ((6 : Int) < (ms : Int)) = false := decide_eq_false (by omega)
    have n6 : decide ((6 : Int) < (mo : Int)) = false := decide_eq_false (by omega)
    obtain ⟨R, HR⟩ : ∃ R : Int, Hid (R = or4 RA RS RO (owF fa us)) := ⟨_, rfl⟩
    rw [← HR.out]
    clear huf lu la ls lo lf hU hF hA hS hO hat
    rw [inb_t (v := t) (lo := 0) (hi := 9999) e0 e1] at q0
    rw [e2] at q1
    rw [e3] at qB
    go_enter Tryz.func44, Tryz.ntmps44
    go_wp2_with (first | (go_at_call 78; with_reducible refine (q0 _).mono ?_; rintro e w1 ⟨rfl, hw1⟩; obtain rfl := hw1.symm) | (go_at_call 78; with_reducible refine (q1 _).mono ?_; rintro e w1 ⟨rfl, hw1⟩; obtain rfl := hw1.symm))
    refine (qB _ (Below.refl _ _)).mono ?_
    rintro e w1 ⟨rfl, k1⟩
    clear p0 p1 p2 p3 p4 p5 p6 pl
    obtain ⟨p0, p1, p2, p3, p4, p5, p6, pl⟩ := HP.out.later k1
    go_wp2_with fail
    refine (cA _ k1).mono ?_
    rintro e w2 ⟨rfl, k2⟩
    have B2 := k1.trans (k2.mono k1.size)
    cases z1 : RA == 0
    · have n7 : (RA != 0) = true := by simp only [bne, z1]; rfl
      have HE : Hid (R = RA) := by show _ = _; rw [HR.out]; unfold or4; rw [z1]; rfl
      go_wp2
      go_ret
      exact ⟨by rw [HE.out]; rfl, B2⟩
    have n7 : (RA != 0) = false := by simp only [bne, z1]; rfl
    go_wp2_with fail
    refine (cS _ B2).mono ?_
    rintro e w3 ⟨rfl, k3⟩
    have B3 := B2.trans (k3.mono B2.size)
    cases z2 : RS == 0
    · have n8 : (RS != 0) = true := by simp only [bne, z2]; rfl
      have HE : Hid (R = RS) := by show _ = _; rw [HR.out]; unfold or4; rw [z1, z2]; rfl
      go_wp2
      go_ret
      exact ⟨by rw [HE.out]; rfl, B3⟩
    have n8 : (RS != 0) = false := by simp only [bne, z2]; rfl
    go_wp2_with fail
    refine (cO _ B3).mono ?_
    rintro e w4 ⟨rfl, k4⟩
    have B4 := B3.trans (k4.mono B3.size)
    cases z3 : RO == 0
    · have n9 : (RO != 0) = true := by simp only [bne, z3]; rfl
      have HE : Hid (R = RO) := by show _ = _; rw [HR.out]; unfold or4; rw [z1, z2, z3]; rfl
      go_wp2
      go_ret
      exact ⟨by rw [HE.out]; rfl, B4⟩
    have n9 : (RO != 0) = false := by simp only [bne, z3]; rfl
    have HR0 : Hid (R = owF fa (us.drop 0)) := by show _ = _; rw [HR.out]; unfold or4; rw [z1, z2, z3]; rfl
    clear HR z1 z2 z3 p0 p1 p2 p3 p4 p5 p6 pl cA cS cO qB
    go_wp2_with fail
    go_loopw [7] (fun j wr => ∃ k : Nat, k ≤ mu ∧ j = .int .i64 k ∧ Hid (R = owF fa (us.drop k)) ∧ Below w.heap.size w wr) (fun j _ => mu - (intOf j).toNat)
    case atStart => exact ⟨0, Nat.zero_le _, rfl, HR0, B4⟩
    case round =>
      obtain ⟨k, hk, rfl, Hk, hbel⟩ := hrel
      obtain ⟨p0, p1, p2, p3, p4, p5, p6, pl⟩ := HP.out.later hbel
      by_cases hlt : k < mu
      · have hlt' : (k : Int) < (mu : Int) := by omega
        obtain ⟨x, hx⟩ : ∃ x, us[k]? = some x := ⟨_, List.getElem?_eq_getElem (by have := Hl.out; omega)⟩
        obtain ⟨b, off, rfl, hb, hat⟩ := HU.out.at hx
        obtain ⟨x0, x1, x2, x3, x4, x5, x6, x7, x8, x9, xl⟩ := (hat.later hb hbel).one (Nat.lt_of_lt_of_le hb hbel.size) hx
        have hS2 : Hid (R = if ((x.c1 != 9) && goneA fa x.c1) = true then 1 else owF fa (us.drop (k + 1))) := by show _ = _; rw [Hk.out, owF_step hx]
        have ho := uf_own (Huf.out x (List.mem_of_getElem? hx))
        clear hx hat Hk
        cases h9 : x.c1 == 9
        · have h9' : (x.c1 != 9) = true := by simp only [bne, h9]; rfl
          have hr : 0 ≤ x.c1 ∧ x.c1 ≤ 3 := by
            rcases ho with h | h
            · exact h
            · rw [h] at h9; cases h9
          obtain ⟨i0, i1⟩ := hr
          obtain ⟨g, hg, hgo, _⟩ := side_at H4.out i0 i1
          have hi4 : x.c1 < 4 := by omega
          rw [hgo, h9'] at hS2
          obtain ⟨y0, y1, y2, yl⟩ := (Hat.out.later hba hbel).one (Nat.lt_of_lt_of_le hba hbel.size) hg
          clear hg hgo ho
          cases eg : g.c1
          · rw [eg] at y1 hS2
            have HE : Hid (R = owF fa (us.drop (k + 1))) := hS2
            go_wp2
            go_roundw
            case rel => exact ⟨k + 1, by omega, by go_num, HE, hbel⟩
            case measure => simp [intOf]; omega
          · rw [eg] at y1 hS2
            have HE : Hid (R = 1) := hS2
            go_wp2
            go_ret
            exact ⟨by rw [HE.out]; rfl, hbel⟩
        · have h9' : (x.c1 != 9) = false := by simp only [bne, h9]; rfl
          rw [h9'] at hS2
          have HE : Hid (R = owF fa (us.drop (k + 1))) := hS2
          clear ho
          go_wp2
          go_roundw
          case rel => exact ⟨k + 1, by omega, by go_num, HE, hbel⟩
          case measure => simp [intOf]; omega
      · obtain rfl : mu = k := by omega
        have HE : Hid (R = 0) := by show _ = _; rw [Hk.out, List.drop_of_length_le (by have := Hl.out; omega)]; rfl
        go_wp2
        go_ret
        exact ⟨by rw [HE.out]; rfl, hbel⟩
/- both are without a fault at the same worlds -/
theorem alB_same {m i : Int} (hm : inb m 0 15 = true) : ∀ {k : Int} {l : List KA}, (∀ g ∈ l, inb g.c2 0 15 = true) → alB hasI m i k l = alB hasS m i k l
  | _, [], _ => rfl
  | k, g :: l, h => by
    unfold alB
    rw [has_same hm, has_same (h g (by simp)), alB_same hm (fun x hx => h x (List.mem_cons_of_mem _ hx))]
theorem faC_zero {h : Int → Int → Bool} {fa : List KA} {i : Int} {f : KA} (e : faC h fa i f = 0) : inb f.c2 0 15 = true := by
  unfold faC faR at e
  cases e2 : inb f.c2 0 15
  · rw [e2] at e
    simp at e
  · rfl
theorem faF_zero {h : Int → Int → Bool} {fa : List KA} : ∀ {l : List KA} {i : Int}, faF h fa i l = 0 → ∀ f ∈ l, inb f.c2 0 15 = true
  | [], _, _, f, hf => by cases hf
  | a :: l, i, e, f, hf => by
    unfold faF at e
    cases ec : faC h fa i a == 0
    · rw [ec] at e
      simp at e
      rw [e] at ec
      cases ec
    · rw [ec] at e
      have ec' : faC h fa i a = 0 := by simpa using ec
      rcases List.mem_cons.1 hf with rfl | hf
      · exact faC_zero ec'
      · exact faF_zero (by simpa using e) f hf
theorem faF_same {fa : List KA} (hfa : ∀ f ∈ fa, inb f.c2 0 15 = true) : ∀ {l : List KA} {i : Int}, (∀ f ∈ l, inb f.c2 0 15 = true) → faF hasI fa i l = faF hasS fa i l
  | [], _, _ => rfl
  | a :: l, i, h => by
    have e : faC hasI fa i a = faC hasS fa i a := by unfold faC; rw [alB_same (h a (by simp)) hfa]
    unfold faF
    rw [e, faF_same hfa (fun x hx => h x (List.mem_cons_of_mem _ hx))]
theorem allyA_in {fa : List KA} (hfa : ∀ f ∈ fa, inb f.c2 0 15 = true) (i : Int) : inb (allyA fa i) 0 15 = true := by
  unfold allyA
  rw [List.getD_eq_getElem?_getD]
  cases hh : fa[i.toNat]? with
  | none => rfl
  | some g => exact hfa g (List.mem_of_getElem? hh)
theorem ofF_same {fa : List KA} (hfa : ∀ f ∈ fa, inb f.c2 0 15 = true) : ∀ {l q : List K2}, ofF hasI fa q l = ofF hasS fa q l
  | [], _ => rfl
  | x :: l, q => by
    have e : ofB hasI fa q x = ofB hasS fa q x := by unfold ofB; rw [has_same (allyA_in hfa x.c0)]
    unfold ofF
    rw [e, ofF_same hfa]
theorem wf_same {x : KW} (hfa : ∀ f ∈ x.fa, inb f.c2 0 15 = true) : wf hasI x = wf hasS x := by
  unfold wf
  rw [faF_same hfa hfa, ofF_same hfa]
theorem wf_in {h : Int → Int → Bool} {x : KW} (e : wf h x = 0) : ∀ f ∈ x.fa, inb f.c2 0 15 = true := by
  rcases wf_cases h x with ⟨_, e'⟩ | ⟨_, _, e'⟩ | ⟨_, _, _, e'⟩ | ⟨_, _, _, e3, e'⟩ | ⟨_, _, _, _, _, e'⟩ | ⟨_, _, _, _, _, _, e'⟩ | ⟨_, _, _, _, _, _, _, e'⟩ | ⟨_, _, _, _, _, _, _, e'⟩
  · rw [e'] at e; cases e
  · rw [e'] at e; cases e
  · rw [e'] at e; cases e
  · rw [e'] at e; rw [e] at e3; cases e3
  · rw [e'] at e; cases e
  · rw [e'] at e; cases e
  · rw [e'] at e; cases e
  · rw [e'] at e
    have h0 : faF h x.fa 0 x.fa = 0 := by
      unfold or4 at e
      cases ec : faF h x.fa 0 x.fa == 0
      · rw [ec] at e
        simpa using e
      · simpa using ec
    exact faF_zero h0
theorem wf_zero (x : KW) : (wf hasI x == 0) = (wf hasS x == 0) := by
  cases h1 : wf hasI x == 0
  · cases h2 : wf hasS x == 0
    · rfl
    · have e : wf hasS x = 0 := by simpa using h2
      rw [wf_same (wf_in e), h2] at h1
      cases h1
  · have e : wf hasI x = 0 := by simpa using h1
    rw [← wf_same (wf_in e), h1]
end Go.Proofs.YtmfdggaijbcijaaGreat
end
