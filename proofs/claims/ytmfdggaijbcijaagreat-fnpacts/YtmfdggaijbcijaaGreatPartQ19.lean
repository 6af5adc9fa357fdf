/- Texts of mine put together (a claim holds at most 60 files): WfImpl2, WfImpl3. -/
import Derived.Test.YtmfdggaijbcijaaGreatPartQ18
import Derived.Test.YtmfdggaijbcijaaGreatPartQ04

/- WfImpl2 -/
/- Contracts of the program's parts of WorldFault: seats and owners. Condition: there are four factions, and the lists lie in memory as they were laid there. -/
section
namespace Go.Proofs.YtmfdggaijbcijaaGreat
open Go.ChangeShapes Go.WideShapes Go.ChangeAt Go.RowKit
open Bd
set_option linter.unusedVariables false

theorem seR_cases (s : K4) : (inb s.c0 0 5 = false ∧ seR s = false) ∨ (inb s.c0 0 5 = true ∧ inb s.c1 0 3 = false ∧ seR s = false) ∨ (inb s.c0 0 5 = true ∧ inb s.c1 0 3 = true ∧ inb s.c2 0 2047 = false ∧ seR s = false) ∨
    (inb s.c0 0 5 = true ∧ inb s.c1 0 3 = true ∧ inb s.c2 0 2047 = true ∧ s.c3 < 0 ∧ seR s = false) ∨ (inb s.c0 0 5 = true ∧ inb s.c1 0 3 = true ∧ inb s.c2 0 2047 = true ∧ 0 ≤ s.c3 ∧ 999 < s.c3 ∧ seR s = false) ∨
    (inb s.c0 0 5 = true ∧ inb s.c1 0 3 = true ∧ inb s.c2 0 2047 = true ∧ 0 ≤ s.c3 ∧ s.c3 ≤ 999 ∧ seR s = true) := by
  unfold seR
  cases inb s.c0 0 5
  · exact .inl ⟨rfl, rfl⟩
  cases inb s.c1 0 3
  · exact .inr (.inl ⟨rfl, rfl, rfl⟩)
  cases inb s.c2 0 2047
  · exact .inr (.inr (.inl ⟨rfl, rfl, rfl, rfl⟩))
  by_cases h1 : s.c3 < 0
  · exact .inr (.inr (.inr (.inl ⟨rfl, rfl, rfl, h1, by rw [inb_f (by omega)]; rfl⟩)))
  by_cases h2 : 999 < s.c3
  · exact .inr (.inr (.inr (.inr (.inl ⟨rfl, rfl, rfl, by omega, h2, by rw [inb_f (by omega)]; rfl⟩))))
  · exact .inr (.inr (.inr (.inr (.inr ⟨rfl, rfl, rfl, by omega, by omega, by rw [inb_t (by omega) (by omega)]; rfl⟩))))
theorem side_at {fa : List KA} (h4 : fa.length = 4) {i : Int} (h0 : 0 ≤ i) (h1 : i ≤ 3) : ∃ g, fa[i.toNat]? = some g ∧ goneA fa i = g.c1 ∧ allyA fa i = g.c2 := by
  have hi : i.toNat < fa.length := by omega
  refine ⟨fa[i.toNat], List.getElem?_eq_getElem hi, ?_, ?_⟩
  · unfold goneA; rw [List.getD_eq_getElem?_getD, List.getElem?_eq_getElem hi]; rfl
  · unfold allyA; rw [List.getD_eq_getElem?_getD, List.getElem?_eq_getElem hi]; rfl
/- the four factions' place -/
theorem ArgA.four {w : World} {a : Option Addr} {fa : List KA} (h : ArgA w a fa) (h4 : fa.length = 4) : ∃ b off, a = some ⟨b, off, none⟩ ∧ b < w.heap.size ∧ AAt w b off fa :=
  h.at (i := 0) (x := fa[0]'(by omega)) (List.getElem?_eq_getElem (by omega))
set_option maxHeartbeats 8000000 in
theorem seatsFault_c (t s : Int) (u : Option Addr) (mu uc : Nat) (f : Option Addr) (mf fc : Nat) (a : Option Addr) (ac : Nat) (q : Option Addr) (ms qc : Nat) (r : Option Addr) (mo rc : Nat) (fa : List KA) (se : List K4) (h4 : fa.length = 4) (hl : se.length = ms) (hm : ms ≤ 6) (w : World) (hA : ArgA w a fa) (hS : ArgS w q se) :
    Calls Tryz.prog 53 #[.agg (wv t s u mu uc f mf fc a 4 ac q ms qc r mo rc)] w fun e w' => e = .returned (.int .i64 (seF fa none se)) ∧ Below w.heap.size w w' := by
  obtain ⟨ba, oa, rfl, hba, hat⟩ := hA.four h4
  have B0 : Below w.heap.size w (w.alloc (.cells (wv t s u mu uc f mf fc (some ⟨ba, oa, none⟩) 4 ac q ms qc r mo rc) 32)) := (Below.refl _ _).alloc (Nat.le_refl _) _
  have P0 := Bk.new w (wv t s u mu uc f mf fc (some ⟨ba, oa, none⟩) 4 ac q ms qc r mo rc) 32
  have Hat : Hid (AAt w ba oa fa) := hat
  have HS : Hid (ArgS w q se) := hS
  have Hl : Hid (se.length = ms) := hl
  have H4 : Hid (fa.length = 4) := h4
  obtain ⟨R, HR⟩ : ∃ R : Int, Hid (R = seF fa none se) := ⟨_, rfl⟩
  rw [← HR.out]
  have HR0 : Hid (R = seF fa (prevC se 0) (se.drop 0)) := HR
  clear hat hS hl h4 hA HR
  obtain ⟨W, HW⟩ : ∃ W, Hid (W = w.alloc (.cells (wv t s u mu uc f mf fc (some ⟨ba, oa, none⟩) 4 ac q ms qc r mo rc) 32)) := ⟨_, rfl⟩
  rw [← HW.out] at B0 P0
  have HP : Hid (Bk W w.heap.size (wv t s u mu uc f mf fc (some ⟨ba, oa, none⟩) 4 ac q ms qc r mo rc) 32) := P0
  have p5 := P0.cell (i := 5) rfl
  have pl := P0.lt
  go_enter Tryz.func53, Tryz.ntmps53
  go_upto_region 1 with fail
  rw [← HW.out]
  clear HW P0
  go_wp2_with fail
  go_loopw [8] (fun j wr => ∃ k : Nat, k ≤ ms ∧ j = .int .i64 k ∧ Hid (R = seF fa (prevC se k) (se.drop k)) ∧ Below W.heap.size W wr) (fun j _ => ms - (intOf j).toNat)
  case atStart => exact ⟨0, Nat.zero_le _, rfl, HR0, Below.refl _ _⟩
  case round =>
    clear p5 pl
    obtain ⟨k, hk, rfl, Hk, kbel⟩ := hrel
    have hbel := B0.trans (kbel.mono B0.size)
    by_cases hlt : k < ms
    · have hlt' : (k : Int) < (ms : Int) := by omega
      obtain ⟨x, hx⟩ : ∃ x, se[k]? = some x := ⟨_, List.getElem?_eq_getElem (by have := Hl.out; omega)⟩
      obtain ⟨b, off, rfl, hb, hat⟩ := HS.out.at hx
      obtain ⟨x0, x1, x2, x3, xl⟩ := (hat.later hb hbel).one (Nat.lt_of_lt_of_le hb hbel.size) hx
      have hS2 : Hid (R = if seR x = false then 3 else if leP (prevC se k) x.c0 = true then 1 else if goneA fa x.c1 = true then 1 else seF fa (some x.c0) (se.drop (k + 1))) := by show _ = _; rw [Hk.out, seF_step hx]
      have HN : Hid (prevC se (k + 1) = some x.c0) := prevC_next hx
      have Hx : Hid (se[k]? = some x) := hx
      have Hsat : Hid (SAt w b off se) := hat
      have q0 := fun w => isClient_w x.c0 w
      have q1 := fun w => isSide_c x.c1 w
      have q2 := fun w => isMask_c x.c2 w
      clear hx hat Hk
      rcases seR_cases x with ⟨e0, e⟩ | ⟨e0, e1, e⟩ | ⟨e0, e1, e2, e⟩ | ⟨e0, e1, e2, e3, e⟩ | ⟨e0, e1, e2, e3, e4, e⟩ | ⟨e0, e1, e2, e3, e4, e⟩
      · have HE : Hid (R = 3) := by show _ = _; rw [hS2.out, if_pos e]
        rw [e0] at q0
        go_wp2_with (first | (go_at_call 89; refine (q0 _).mono ?_; rintro e w1 ⟨rfl, hw1⟩; obtain rfl := hw1.symm) | (go_at_call 42; refine (q1 _).mono ?_; rintro e w1 ⟨rfl, hw1⟩; obtain rfl := hw1.symm) | (go_at_call 90; refine (q2 _).mono ?_; rintro e w1 ⟨rfl, hw1⟩; obtain rfl := hw1.symm))
        go_ret
        exact ⟨by rw [HE.out]; rfl, hbel.alloc hbel.size _⟩
      · have HE : Hid (R = 3) := by show _ = _; rw [hS2.out, if_pos e]
        rw [e0] at q0
        rw [e1] at q1
        go_wp2_with (first | (go_at_call 89; refine (q0 _).mono ?_; rintro e w1 ⟨rfl, hw1⟩; obtain rfl := hw1.symm) | (go_at_call 42; refine (q1 _).mono ?_; rintro e w1 ⟨rfl, hw1⟩; obtain rfl := hw1.symm) | (go_at_call 90; refine (q2 _).mono ?_; rintro e w1 ⟨rfl, hw1⟩; obtain rfl := hw1.symm))
        go_ret
        exact ⟨by rw [HE.out]; rfl, hbel.alloc hbel.size _⟩
      · have HE : Hid (R = 3) := by show _ = _; rw [hS2.out, if_pos e]
        rw [e0] at q0
        rw [e1] at q1
        rw [e2] at q2
        go_wp2_with (first | (go_at_call 89; refine (q0 _).mono ?_; rintro e w1 ⟨rfl, hw1⟩; obtain rfl := hw1.symm) | (go_at_call 42; refine (q1 _).mono ?_; rintro e w1 ⟨rfl, hw1⟩; obtain rfl := hw1.symm) | (go_at_call 90; refine (q2 _).mono ?_; rintro e w1 ⟨rfl, hw1⟩; obtain rfl := hw1.symm))
        go_ret
        exact ⟨by rw [HE.out]; rfl, hbel.alloc hbel.size _⟩
      · have HE : Hid (R = 3) := by show _ = _; rw [hS2.out, if_pos e]
        rw [e0] at q0
        rw [e1] at q1
        rw [e2] at q2
        go_wp2_with (first | (go_at_call 89; refine (q0 _).mono ?_; rintro e w1 ⟨rfl, hw1⟩; obtain rfl := hw1.symm) | (go_at_call 42; refine (q1 _).mono ?_; rintro e w1 ⟨rfl, hw1⟩; obtain rfl := hw1.symm) | (go_at_call 90; refine (q2 _).mono ?_; rintro e w1 ⟨rfl, hw1⟩; obtain rfl := hw1.symm))
        go_ret
        exact ⟨by rw [HE.out]; rfl, hbel.alloc hbel.size _⟩
      · have HE : Hid (R = 3) := by show _ = _; rw [hS2.out, if_pos e]
        rw [e0] at q0
        rw [e1] at q1
        rw [e2] at q2
        have d3 : decide (x.c3 < 0) = false := decide_eq_false (by omega)
        go_wp2_with (first | (go_at_call 89; refine (q0 _).mono ?_; rintro e w1 ⟨rfl, hw1⟩; obtain rfl := hw1.symm) | (go_at_call 42; refine (q1 _).mono ?_; rintro e w1 ⟨rfl, hw1⟩; obtain rfl := hw1.symm) | (go_at_call 90; refine (q2 _).mono ?_; rintro e w1 ⟨rfl, hw1⟩; obtain rfl := hw1.symm))
        go_ret
        exact ⟨by rw [HE.out]; rfl, hbel.alloc hbel.size _⟩
      · have d3 : decide (x.c3 < 0) = false := decide_eq_false (by omega)
        have d4 : decide (999 < x.c3) = false := decide_eq_false (by omega)
        obtain ⟨i0, i1⟩ := inb_i e1
        obtain ⟨g, hg, hgo, _⟩ := side_at H4.out i0 i1
        have hi4 : x.c1 < 4 := by omega
        have hS3 : Hid (R = if leP (prevC se k) x.c0 = true then 1 else if g.c1 = true then 1 else seF fa (some x.c0) (se.drop (k + 1))) := by show _ = _; rw [hS2.out, if_neg (by rw [e]; simp), hgo]
        rw [e0] at q0
        rw [e1] at q1
        rw [e2] at q2
        have k4 := hbel.alloc hbel.size (.cells x.v 88)
        have kk4 := kbel.alloc kbel.size (.cells x.v 88)
        obtain ⟨y0, y1, y2, yl⟩ := (Hat.out.later hba k4).one (Nat.lt_of_lt_of_le hba k4.size) hg
        have p4 := (HP.out.below kk4).cell (i := 4) rfl
        have p5 := (HP.out.below kk4).cell (i := 5) rfl
        have pl := (HP.out.below kk4).lt
        have z1 := S1.new wr x 88
        obtain ⟨z0, z1, z2, z3, zl⟩ := z1
        clear hg hgo hS2 e
        go_upto_region 6 with (first | (go_at_call 89; refine (q0 _).mono ?_; rintro e w1 ⟨rfl, hw1⟩; obtain rfl := hw1.symm) | (go_at_call 42; refine (q1 _).mono ?_; rintro e w1 ⟨rfl, hw1⟩; obtain rfl := hw1.symm) | (go_at_call 90; refine (q2 _).mono ?_; rintro e w1 ⟨rfl, hw1⟩; obtain rfl := hw1.symm))
        cases eg : g.c1
        · rw [eg] at y1
          rcases k with _ | k
          · have HE : Hid (R = seF fa (prevC se (0 + 1)) (se.drop (0 + 1))) := by show _ = _; rw [hS3.out, HN.out, eg]; rfl
            go_quiet (fail)
            go_wp2
            go_roundw
            case rel => exact ⟨0 + 1, by omega, by go_num, HE, kk4.trans ((below_drewN _ _).mono kk4.size)⟩
            case measure => simp [intOf]; omega
          · obtain ⟨y, hy⟩ : ∃ y, se[k]? = some y := ⟨_, List.getElem?_eq_getElem (by have := Hl.out; omega)⟩
            have HPv : Hid (prevC se (k + 1) = some y.c0) := prevC_next hy
            obtain ⟨v0, v1, v2, v3, vl⟩ := (Hsat.out.later hb k4).one (Nat.lt_of_lt_of_le hb k4.size) hy
            clear hy
            cases hd : decide (x.c0 ≤ y.c0)
            · have HE : Hid (R = seF fa (prevC se (k + 1 + 1)) (se.drop (k + 1 + 1))) := by show _ = _; rw [hS3.out, HN.out, HPv.out, eg, if_neg (by show ¬ decide (x.c0 ≤ y.c0) = true; rw [hd]; simp)]; rfl
              go_quiet (fail)
              go_wp2
              go_roundw
              case rel => exact ⟨k + 1 + 1, by omega, by go_num, HE, kk4.trans ((below_drewN _ _).mono kk4.size)⟩
              case measure => simp [intOf]; omega
            · have HE : Hid (R = 1) := by show _ = _; rw [hS3.out, HPv.out, if_pos (show leP (some y.c0) x.c0 = true from hd)]
              go_quiet (fail)
              go_wp2
              go_ret
              exact ⟨by rw [HE.out]; rfl, k4.trans ((below_drewN _ _).mono k4.size)⟩
        · rw [eg] at y1
          rcases k with _ | k
          · have HE : Hid (R = 1) := by show _ = _; rw [hS3.out, eg]; rfl
            go_quiet (fail)
            go_wp2
            go_ret
            exact ⟨by rw [HE.out]; rfl, k4.trans ((below_drewN _ _).mono k4.size)⟩
          · obtain ⟨y, hy⟩ : ∃ y, se[k]? = some y := ⟨_, List.getElem?_eq_getElem (by have := Hl.out; omega)⟩
            have HPv : Hid (prevC se (k + 1) = some y.c0) := prevC_next hy
            obtain ⟨v0, v1, v2, v3, vl⟩ := (Hsat.out.later hb k4).one (Nat.lt_of_lt_of_le hb k4.size) hy
            have HE : Hid (R = 1) := by show _ = _; rw [hS3.out, eg, if_pos rfl]; split <;> rfl
            clear hy
            cases hd : decide (x.c0 ≤ y.c0)
            · go_quiet (fail)
              go_wp2
              go_ret
              exact ⟨by rw [HE.out]; rfl, k4.trans ((below_drewN _ _).mono k4.size)⟩
            · go_quiet (fail)
              go_wp2
              go_ret
              exact ⟨by rw [HE.out]; rfl, k4.trans ((below_drewN _ _).mono k4.size)⟩
    · obtain rfl : ms = k := by omega
      have HE : Hid (R = 0) := by show _ = _; rw [Hk.out, List.drop_of_length_le (by have := Hl.out; omega)]; rfl
      go_wp2
      go_ret
      exact ⟨by rw [HE.out]; rfl, hbel⟩
end Go.Proofs.YtmfdggaijbcijaaGreat
end

/- WfImpl3 -/
/- Contracts of the program's parts of WorldFault: owners; is an offer among others. Condition: there are four factions, and the lists lie in memory as they were laid there. -/
section
namespace Go.Proofs.YtmfdggaijbcijaaGreat
open Go.ChangeShapes Go.WideShapes Go.ChangeAt Go.RowKit
open Bd
set_option linter.unusedVariables false

theorem uf_own {u : K10} (h : uf u = 0) : (0 ≤ u.c1 ∧ u.c1 ≤ 3) ∨ u.c1 = 9 := by
  unfold uf at h
  split at h
  · cases h
  · rename_i hh
    have e : head u.c0 u.c1 u.c2 u.c3 u.c4 u.c5 = true := by revert hh; cases head u.c0 u.c1 u.c2 u.c3 u.c4 u.c5 <;> simp
    unfold head own at e
    rw [Bool.and_eq_true, Bool.and_eq_true, Bool.or_eq_true] at e
    rcases e.2.1 with e | e
    · exact .inl (inb_i e)
    · exact .inr (by simpa using e)
set_option maxHeartbeats 8000000 in
theorem ownersFault_c (t s : Int) (u : Option Addr) (mu uc : Nat) (f : Option Addr) (mf fc : Nat) (a : Option Addr) (ac : Nat) (q : Option Addr) (ms qc : Nat) (r : Option Addr) (mo rc : Nat) (fa : List KA) (us : List K10) (h4 : fa.length = 4) (hl : us.length = mu) (hm : mu ≤ 8) (hu : ∀ x ∈ us, uf x = 0) (w : World) (hA : ArgA w a fa) (hU : ArgU w u us) :
    Calls Tryz.prog 55 #[.agg (wv t s u mu uc f mf fc a 4 ac q ms qc r mo rc)] w fun e w' => e = .returned (.int .i64 (owF fa us)) ∧ Below w.heap.size w w' := by
  obtain ⟨ba, oa, rfl, hba, hat⟩ := hA.four h4
  have B0 : Below w.heap.size w (w.alloc (.cells (wv t s u mu uc f mf fc (some ⟨ba, oa, none⟩) 4 ac q ms qc r mo rc) 32)) := (Below.refl _ _).alloc (Nat.le_refl _) _
  have P0 := Bk.new w (wv t s u mu uc f mf fc (some ⟨ba, oa, none⟩) 4 ac q ms qc r mo rc) 32
  have Hat : Hid (AAt w ba oa fa) := hat
  have HU : Hid (ArgU w u us) := hU
  have Hl : Hid (us.length = mu) := hl
  have H4 : Hid (fa.length = 4) := h4
  have Huf : Hid (∀ x ∈ us, uf x = 0) := hu
  obtain ⟨R, HR⟩ : ∃ R : Int, Hid (R = owF fa us) := ⟨_, rfl⟩
  rw [← HR.out]
  have HR0 : Hid (R = owF fa (us.drop 0)) := HR
  clear hat hU hl h4 hA HR hu
  obtain ⟨W, HW⟩ : ∃ W, Hid (W = w.alloc (.cells (wv t s u mu uc f mf fc (some ⟨ba, oa, none⟩) 4 ac q ms qc r mo rc) 32)) := ⟨_, rfl⟩
  rw [← HW.out] at B0 P0
  have HP : Hid (Bk W w.heap.size (wv t s u mu uc f mf fc (some ⟨ba, oa, none⟩) 4 ac q ms qc r mo rc) 32) := P0
  have p2 := P0.cell (i := 2) rfl
  have pl := P0.lt
  go_enter Tryz.func55, Tryz.ntmps55
  go_upto_region 1 with fail
  rw [← HW.out]
  clear HW P0
  go_wp2_with fail
  go_loopw [9] (fun j wr => ∃ k : Nat, k ≤ mu ∧ j = .int .i64 k ∧ Hid (R = owF fa (us.drop k)) ∧ Below W.heap.size W wr) (fun j _ => mu - (intOf j).toNat)
  case atStart => exact ⟨0, Nat.zero_le _, rfl, HR0, Below.refl _ _⟩
  case round =>
    clear p2 pl
    obtain ⟨k, hk, rfl, Hk, kbel⟩ := hrel
    have hbel := B0.trans (kbel.mono B0.size)
    by_cases hlt : k < mu
    · have hlt' : (k : Int) < (mu : Int) := by omega
      obtain ⟨x, hx⟩ : ∃ x, us[k]? = some x := ⟨_, List.getElem?_eq_getElem (by have := Hl.out; omega)⟩
      obtain ⟨b, off, rfl, hb, hat⟩ := HU.out.at hx
      obtain ⟨x0, x1, x2, x3, x4, x5, x6, x7, x8, x9, xl⟩ := (hat.later hb hbel).one (Nat.lt_of_lt_of_le hb hbel.size) hx
      have hS2 : Hid (R = if ((x.c1 != 9) && goneA fa x.c1) = true then 1 else owF fa (us.drop (k + 1))) := by show _ = _; rw [Hk.out, owF_step hx]
      have ho := uf_own (Huf.out x (List.mem_of_getElem? hx))
      have k4 := hbel.alloc hbel.size (.cells x.v 113)
      have kk4 := kbel.alloc kbel.size (.cells x.v 113)
      clear hx hat Hk
      cases h9 : x.c1 == 9
      · have h9' : (x.c1 != 9) = true := by simp only [bne, h9]; rfl
        have hr : 0 ≤ x.c1 ∧ x.c1 ≤ 3 := by
          rcases ho with h | h
          · exact h
          · rw [h] at h9; cases h9
        obtain ⟨i0, i1⟩ := hr
        obtain ⟨g, hg, hgo, _⟩ := side_at H4.out i0 i1
        have hi4 : x.c1 < 4 := by omega
        rw [hgo, h9'] at hS2
        obtain ⟨y0, y1, y2, yl⟩ := (Hat.out.later hba k4).one (Nat.lt_of_lt_of_le hba k4.size) hg
        have p4 := (HP.out.below kk4).cell (i := 4) rfl
        have pl := (HP.out.below kk4).lt
        clear hg hgo ho
        cases eg : g.c1
        · rw [eg] at y1 hS2
          have HE : Hid (R = owF fa (us.drop (k + 1))) := hS2
          go_wp2
          go_roundw
          case rel => exact ⟨k + 1, by omega, by go_num, HE, kk4⟩
          case measure => simp [intOf]; omega
        · rw [eg] at y1 hS2
          have HE : Hid (R = 1) := hS2
          go_wp2
          go_ret
          exact ⟨by rw [HE.out]; rfl, k4⟩
      · have h9' : (x.c1 != 9) = false := by simp only [bne, h9]; rfl
        rw [h9'] at hS2
        have HE : Hid (R = owF fa (us.drop (k + 1))) := hS2
        clear ho
        go_wp2
        go_roundw
        case rel => exact ⟨k + 1, by omega, by go_num, HE, kk4⟩
        case measure => simp [intOf]; omega
    · obtain rfl : mu = k := by omega
      have HE : Hid (R = 0) := by show _ = _; rw [Hk.out, List.drop_of_length_le (by have := Hl.out; omega)]; rfl
      go_wp2
      go_ret
      exact ⟨by rw [HE.out]; rfl, hbel⟩
set_option maxHeartbeats 1000000 in
theorem eqlO (x y : K2) (w : World) : (binOp .eql 49 (.agg x.v) (.agg y.v)).run Tryz.prog w = .ok (.bool (x.b y)) w := by
  rw [run_eql_struct, show (10000 : Nat) = 9999 + 1 from rfl, run_equalIn_agg w 9999 49 _ _ (by kernel_rfl) (by kernel_rfl)]
  simp only [Program.fieldsOf, Tryz.underlying49]
  unfold K2.b
  cases h0 : x.c0 == y.c0
  · go_simp; try rfl
  cases h1 : x.c1 == y.c1
  · go_simp; try rfl
  go_simp
  try rfl
theorem K2.b_comm (x y : K2) : x.b y = y.b x := by
  unfold K2.b
  rw [show (x.c0 == y.c0) = (y.c0 == x.c0) from by rw [Bool.eq_iff_iff]; simp; exact eq_comm, show (x.c1 == y.c1) = (y.c1 == x.c1) from by rw [Bool.eq_iff_iff]; simp; exact eq_comm]
theorem memO_step {l : List K2} {x y : K2} {k : Nat} (h : l[k]? = some y) : memO (l.drop k) x = (y.b x || memO (l.drop (k + 1)) x) := by
  have h' := List.getElem?_eq_some_iff.1 h
  rw [List.drop_eq_getElem_cons h'.1, h'.2]; rfl
/- the place of an offer, or -1 -/
def atO (b : Bool) (r : Int) : Prop := (b = true ∧ 0 ≤ r) ∨ (b = false ∧ r = -1)
set_option maxHeartbeats 4000000 in
theorem index_o (a : Option Addr) (m c : Nat) (l : List K2) (x : K2) (hl : l.length = m) (hm : m ≤ 6) (w : World) (hO : ArgO w a l) :
    Calls Tryz.prog 117 #[.slice a m c, .agg x.v] w fun e w' => ∃ r : Int, e = .returned (.int .i64 r) ∧ atO (memO l x) r ∧ Below w.heap.size w w' := by
  have B0 : Below w.heap.size w (w.alloc (.cells x.v 49)) := (Below.refl _ _).alloc (Nat.le_refl _) _
  have HX : Hid (O1 (w.alloc (.cells x.v 49)) w.heap.size 0 x) := O1.new w x _
  have HO : Hid (ArgO w a l) := hO
  have Hl : Hid (l.length = m) := hl
  obtain ⟨R, HR⟩ : ∃ R : Bool, Hid (R = memO l x) := ⟨_, rfl⟩
  rw [← HR.out]
  have HR0 : Hid (R = memO (l.drop 0) x) := HR
  clear hO hl HR
  obtain ⟨W, HW⟩ : ∃ W, Hid (W = w.alloc (.cells x.v 49)) := ⟨_, rfl⟩
  rw [← HW.out] at B0 HX
  go_enter Tryz.func117, Tryz.ntmps117
  go_upto_region 1 with fail
  rw [← HW.out]
  clear HW
  go_wp2_with fail
  go_loopw [8] (fun j wr => ∃ k : Nat, k ≤ m ∧ j = .int .i64 k ∧ Hid (R = memO (l.drop k) x) ∧ Below W.heap.size W wr) (fun j _ => m - (intOf j).toNat)
  case atStart => exact ⟨0, Nat.zero_le _, rfl, HR0, Below.refl _ _⟩
  case round =>
    obtain ⟨k, hk, rfl, Hk, kbel⟩ := hrel
    have hbel := B0.trans (kbel.mono B0.size)
    by_cases hlt : k < m
    · have hlt' : (k : Int) < (m : Int) := by omega
      obtain ⟨y, hy⟩ : ∃ y, l[k]? = some y := ⟨_, List.getElem?_eq_getElem (by have := Hl.out; omega)⟩
      obtain ⟨b, off, rfl, hb, hat⟩ := HO.out.at hy
      obtain ⟨y0, y1, yl⟩ := (hat.later hb hbel).one (Nat.lt_of_lt_of_le hb hbel.size) hy
      obtain ⟨x0, x1, xl⟩ := HX.out.later kbel
      have hS : Hid (R = (y.b x || memO (l.drop (k + 1)) x)) := by show _ = _; rw [Hk.out, memO_step hy]
      have he := (fun w => by have h := eqlO x y w; rw [K2.b_comm] at h; exact h : ∀ w, (binOp .eql 49 (.agg x.v) (.agg y.v)).run Tryz.prog w = .ok (.bool (y.b x)) w)
      clear hy hat Hk
      cases eb : y.b x
      · rw [eb] at he hS
        have HE : Hid (R = memO (l.drop (k + 1)) x) := hS
        go_wp2
        go_quiet (fail)
        go_wp2
        go_roundw
        case rel => exact ⟨k + 1, by omega, by go_num, HE, kbel.trans ((below_drewN _ _).mono kbel.size)⟩
        case measure => simp [intOf]; omega
      · rw [eb] at he hS
        have HE : Hid (R = true) := hS
        go_wp2
        go_quiet (fail)
        go_wp2
        go_ret
        exact ⟨_, rfl, .inl ⟨HE.out, by omega⟩, hbel.trans ((below_drewN _ _).mono hbel.size)⟩
    · obtain rfl : m = k := by omega
      have HE : Hid (R = false) := by show _ = _; rw [Hk.out, List.drop_of_length_le (by have := Hl.out; omega)]; rfl
      go_wp2
      go_ret
      exact ⟨_, rfl, .inr ⟨HE.out, rfl⟩, hbel⟩
set_option maxHeartbeats 4000000 in
theorem l6Offer_c (a : Option Addr) (m c : Nat) (l : List K2) (x : K2) (hl : l.length = m) (hm : m ≤ 6) (w : World) (hO : ArgO w a l) :
    Calls Tryz.prog 92 #[.slice a m c, .agg x.v] w fun e w' => ∃ r : Int, e = .returned (.int .i64 r) ∧ atO (memO l x) r ∧ Below w.heap.size w w' := by
  have B0 : Below w.heap.size w (w.alloc (.cells x.v 49)) := (Below.refl _ _).alloc (Nat.le_refl _) _
  have HX : Hid (O1 (w.alloc (.cells x.v 49)) w.heap.size 0 x) := O1.new w x _
  have HO : Hid (ArgO w a l) := hO
  have Hl : Hid (l.length = m) := hl
  obtain ⟨R, HR⟩ : ∃ R : Bool, Hid (R = memO l x) := ⟨_, rfl⟩
  rw [← HR.out]
  have HR0 : Hid (R = memO (l.drop 0) x) := HR
  clear hO hl HR
  obtain ⟨W, HW⟩ : ∃ W, Hid (W = w.alloc (.cells x.v 49)) := ⟨_, rfl⟩
  rw [← HW.out] at B0 HX
  go_enter Tryz.func92, Tryz.ntmps92
  go_upto_region 1 with fail
  rw [← HW.out]
  clear HW
  go_wp2_with fail
  go_loopw [5] (fun j wr => ∃ k : Nat, k ≤ m ∧ j = .int .i64 k ∧ Hid (R = memO (l.drop k) x) ∧ Below W.heap.size W wr) (fun j _ => m - (intOf j).toNat)
  case atStart => exact ⟨0, Nat.zero_le _, rfl, HR0, Below.refl _ _⟩
  case round =>
    obtain ⟨k, hk, rfl, Hk, kbel⟩ := hrel
    have hbel := B0.trans (kbel.mono B0.size)
    by_cases hlt : k < m
    · have hlt' : (k : Int) < (m : Int) := by omega
      obtain ⟨y, hy⟩ : ∃ y, l[k]? = some y := ⟨_, List.getElem?_eq_getElem (by have := Hl.out; omega)⟩
      obtain ⟨b, off, rfl, hb, hat⟩ := HO.out.at hy
      obtain ⟨y0, y1, yl⟩ := (hat.later hb hbel).one (Nat.lt_of_lt_of_le hb hbel.size) hy
      obtain ⟨x0, x1, xl⟩ := HX.out.later kbel
      have hS : Hid (R = (y.b x || memO (l.drop (k + 1)) x)) := by show _ = _; rw [Hk.out, memO_step hy]
      have he := fun w => eqlO y x w
      clear hy hat Hk
      cases eb : y.b x
      · rw [eb] at he hS
        have HE : Hid (R = memO (l.drop (k + 1)) x) := hS
        go_wp2
        go_quiet (fail)
        go_wp2
        go_roundw
        case rel => exact ⟨k + 1, by omega, by go_num, HE, kbel.trans ((below_drewN _ _).mono kbel.size)⟩
        case measure => simp [intOf]; omega
      · rw [eb] at he hS
        have HE : Hid (R = true) := hS
        go_wp2
        go_quiet (fail)
        go_wp2
        go_ret
        exact ⟨_, rfl, .inl ⟨HE.out, by omega⟩, hbel.trans ((below_drewN _ _).mono hbel.size)⟩
    · obtain rfl : m = k := by omega
      have HE : Hid (R = false) := by show _ = _; rw [Hk.out, List.drop_of_length_le (by have := Hl.out; omega)]; rfl
      go_wp2
      go_ret
      exact ⟨_, rfl, .inr ⟨HE.out, rfl⟩, hbel⟩
theorem contains_c (a : Option Addr) (m c : Nat) (l : List K2) (x : K2) (hl : l.length = m) (hm : m ≤ 6) (w : World) (hO : ArgO w a l) :
    Calls Tryz.prog 91 #[.slice a m c, .agg x.v] w fun e w' => e = .returned (.bool (memO l x)) ∧ Below w.heap.size w w' := by
  have B0 : Below w.heap.size w (w.alloc (.cells x.v 49)) := (Below.refl _ _).alloc (Nat.le_refl _) _
  have cI := index_o a m c l x hl hm _ (hO.later B0)
  generalize memO l x = M at cI ⊢
  go_enter Tryz.func91, Tryz.ntmps91
  go_wp2_with fail
  refine cI.mono ?_
  rintro e w1 ⟨r, rfl, hr, k1⟩
  have B1 := B0.trans (k1.mono B0.size)
  rcases hr with ⟨rfl, h⟩ | ⟨rfl, rfl⟩
  · go_wp2
    go_ret
    exact ⟨rfl, B1⟩
  · go_wp2
    go_ret
    exact ⟨rfl, B1⟩
end Go.Proofs.YtmfdggaijbcijaaGreat
end
