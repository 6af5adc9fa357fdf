/- Texts of mine put together (a claim holds at most 60 files): WfImpl4. -/
import Derived.Test.YtmfdggaijbcijaaGreatPartQ19
import Derived.Deep.RegionHeld3
import Derived.Deep.Cut
import Derived.Deep.CutRange

/- WfImpl4 -/
/- Contracts of the program's parts of WorldFault: offers. Condition: there are four factions, and the lists lie in memory as they were laid there. -/
section
namespace Go.Proofs.YtmfdggaijbcijaaGreat
open Go.ChangeShapes Go.WideShapes Go.ChangeAt Go.RowKit
open Bd
set_option linter.unusedVariables false

theorem OAt.take {w : World} {b off k : Nat} {l : List K2} (h : OAt w b off l) : OAt w b off (l.take k) := fun i x hi f hf => by
  rw [List.getElem?_take] at hi
  split at hi
  · exact h i x hi f hf
  · cases hi
theorem two_bk (w : World) (x y : Array Value) (T : TypeId) : Bk ((w.alloc (.cells x T)).alloc (.cells y T)).drew w.heap.size x T ∧ Bk ((w.alloc (.cells x T)).alloc (.cells y T)).drew (w.heap.size + 1) y T ∧ Below w.heap.size w ((w.alloc (.cells x T)).alloc (.cells y T)).drew :=
  ⟨(Bk.new w x T).alloc _, by have h := Bk.new (w.alloc (.cells x T)) y T; rw [size_new] at h; exact h, (((Below.refl _ _).alloc (Nat.le_refl _) _).alloc (by rw [size_new]; omega) _).drew⟩
set_option maxHeartbeats 16000000 in
theorem offersFault_c (t s : Int) (u : Option Addr) (mu uc : Nat) (f : Option Addr) (mf fc : Nat) (a : Option Addr) (ac : Nat) (q : Option Addr) (ms qc : Nat) (r : Option Addr) (mo rc : Nat) (fa : List KA) (oo : List K2) (h4 : fa.length = 4) (hl : oo.length = mo) (hm : mo ≤ 6) (hc : mo ≤ rc) (hrc : rc ≤ maxLen) (w : World) (hA : ArgA w a fa) (hO : ArgO w r oo) :
    Calls Tryz.prog 54 #[.agg (wv t s u mu uc f mf fc a 4 ac q ms qc r mo rc)] w fun e w' => e = .returned (.int .i64 (ofF hasI fa [] oo)) ∧ Below w.heap.size w w' := by
  obtain ⟨ba, oa, rfl, hba, hat⟩ := hA.four h4
  have B0 : Below w.heap.size w (w.alloc (.cells (wv t s u mu uc f mf fc (some ⟨ba, oa, none⟩) 4 ac q ms qc r mo rc) 32)) := (Below.refl _ _).alloc (Nat.le_refl _) _
  have P0 := Bk.new w (wv t s u mu uc f mf fc (some ⟨ba, oa, none⟩) 4 ac q ms qc r mo rc) 32
  have Hat : Hid (AAt w ba oa fa) := hat
  have HO : Hid (ArgO w r oo) := hO
  have Hl : Hid (oo.length = mo) := hl
  have H4 : Hid (fa.length = 4) := h4
  obtain ⟨R, HR⟩ : ∃ R : Int, Hid (R = ofF hasI fa [] oo) := ⟨_, rfl⟩
  rw [← HR.out]
  have HR0 : Hid (R = ofF hasI fa (oo.take 0) (oo.drop 0)) := HR
  unfold maxLen at hrc
  clear hat hO hl h4 hA HR
  obtain ⟨W, HW⟩ : ∃ W, Hid (W = w.alloc (.cells (wv t s u mu uc f mf fc (some ⟨ba, oa, none⟩) 4 ac q ms qc r mo rc) 32)) := ⟨_, rfl⟩
  rw [← HW.out] at B0 P0
  have HP : Hid (Bk W w.heap.size (wv t s u mu uc f mf fc (some ⟨ba, oa, none⟩) 4 ac q ms qc r mo rc) 32) := P0
  have p6 := P0.cell (i := 6) rfl
  have pl := P0.lt
  go_enter Tryz.func54, Tryz.ntmps54
  go_upto_region 1 with fail
  rw [← HW.out]
  clear HW P0
  go_wp2_with fail
  go_loopw [10] (fun j wr => ∃ k : Nat, k ≤ mo ∧ j = .int .i64 k ∧ Hid (R = ofF hasI fa (oo.take k) (oo.drop k)) ∧ Below W.heap.size W wr) (fun j _ => mo - (intOf j).toNat)
  case atStart => exact ⟨0, Nat.zero_le _, rfl, HR0, Below.refl _ _⟩
  case round =>
    clear p6 pl
    obtain ⟨k, hk, rfl, Hk, kbel⟩ := hrel
    have hbel := B0.trans (kbel.mono B0.size)
    by_cases hlt : k < mo
    · have hlt' : (k : Int) < (mo : Int) := by omega
      have Hlt : Hid (k < mo) := hlt
      obtain ⟨x, hx⟩ : ∃ x, oo[k]? = some x := ⟨_, List.getElem?_eq_getElem (by have := Hl.out; omega)⟩
      obtain ⟨b, off, rfl, hb, hat⟩ := HO.out.at hx
      obtain ⟨x0, x1, xl⟩ := (hat.later hb hbel).one (Nat.lt_of_lt_of_le hb hbel.size) hx
      have hS2 : Hid (R = if ofR x = false then 3 else if ofB hasI fa (oo.take k) x = true then 1 else ofF hasI fa (oo.take (k + 1)) (oo.drop (k + 1))) := by show _ = _; rw [Hk.out, ofF_step hx]
      have q0 := fun w => isSide_c x.c0 w
      have q1 := fun w => isSide_c x.c1 w
      have k4 := hbel.alloc hbel.size (.cells x.v 49)
      have kk4 := kbel.alloc kbel.size (.cells x.v 49)
      have HZ : Hid (O1 (wr.alloc (.cells x.v 49)) wr.heap.size 0 x) := O1.new wr x _
      have Hoat : Hid (OAt w b off oo) := hat
      clear hx hat Hk
      cases e0 : inb x.c0 0 3
      · rw [e0] at q0
        have HE : Hid (R = 3) := by show _ = _; rw [hS2.out, if_pos (by unfold ofR; rw [e0]; rfl)]
        go_wp2_with (first | (go_at_call 42; with_reducible refine (q0 _).mono ?_; rintro e w1 ⟨rfl, hw1⟩; obtain rfl := hw1.symm) | (go_at_call 42; with_reducible refine (q1 _).mono ?_; rintro e w1 ⟨rfl, hw1⟩; obtain rfl := hw1.symm))
        go_ret
        exact ⟨by rw [HE.out]; rfl, k4⟩
      cases e1 : inb x.c1 0 3
      · rw [e0] at q0
        rw [e1] at q1
        have HE : Hid (R = 3) := by show _ = _; rw [hS2.out, if_pos (by unfold ofR; rw [e0, e1]; rfl)]
        go_wp2_with (first | (go_at_call 42; with_reducible refine (q0 _).mono ?_; rintro e w1 ⟨rfl, hw1⟩; obtain rfl := hw1.symm) | (go_at_call 42; with_reducible refine (q1 _).mono ?_; rintro e w1 ⟨rfl, hw1⟩; obtain rfl := hw1.symm))
        go_ret
        exact ⟨by rw [HE.out]; rfl, k4⟩
      have hS3 : Hid (R = if ofB hasI fa (oo.take k) x = true then 1 else ofF hasI fa (oo.take (k + 1)) (oo.drop (k + 1))) := by show _ = _; rw [hS2.out, if_neg (by unfold ofR; rw [e0, e1]; simp)]
      obtain ⟨i0, i1⟩ := inb_i e0
      obtain ⟨j0, j1⟩ := inb_i e1
      obtain ⟨g, hg, hgo, hga⟩ := side_at H4.out i0 i1
      obtain ⟨h, hh, hho, hha⟩ := side_at H4.out j0 j1
      have hi4 : x.c0 < 4 := by omega
      have hj4 : x.c1 < 4 := by omega
      rw [e0] at q0
      rw [e1] at q1
      unfold ofB at hS3
      rw [hga, hgo, hho] at hS3
      obtain ⟨W4, HW4⟩ : ∃ W4, Hid (W4 = wr.alloc (.cells x.v 49)) := ⟨_, rfl⟩
      rw [← HW4.out] at k4 kk4 HZ
      obtain ⟨y0, y1, y2, yl⟩ := (Hat.out.later hba k4).one (Nat.lt_of_lt_of_le hba k4.size) hg
      obtain ⟨v0, v1, v2, vl⟩ := (Hat.out.later hba k4).one (Nat.lt_of_lt_of_le hba k4.size) hh
      have p4 := (HP.out.below kk4).cell (i := 4) rfl
      have pl := (HP.out.below kk4).lt
      obtain ⟨z0, z1', zl⟩ := HZ.out
      have z1 : W4.cell? ⟨wr.heap.size, 1, none⟩ = some (.int .i64 x.c1) := z1'
      clear z1'
      clear hg hgo hga hh hho hha hS2
      go_upto_region 6 with (first | (go_at_call 42; with_reducible refine (q0 _).mono ?_; rintro e w1 ⟨rfl, hw1⟩; obtain rfl := hw1.symm) | (go_at_call 42; with_reducible refine (q1 _).mono ?_; rintro e w1 ⟨rfl, hw1⟩; obtain rfl := hw1.symm))
      rw [← HW4.out]
      go_cut [5, 6] from 25 to 36 (fun s5 s6 wx => ∃ g5 g6, s5 = .pointer (some ⟨g5, 0, none⟩) ∧ s6 = .pointer (some ⟨g6, 0, none⟩) ∧ Bk wx g5 g.v 64 ∧ Bk wx g6 h.v 64 ∧ Below W4.heap.size W4 wx)
      case first =>
        go_region_held3 (fun w' => w'.cell? ⟨w.heap.size, 4, none⟩ = some (.slice (some ⟨ba, oa, none⟩) 4 ac) ∧ w'.cell? ⟨wr.heap.size, 0, none⟩ = some (.int .i64 x.c0) ∧ w'.cell? ⟨wr.heap.size, 1, none⟩ = some (.int .i64 x.c1) ∧ w'.cell? ⟨ba, oa + x.c0.toNat * 3, none⟩ = some (.int .i64 g.c0) ∧ w'.cell? ⟨ba, oa + x.c0.toNat * 3 + 1, none⟩ = some (.bool g.c1) ∧ w'.cell? ⟨ba, oa + x.c0.toNat * 3 + 2, none⟩ = some (.int .i64 g.c2) ∧ w'.cell? ⟨ba, oa + x.c1.toNat * 3, none⟩ = some (.int .i64 h.c0) ∧ w'.cell? ⟨ba, oa + x.c1.toNat * 3 + 1, none⟩ = some (.bool h.c1) ∧ w'.cell? ⟨ba, oa + x.c1.toNat * 3 + 2, none⟩ = some (.int .i64 h.c2)) (go_keep) (fail)
        all_goals
          go_wp2_with fail
          go_meet
          case rel => first | exact ⟨_, _, rfl, rfl, (two_bk W4 g.v h.v 64).1, (two_bk W4 g.v h.v 64).2.1, (two_bk W4 g.v h.v 64).2.2⟩ | exact ⟨_, _, rfl, rfl, (two_bk W4 h.v g.v 64).2.1, (two_bk W4 h.v g.v 64).1, (two_bk W4 h.v g.v 64).2.2⟩
      case rest =>
        obtain ⟨g5, g6, rfl, rfl, K5, K6, kx⟩ := hcut
        obtain ⟨wx, hwx⟩ : ∃ y : World, y = wc := ⟨_, rfl⟩
        subst hwx
        have kW := k4.trans (kx.mono k4.size)
        have kk5 := kk4.trans (kx.mono kk4.size)
        obtain ⟨z0, z1', zl⟩ := HZ.out.later kx
        have z1 : wx.cell? ⟨wr.heap.size, 1, none⟩ = some (.int .i64 x.c1) := z1'
        clear z1'
        have a1 := K5.cell (i := 1) rfl
        have a2 := K5.cell (i := 2) rfl
        have al := K5.lt
        have b1 := K6.cell (i := 1) rfl
        have bl := K6.lt
        have qB := fun w => hasBit_c g.c2 x.c1 (by omega) (by omega) w
        clear y0 y1 y2 yl v0 v1 v2 vl p4 pl
        cases d1 : x.c0 == x.c1
        · rw [d1] at hS3
          cases d2 : hasI g.c2 x.c1
          · rw [d2] at qB hS3
            cases d3 : g.c1
            · rw [d3] at hS3
              replace a1 : wx.cell? ⟨g5, 1, none⟩ = some (.bool false) := by rw [← d3]; exact a1
              cases d4 : h.c1
              · rw [d4] at hS3
                replace b1 : wx.cell? ⟨g6, 1, none⟩ = some (.bool false) := by rw [← d4]; exact b1
                have hS4 : Hid (R = if memO (oo.take k) x = true then 1 else ofF hasI fa (oo.take (k + 1)) (oo.drop (k + 1))) := hS3
                have cC := fun W' (h : Below wx.heap.size wx W') => contains_c (some ⟨b, off, none⟩) k rc (oo.take k) x (by rw [List.length_take]; have := Hl.out; have := Hlt.out; omega) (by have := Hlt.out; omega) W' (.inr ⟨b, off, rfl, Nat.lt_of_lt_of_le hb (kW.trans (h.mono kW.size)).size, (Hoat.out.later hb (kW.trans (h.mono kW.size))).take⟩)
                generalize memO (oo.take k) x = M at cC hS4
                have p6 := (HP.out.below kk5).cell (i := 6) rfl
                have pl := (HP.out.below kk5).lt
                have hkc : (k : Int) ≤ (rc : Int) := by have := Hlt.out; omega
                have hk0 : (0 : Int) ≤ (k : Int) := by omega
                have Bc : Below wx.heap.size wx wx.drew := (Below.refl _ _).drew
                clear hS3
                go_upto_region 9 with (go_at_call 38; refine (qB _).mono ?_; rintro e w1 ⟨rfl, hw1⟩; obtain rfl := hw1.symm)
                go_region_held3 (fun w' => w'.cell? ⟨w.heap.size, 6, none⟩ = some (.slice (some ⟨b, off, none⟩) mo rc) ∧ w'.cell? ⟨wr.heap.size, 0, none⟩ = some (.int .i64 x.c0) ∧ w'.cell? ⟨wr.heap.size, 1, none⟩ = some (.int .i64 x.c1)) (go_keep) (first
                  | (go_at_call 91; refine (cC _ Bc).mono ?_; rintro e wn ⟨rfl, kn⟩; have Bc := Bc.trans (kn.mono Bc.size); have p6 := (HP.out.below (kk5.trans (Bc.mono kk5.size))).cell (i := 6) rfl; obtain ⟨z0, z1', zl⟩ := HZ.out.later (kx.trans (Bc.mono kx.size)); have z1 : wn.cell? ⟨wr.heap.size, 1, none⟩ = some (.int .i64 x.c1) := z1'))
                all_goals
                  cases M
                  · have HE : Hid (R = ofF hasI fa (oo.take (k + 1)) (oo.drop (k + 1))) := hS4
                    go_wp2_with fail
                    go_roundw
                    case rel => exact ⟨k + 1, by have := Hlt.out; omega, by go_num, HE, kk5.trans (Bc.mono kk5.size)⟩
                    case measure => have := Hlt.out; simp [intOf]; omega
                  · have HE : Hid (R = 1) := hS4
                    go_wp2_with fail
                    go_ret
                    exact ⟨by rw [HE.out]; rfl, kW.trans (Bc.mono kW.size)⟩
              · rw [d4] at hS3
                replace b1 : wx.cell? ⟨g6, 1, none⟩ = some (.bool true) := by rw [← d4]; exact b1
                have HE : Hid (R = 1) := hS3
                go_wp2_with (go_at_call 38; refine (qB _).mono ?_; rintro e w1 ⟨rfl, hw1⟩; obtain rfl := hw1.symm)
                go_ret
                exact ⟨by rw [HE.out]; rfl, kW⟩
            · rw [d3] at hS3
              replace a1 : wx.cell? ⟨g5, 1, none⟩ = some (.bool true) := by rw [← d3]; exact a1
              have HE : Hid (R = 1) := hS3
              go_wp2_with (go_at_call 38; refine (qB _).mono ?_; rintro e w1 ⟨rfl, hw1⟩; obtain rfl := hw1.symm)
              go_ret
              exact ⟨by rw [HE.out]; rfl, kW⟩
          · rw [d2] at qB hS3
            have HE : Hid (R = 1) := hS3
            go_wp2_with (go_at_call 38; refine (qB _).mono ?_; rintro e w1 ⟨rfl, hw1⟩; obtain rfl := hw1.symm)
            go_ret
            exact ⟨by rw [HE.out]; rfl, kW⟩
        · rw [d1] at hS3
          have HE : Hid (R = 1) := hS3
          go_wp2_with (go_at_call 38; refine (qB _).mono ?_; rintro e w1 ⟨rfl, hw1⟩; obtain rfl := hw1.symm)
          go_ret
          exact ⟨by rw [HE.out]; rfl, kW⟩
    · obtain rfl : mo = k := by omega
      have HE : Hid (R = 0) := by show _ = _; rw [Hk.out, List.drop_of_length_le (by have := Hl.out; omega)]; rfl
      go_wp2
      go_ret
      exact ⟨by rw [HE.out]; rfl, hbel⟩
end Go.Proofs.YtmfdggaijbcijaaGreat
end
