/- Texts of mine put together (a claim holds at most 60 files): WfImpl4, BoardWalks2. -/
import Derived.Test.YtlfnnobkgbfdgaaGreatPartH05
import Derived.Deep.RegionHeld3
import Derived.Deep.Cut
import Derived.Deep.CutRange

/- WfImpl4 -/
/- Contracts of the program's parts of WorldFault: offers. Condition: there are four factions, and the lists lie in memory as they were laid there. -/
section
namespace Go.Proofs.YtlfnnobkgbfdgaaGreat
open Go.ChangeShapes Go.WideShapes Go.ChangeAt Go.RowKit
open Bd
set_option linter.unusedVariables false

theorem OAt.take {w : World} {b off k : Nat} {l : List K2} (h : OAt w b off l) : OAt w b off (l.take k) := fun i x hi f hf => by
  rw [List.getElem?_take] at hi
  split at hi
  · exact h i x hi f hf
  · cases hi
theorem two_bk (w : World) (x y : Array Value) (T : TypeId) : Bk ((w.alloc (.cells x T)).alloc (.cells y T)).drew w.heap.size x T ∧ Bk ((w.alloc (.cells x T)).alloc (.cells y T)).drew (w.heap.size + 1) y T ∧ Below w.heap.size w ((w.alloc (.cells x T)).alloc (.cells y T)).drew :=
  ⟨(Bk.new w x T).alloc _, by have h := Bk.new (w.alloc (.cells x T)) y T; rw [size_new] at h; exact h, (((Below.refl _ _).alloc (Nat.le_refl _) _).alloc (by rw [size_new]; omega) _).drew⟩
set_option maxHeartbeats 16000000 in
theorem offersFault_c (t s : Int) (u : Option Addr) (mu uc : Nat) (f : Option Addr) (mf fc : Nat) (a : Option Addr) (ac : Nat) (q : Option Addr) (ms qc : Nat) (r : Option Addr) (mo rc : Nat) (fa : List KA) (oo : List K2) (h4 : fa.length = 4) (hl : oo.length = mo) (hm : mo ≤ 6) (hc : mo ≤ rc) (hrc : rc ≤ maxLen) (w : World) (hA : ArgA w a fa) (hO : ArgO w r oo) :
    Calls Tryz.prog 31 #[.agg (wv t s u mu uc f mf fc a 4 ac q ms qc r mo rc)] w fun e w' => e = .returned (.int .i64 (ofF hasI fa [] oo)) ∧ Below w.heap.size w w' := by
  obtain ⟨ba, oa, rfl, hba, hat⟩ := hA.four h4
  have B0 : Below w.heap.size w (w.alloc (.cells (wv t s u mu uc f mf fc (some ⟨ba, oa, none⟩) 4 ac q ms qc r mo rc) 32)) := (Below.refl _ _).alloc (Nat.le_refl _) _
  have P0 := Bk.new w (wv t s u mu uc f mf fc (some ⟨ba, oa, none⟩) 4 ac q ms qc r mo rc) 32
  have Hat : Hid (AAt w ba oa fa) := hat
  have HO : Hid (ArgO w r oo) := hO
  have Hl : Hid (oo.length = mo) := hl
  have H4 : Hid (fa.length = 4) := h4
  obtain ⟨R, HR⟩ : ∃ R : Int, Hid (R = ofF hasI fa [] oo) := ⟨_, rfl⟩
  rw [← HR.out]
  have HR0 : Hid (R = ofF hasI fa (oo.take 0) (oo.drop 0)) := HR
  unfold maxLen at hrc
  clear hat hO hl h4 hA HR
  obtain ⟨W, HW⟩ : ∃ W, Hid (W = w.alloc (.cells (wv t s u mu uc f mf fc (some ⟨ba, oa, none⟩) 4 ac q ms qc r mo rc) 32)) := ⟨_, rfl⟩
  rw [← HW.out] at B0 P0
  have HP : Hid (Bk W w.heap.size (wv t s u mu uc f mf fc (some ⟨ba, oa, none⟩) 4 ac q ms qc r mo rc) 32) := P0
  have p6 := P0.cell (i := 6) rfl
  have pl := P0.lt
  go_enter Tryz.func31, Tryz.ntmps31
  go_upto_region 1 with fail
  rw [← HW.out]
  clear HW P0
  go_wp2_with fail
  go_loopw [10] (fun j wr => ∃ k : Nat, k ≤ mo ∧ j = .int .i64 k ∧ Hid (R = ofF hasI fa (oo.take k) (oo.drop k)) ∧ Below W.heap.size W wr) (fun j _ => mo - (intOf j).toNat)
  case atStart => exact ⟨0, Nat.zero_le _, rfl, HR0, Below.refl _ _⟩
  case round =>
    clear p6 pl
    obtain ⟨k, hk, rfl, Hk, kbel⟩ := hrel
    have hbel := B0.trans (kbel.mono B0.size)
    by_cases hlt : k < mo
    · have hlt' : (k : Int) < (mo : Int) := by omega
      have Hlt : Hid (k < mo) := hlt
      obtain ⟨x, hx⟩ : ∃ x, oo[k]? = some x := ⟨_, List.getElem?_eq_getElem (by have := Hl.out; omega)⟩
      obtain ⟨b, off, rfl, hb, hat⟩ := HO.out.at hx
      obtain ⟨x0, x1, xl⟩ := (hat.later hb hbel).one (Nat.lt_of_lt_of_le hb hbel.size) hx
      have hS2 : Hid (R = if ofR x = false then 3 else if ofB hasI fa (oo.take k) x = true then 1 else ofF hasI fa (oo.take (k + 1)) (oo.drop (k + 1))) := by show _ = _; rw [Hk.out, ofF_step hx]
      have q0 := fun w => isSide_c x.c0 w
      have q1 := fun w => isSide_c x.c1 w
      have k4 := hbel.alloc hbel.size (.cells x.v 77)
      have kk4 := kbel.alloc kbel.size (.cells x.v 77)
      have HZ : Hid (O1 (wr.alloc (.cells x.v 77)) wr.heap.size 0 x) := O1.new wr x _
      have Hoat : Hid (OAt w b off oo) := hat
      clear hx hat Hk
      cases e0 : inb x.c0 0 3
      · rw [e0] at q0
        have HE : Hid (R = 3) := by show _ = _; rw [hS2.out, if_pos (by unfold ofR; rw [e0]; rfl)]
        go_wp2_with (first | (go_at_call 43; with_reducible refine (q0 _).mono ?_; rintro e w1 ⟨rfl, hw1⟩; obtain rfl := hw1.symm) | (go_at_call 43; with_reducible refine (q1 _).mono ?_; rintro e w1 ⟨rfl, hw1⟩; obtain rfl := hw1.symm))
        go_ret
        exact ⟨by rw [HE.out]; rfl, k4⟩
      cases e1 : inb x.c1 0 3
      · rw [e0] at q0
        rw [e1] at q1
        have HE : Hid (R = 3) := by show _ = _; rw [hS2.out, if_pos (by unfold ofR; rw [e0, e1]; rfl)]
        go_wp2_with (first | (go_at_call 43; with_reducible refine (q0 _).mono ?_; rintro e w1 ⟨rfl, hw1⟩; obtain rfl := hw1.symm) | (go_at_call 43; with_reducible refine (q1 _).mono ?_; rintro e w1 ⟨rfl, hw1⟩; obtain rfl := hw1.symm))
        go_ret
        exact ⟨by rw [HE.out]; rfl, k4⟩
      have hS3 : Hid (R = if ofB hasI fa (oo.take k) x = true then 1 else ofF hasI fa (oo.take (k + 1)) (oo.drop (k + 1))) := by show _ = _; rw [hS2.out, if_neg (by unfold ofR; rw [e0, e1]; simp)]
      obtain ⟨i0, i1⟩ := inb_i e0
      obtain ⟨j0, j1⟩ := inb_i e1
      obtain ⟨g, hg, hgo, hga⟩ := side_at H4.out i0 i1
      obtain ⟨h, hh, hho, hha⟩ := side_at H4.out j0 j1
      have hi4 : x.c0 < 4 := by omega
      have hj4 : x.c1 < 4 := by omega
      rw [e0] at q0
      rw [e1] at q1
      unfold ofB at hS3
      rw [hga, hgo, hho] at hS3
      obtain ⟨W4, HW4⟩ : ∃ W4, Hid (W4 = wr.alloc (.cells x.v 77)) := ⟨_, rfl⟩
      rw [← HW4.out] at k4 kk4 HZ
      obtain ⟨y0, y1, y2, yl⟩ := (Hat.out.later hba k4).one (Nat.lt_of_lt_of_le hba k4.size) hg
      obtain ⟨v0, v1, v2, vl⟩ := (Hat.out.later hba k4).one (Nat.lt_of_lt_of_le hba k4.size) hh
      have p4 := (HP.out.below kk4).cell (i := 4) rfl
      have pl := (HP.out.below kk4).lt
      obtain ⟨z0, z1', zl⟩ := HZ.out
      have z1 : W4.cell? ⟨wr.heap.size, 1, none⟩ = some (.int .i64 x.c1) := z1'
      clear z1'
      clear hg hgo hga hh hho hha hS2
      go_upto_region 6 with (first | (go_at_call 43; with_reducible refine (q0 _).mono ?_; rintro e w1 ⟨rfl, hw1⟩; obtain rfl := hw1.symm) | (go_at_call 43; with_reducible refine (q1 _).mono ?_; rintro e w1 ⟨rfl, hw1⟩; obtain rfl := hw1.symm))
      rw [← HW4.out]
      go_cut [5, 6] from 25 to 36 (fun s5 s6 wx => ∃ g5 g6, s5 = .pointer (some ⟨g5, 0, none⟩) ∧ s6 = .pointer (some ⟨g6, 0, none⟩) ∧ Bk wx g5 g.v 46 ∧ Bk wx g6 h.v 46 ∧ Below W4.heap.size W4 wx)
      case first =>
        go_region_held3 (fun w' => w'.cell? ⟨w.heap.size, 4, none⟩ = some (.slice (some ⟨ba, oa, none⟩) 4 ac) ∧ w'.cell? ⟨wr.heap.size, 0, none⟩ = some (.int .i64 x.c0) ∧ w'.cell? ⟨wr.heap.size, 1, none⟩ = some (.int .i64 x.c1) ∧ w'.cell? ⟨ba, oa + x.c0.toNat * 3, none⟩ = some (.int .i64 g.c0) ∧ w'.cell? ⟨ba, oa + x.c0.toNat * 3 + 1, none⟩ = some (.bool g.c1) ∧ w'.cell? ⟨ba, oa + x.c0.toNat * 3 + 2, none⟩ = some (.int .i64 g.c2) ∧ w'.cell? ⟨ba, oa + x.c1.toNat * 3, none⟩ = some (.int .i64 h.c0) ∧ w'.cell? ⟨ba, oa + x.c1.toNat * 3 + 1, none⟩ = some (.bool h.c1) ∧ w'.cell? ⟨ba, oa + x.c1.toNat * 3 + 2, none⟩ = some (.int .i64 h.c2)) (go_keep) (fail)
        all_goals
          go_wp2_with fail
          go_meet
          case rel => first | exact ⟨_, _, rfl, rfl, (two_bk W4 g.v h.v 46).1, (two_bk W4 g.v h.v 46).2.1, (two_bk W4 g.v h.v 46).2.2⟩ | exact ⟨_, _, rfl, rfl, (two_bk W4 h.v g.v 46).2.1, (two_bk W4 h.v g.v 46).1, (two_bk W4 h.v g.v 46).2.2⟩
      case rest =>
        obtain ⟨g5, g6, rfl, rfl, K5, K6, kx⟩ := hcut
        obtain ⟨wx, hwx⟩ : ∃ y : World, y = wc := ⟨_, rfl⟩
        subst hwx
        have kW := k4.trans (kx.mono k4.size)
        have kk5 := kk4.trans (kx.mono kk4.size)
        obtain ⟨z0, z1', zl⟩ := HZ.out.later kx
        have z1 : wx.cell? ⟨wr.heap.size, 1, none⟩ = some (.int .i64 x.c1) := z1'
        clear z1'
        have a1 := K5.cell (i := 1) rfl
        have a2 := K5.cell (i := 2) rfl
        have al := K5.lt
        have b1 := K6.cell (i := 1) rfl
        have bl := K6.lt
        have qB := fun w => hasBit_c g.c2 x.c1 (by omega) (by omega) w
        clear y0 y1 y2 yl v0 v1 v2 vl p4 pl
        cases d1 : x.c0 == x.c1
        · rw [d1] at hS3
          cases d2 : hasI g.c2 x.c1
          · rw [d2] at qB hS3
            cases d3 : g.c1
            · rw [d3] at hS3
              replace a1 : wx.cell? ⟨g5, 1, none⟩ = some (.bool false) := by rw [← d3]; exact a1
              cases d4 : h.c1
              · rw [d4] at hS3
                replace b1 : wx.cell? ⟨g6, 1, none⟩ = some (.bool false) := by rw [← d4]; exact b1
                have hS4 : Hid (R = if memO (oo.take k) x = true then 1 else ofF hasI fa (oo.take (k + 1)) (oo.drop (k + 1))) := hS3
                have cC := fun W' (h : Below wx.heap.size wx W') => contains_c (some ⟨b, off, none⟩) k rc (oo.take k) x (by rw [List.length_take]; have := Hl.out; have := Hlt.out; omega) (by have := Hlt.out; omega) W' (.inr ⟨b, off, rfl, Nat.lt_of_lt_of_le hb (kW.trans (h.mono kW.size)).size, (Hoat.out.later hb (kW.trans (h.mono kW.size))).take⟩)
                generalize memO (oo.take k) x = M at cC hS4
                have p6 := (HP.out.below kk5).cell (i := 6) rfl
                have pl := (HP.out.below kk5).lt
                have hkc : (k : Int) ≤ (rc : Int) := by have := Hlt.out; omega
                have hk0 : (0 : Int) ≤ (k : Int) := by omega
                have Bc : Below wx.heap.size wx wx.drew := (Below.refl _ _).drew
                clear hS3
                go_upto_region 9 with (go_at_call 72; refine (qB _).mono ?_; rintro e w1 ⟨rfl, hw1⟩; obtain rfl := hw1.symm)
                go_region_held3 (fun w' => w'.cell? ⟨w.heap.size, 6, none⟩ = some (.slice (some ⟨b, off, none⟩) mo rc) ∧ w'.cell? ⟨wr.heap.size, 0, none⟩ = some (.int .i64 x.c0) ∧ w'.cell? ⟨wr.heap.size, 1, none⟩ = some (.int .i64 x.c1)) (go_keep) (first
                  | (go_at_call 73; refine (cC _ Bc).mono ?_; rintro e wn ⟨rfl, kn⟩; have Bc := Bc.trans (kn.mono Bc.size); have p6 := (HP.out.below (kk5.trans (Bc.mono kk5.size))).cell (i := 6) rfl; obtain ⟨z0, z1', zl⟩ := HZ.out.later (kx.trans (Bc.mono kx.size)); have z1 : wn.cell? ⟨wr.heap.size, 1, none⟩ = some (.int .i64 x.c1) := z1'))
                all_goals
                  cases M
                  · have HE : Hid (R = ofF hasI fa (oo.take (k + 1)) (oo.drop (k + 1))) := hS4
                    go_wp2_with fail
                    go_roundw
                    case rel => exact ⟨k + 1, by have := Hlt.out; omega, by go_num, HE, kk5.trans (Bc.mono kk5.size)⟩
                    case measure => have := Hlt.out; simp [intOf]; omega
                  · have HE : Hid (R = 1) := hS4
                    go_wp2_with fail
                    go_ret
                    exact ⟨by rw [HE.out]; rfl, kW.trans (Bc.mono kW.size)⟩
              · rw [d4] at hS3
                replace b1 : wx.cell? ⟨g6, 1, none⟩ = some (.bool true) := by rw [← d4]; exact b1
                have HE : Hid (R = 1) := hS3
                go_wp2_with (go_at_call 72; refine (qB _).mono ?_; rintro e w1 ⟨rfl, hw1⟩; obtain rfl := hw1.symm)
                go_ret
                exact ⟨by rw [HE.out]; rfl, kW⟩
            · rw [d3] at hS3
              replace a1 : wx.cell? ⟨g5, 1, none⟩ = some (.bool true) := by rw [← d3]; exact a1
              have HE : Hid (R = 1) := hS3
              go_wp2_with (go_at_call 72; refine (qB _).mono ?_; rintro e w1 ⟨rfl, hw1⟩; obtain rfl := hw1.symm)
              go_ret
              exact ⟨by rw [HE.out]; rfl, kW⟩
          · rw [d2] at qB hS3
            have HE : Hid (R = 1) := hS3
            go_wp2_with (go_at_call 72; refine (qB _).mono ?_; rintro e w1 ⟨rfl, hw1⟩; obtain rfl := hw1.symm)
            go_ret
            exact ⟨by rw [HE.out]; rfl, kW⟩
        · rw [d1] at hS3
          have HE : Hid (R = 1) := hS3
          go_wp2_with (go_at_call 72; refine (qB _).mono ?_; rintro e w1 ⟨rfl, hw1⟩; obtain rfl := hw1.symm)
          go_ret
          exact ⟨by rw [HE.out]; rfl, kW⟩
    · obtain rfl : mo = k := by omega
      have HE : Hid (R = 0) := by show _ = _; rw [Hk.out, List.drop_of_length_le (by have := Hl.out; omega)]; rfl
      go_wp2
      go_ret
      exact ⟨by rw [HE.out]; rfl, hbel⟩
end Go.Proofs.YtlfnnobkgbfdgaaGreat
end

/- BoardWalks2 -/
/- The contract of the program's BoardFault. Condition: the board's two lists lie in memory as they were laid there. -/
section
namespace Go.Proofs.YtlfnnobkgbfdgaaGreat
open Go.ChangeShapes Go.WideShapes Go.ChangeAt Go.RowKit
open Bd
set_option linter.unusedVariables false

set_option maxHeartbeats 4000000 in
theorem implBoardFault (a : Option Addr) (m c : Nat) (a' : Option Addr) (m' c' : Nat) (us : List K10) (fs : List K3) (hl : us.length = m) (hl' : fs.length = m') (w0 : World) (hU0 : ArgU w0 a us) (hF0 : ArgF w0 a' fs) :
    Calls Tryz.prog 27 #[.agg #[.slice a m c, .slice a' m' c']] w0 fun e w' => e = .returned (.int .i64 (bf us fs)) ∧ Below w0.heap.size w0 w' := by
  obtain ⟨w, Hw⟩ : ∃ w, Hid (w = w0.alloc (.cells #[.slice a m c, .slice a' m' c'] 27)) := ⟨_, rfl⟩
  have hB0 : Below w0.heap.size w0 w := by rw [Hw.out]; exact (Below.refl _ _).alloc (Nat.le_refl _) _
  have hB : BrdAt w w0.heap.size (.slice a m c) (.slice a' m' c') := by rw [Hw.out]; exact BrdAt.new w0 _ _ _
  have HB : Hid (BrdAt w w0.heap.size (.slice a m c) (.slice a' m' c')) := hB
  have HU : Hid (ArgU w a us) := hU0.later hB0
  have HF : Hid (ArgF w a' fs) := hF0.later hB0
  have Hl : Hid (us.length = m) := hl
  have Hl' : Hid (fs.length = m') := hl'
  obtain ⟨b0, b1, blt⟩ := hB
  clear hU0 hF0
  by_cases h8 : 8 < m
  · have e : bf us fs = 2 := by unfold bf; rw [if_pos (by omega)]
    rw [e]
    clear e hl hl'
    have d : (8 : Int) < (m : Int) := by omega
    go_enter Tryz.func27, Tryz.ntmps27
    go_wp2
    go_ret
    exact ⟨rfl, (Below.refl _ _).alloc (Nat.le_refl _) _⟩
  by_cases h4 : 4 < m'
  · have e : bf us fs = 2 := by unfold bf; rw [if_pos (by omega)]
    rw [e]
    clear e hl hl'
    have d0 : decide ((8 : Int) < (m : Int)) = false := decide_eq_false (by omega)
    have d : (4 : Int) < (m' : Int) := by omega
    go_enter Tryz.func27, Tryz.ntmps27
    go_wp2
    go_ret
    exact ⟨rfl, (Below.refl _ _).alloc (Nat.le_refl _) _⟩
  have e : bf us fs = ufs (prevId us 0) (ffs fs) (us.drop 0) := by unfold bf prevId; rw [if_neg (by omega), if_pos rfl]; rfl
  obtain ⟨R, HR⟩ : ∃ R : Int, Hid (R = bf us fs) := ⟨_, rfl⟩
  rw [← HR.out]
  have HR0 : Hid (R = ufs (prevId us 0) (ffs fs) (us.drop 0)) := by show _ = _; rw [HR.out, e]
  clear e hl hl' HR
  have d8 : decide ((8 : Int) < (m : Int)) = false := decide_eq_false (by omega)
  have d4 : decide ((4 : Int) < (m' : Int)) = false := decide_eq_false (by omega)
  obtain ⟨G, HG⟩ : ∃ G : Nat, Hid (G = w0.heap.size) := ⟨_, rfl⟩
  go_enter Tryz.func27, Tryz.ntmps27
  go_wp2
  rw [← Hw.out, ← HG.out]
  replace HB : Hid (BrdAt w G (.slice a m c) (.slice a' m' c')) := by rw [HG.out]; exact HB
  clear b0 b1 blt
  go_loopw [21] (fun i wr => ∃ k : Nat, k ≤ m ∧ i = .int .i64 k ∧ Hid (R = ufs (prevId us k) (ffs fs) (us.drop k)) ∧ Below w.heap.size w wr) (fun i _ => m - (intOf i).toNat)
  case atStart => exact ⟨0, Nat.zero_le _, rfl, HR0, Below.refl _ _⟩
  case round =>
    obtain ⟨k, hk, rfl, Hk, hbel⟩ := hrel
    obtain ⟨b0, b1, blt⟩ := HB.out.later hbel
    by_cases hlt : k < m
    · have hlt' : (k : Int) < (m : Int) := by omega
      obtain ⟨x, hx⟩ : ∃ x, us[k]? = some x := ⟨_, List.getElem?_eq_getElem (by have := Hl.out; omega)⟩
      obtain ⟨b, off, rfl, hb, hat⟩ := HU.out.at hx
      obtain ⟨x0, x1, x2, x3, x4, x5, x6, x7, x8, x9, xl⟩ := (hat.later hb hbel).one (Nat.lt_of_lt_of_le hb hbel.size) hx
      have cU := fun w => implUnitFault x w
      have HS : Hid (R = if (uf x == 0) = false then uf x else if leP (prevId us k) x.c0 = true then 1 else ufs (some x.c0) (ffs fs) (us.drop (k + 1))) := by show _ = _; rw [Hk.out, ufs_step hx]
      have Hx : Hid (us[k]? = some x) := hx
      have Hat : Hid (UAt w b off us) := hat
      have B1 : Below wr.heap.size wr (wr.alloc (.cells x.v 68)) := (Below.refl _ _).alloc (Nat.le_refl _) _
      have S1 := (U1.new wr x 68)
      clear hx hat
      go_wp2_with fail
      refine (cU _).mono ?_
      rintro e w1 ⟨rfl, k1⟩
      obtain ⟨v0, v1, v2, v3, v4, v5, v6, v7, v8, v9, vl⟩ := S1.later k1
      have hbel1 := hbel.trans ((B1.trans (k1.mono B1.size)).mono hbel.size)
      obtain ⟨b0, b1, blt⟩ := HB.out.later hbel1
      clear cU k1 B1 S1 x0 x1 x2 x3 x4 x5 x6 x7 x8 x9 v1 v2 v3 v4 v5 v6 v7 v8 v9
      cases hq : uf x == 0
      · have HE : Hid (R = uf x) := by show _ = _; rw [HS.out, if_pos hq]
        have hq' := bne_of hq
        go_wp2
        go_ret
        exact ⟨by rw [HE.out]; rfl, hB0.trans (hbel1.mono hB0.size)⟩
      · have hz : uf x = 0 := by simpa using hq
        have hq' : (uf x != 0) = false := by simp only [bne, hq]; rfl
        have HN : Hid (prevId us (k + 1) = some x.c0) := prevId_next Hx.out
        rcases k with _ | k
        · have HE : Hid (R = ufs (prevId us (0 + 1)) (ffs fs) (us.drop (0 + 1))) := by show _ = _; rw [HS.out, if_neg (by rw [hq]; simp), HN.out]; rfl
          go_wp2
          go_quiet (fail)
          go_wp2
          go_roundw
          case rel => exact ⟨0 + 1, by omega, by go_num, HE, hbel1.trans ((below_drewN _ _).mono hbel1.size)⟩
          case measure => simp [intOf]; omega
        · obtain ⟨y, hy⟩ : ∃ y, us[k]? = some y := ⟨_, List.getElem?_eq_getElem (by have := Hl.out; omega)⟩
          have HP : Hid (prevId us (k + 1) = some y.c0) := prevId_next hy
          have a1 := (Hat.out.later hb hbel1).all hy |>.1
          clear hy
          cases hd : decide (x.c0 ≤ y.c0)
          · have HE : Hid (R = ufs (prevId us (k + 1 + 1)) (ffs fs) (us.drop (k + 1 + 1))) := by
              show _ = _
              rw [HS.out, if_neg (by rw [hq]; simp), HN.out, HP.out, if_neg (by show ¬ decide (x.c0 ≤ y.c0) = true; rw [hd]; simp)]
            go_wp2
            go_quiet (fail)
            go_wp2
            go_roundw
            case rel => exact ⟨k + 1 + 1, by omega, by go_num, HE, hbel1.trans ((below_drewN _ _).mono hbel1.size)⟩
            case measure => simp [intOf]; omega
          · have HE : Hid (R = 1) := by
              show _ = _
              rw [HS.out, if_neg (by rw [hq]; simp), HP.out, if_pos (show leP (some y.c0) x.c0 = true from hd)]
            go_wp2
            go_quiet (fail)
            go_wp2
            go_ret
            exact ⟨by rw [HE.out]; rfl, hB0.trans ((hbel1.trans ((below_drewN _ _).mono hbel1.size)).mono hB0.size)⟩
    · obtain rfl : k = m := by omega
      have HE : Hid (R = ffs (fs.drop 0)) := by show _ = _; rw [Hk.out, List.drop_of_length_le (by have := Hl.out; omega)]; rfl
      clear Hk
      go_wp2
      go_loopw [49] (fun i wr => ∃ k : Nat, k ≤ m' ∧ i = .int .i64 k ∧ Hid (R = ffs (fs.drop k)) ∧ Below w.heap.size w wr) (fun i _ => m' - (intOf i).toNat)
      case atStart => exact ⟨0, Nat.zero_le _, rfl, HE, hbel⟩
      case round =>
        obtain ⟨j, hj, rfl, Hj, hbel⟩ := hrel
        obtain ⟨b0, b1, blt⟩ := HB.out.later hbel
        by_cases hlt : j < m'
        · have hlt' : (j : Int) < (m' : Int) := by omega
          obtain ⟨x, hx⟩ : ∃ x, fs[j]? = some x := ⟨_, List.getElem?_eq_getElem (by have := Hl'.out; omega)⟩
          obtain ⟨b, off, rfl, hb, hat⟩ := HF.out.at hx
          have HS : Hid (R = if ff x = false then 3 else ffs (fs.drop (j + 1))) := by show _ = _; rw [Hj.out, ffs_step hx]
          obtain ⟨x0, x1, x2, xl⟩ := (hat.later hb hbel).one (Nat.lt_of_lt_of_le hb hbel.size) hx
          have q1 := fun w => isTile_c x.c0 x.c1 w
          have hb2 := hbel.trans (((Below.refl _ _).alloc (Nat.le_refl _) (.cells x.v 106)).mono hbel.size)
          clear hx hat
          have hff : (tile x.c0 x.c1 = false ∧ ff x = false) ∨ (tile x.c0 x.c1 = true ∧ x.c2 < 0 ∧ ff x = false) ∨ (tile x.c0 x.c1 = true ∧ decide (x.c2 < 0) = false ∧ 10000 < x.c2 ∧ ff x = false) ∨ (tile x.c0 x.c1 = true ∧ decide (x.c2 < 0) = false ∧ decide (10000 < x.c2) = false ∧ ff x = true) := by
            unfold ff inb
            cases tile x.c0 x.c1
            · exact .inl ⟨rfl, rfl⟩
            · by_cases h1 : x.c2 < 0
              · exact .inr (.inl ⟨rfl, h1, by simp; omega⟩)
              · by_cases h2 : 10000 < x.c2
                · exact .inr (.inr (.inl ⟨rfl, by simp; omega, h2, by simp; omega⟩))
                · exact .inr (.inr (.inr ⟨rfl, by simp; omega, by simp; omega, by simp; omega⟩))
          rcases hff with ⟨e1, ef⟩ | ⟨e1, e2, ef⟩ | ⟨e1, e2, e3, ef⟩ | ⟨e1, e2, e3, ef⟩
          · have HE : Hid (R = 3) := by show _ = _; rw [HS.out, if_pos ef]
            rw [e1] at q1
            go_wp2_with (go_at_call 67; refine (q1 _).mono ?_; rintro e w1 ⟨rfl, rfl⟩)
            go_ret
            exact ⟨by rw [HE.out]; rfl, hB0.trans (hb2.mono hB0.size)⟩
          · have HE : Hid (R = 3) := by show _ = _; rw [HS.out, if_pos ef]
            rw [e1] at q1
            go_wp2_with (go_at_call 67; refine (q1 _).mono ?_; rintro e w1 ⟨rfl, rfl⟩)
            go_ret
            exact ⟨by rw [HE.out]; rfl, hB0.trans (hb2.mono hB0.size)⟩
          · have HE : Hid (R = 3) := by show _ = _; rw [HS.out, if_pos ef]
            rw [e1] at q1
            go_wp2_with (go_at_call 67; refine (q1 _).mono ?_; rintro e w1 ⟨rfl, rfl⟩)
            go_ret
            exact ⟨by rw [HE.out]; rfl, hB0.trans (hb2.mono hB0.size)⟩
          · have HE : Hid (R = ffs (fs.drop (j + 1))) := by show _ = _; rw [HS.out, if_neg (by rw [ef]; simp)]
            rw [e1] at q1
            go_wp2_with (go_at_call 67; refine (q1 _).mono ?_; rintro e w1 ⟨rfl, rfl⟩)
            go_roundw
            case rel => exact ⟨j + 1, by omega, by go_num, HE, hb2⟩
            case measure => simp [intOf]; omega
        · obtain rfl : j = m' := by omega
          have HE : Hid (R = 0) := by show _ = _; rw [Hj.out, List.drop_of_length_le (by have := Hl'.out; omega)]; rfl
          go_wp2
          go_ret
          exact ⟨by rw [HE.out]; rfl, hB0.trans (hbel.mono hB0.size)⟩
end Go.Proofs.YtlfnnobkgbfdgaaGreat
end
