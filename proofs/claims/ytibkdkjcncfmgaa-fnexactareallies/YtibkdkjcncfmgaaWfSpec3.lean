/- Contracts of the model's parts of WorldFault: offers. Condition: there are four factions, and the lists lie in memory as they were laid there. -/
import Derived.Test.YtibkdkjcncfmgaaWfSpec2
import Derived.Deep.QuietTactic
import Derived.BigQuiet
namespace Go.Proofs.Ytibkdkjcncfmgaa
open Go.ChangeShapes Go.WideShapes Go.ChangeAt Go.RowKit
open Bd
set_option linter.unusedVariables false

theorem atO_t {r : Int} (h : atO true r) : 0 ≤ r := by
  rcases h with ⟨_, h⟩ | ⟨h, _⟩
  · exact h
  · cases h
theorem atO_f {r : Int} (h : atO false r) : r = -1 := by
  rcases h with ⟨h, _⟩ | ⟨_, h⟩
  · cases h
  · exact h
set_option maxRecDepth 20000 in
set_option maxHeartbeats 16000000 in
theorem l6Offers_c (p : Nat) (t s : Int) (u : Option Addr) (mu uc : Nat) (f : Option Addr) (mf fc : Nat) (a : Option Addr) (ac : Nat) (q : Option Addr) (ms qc : Nat) (r : Option Addr) (mo rc : Nat) (fa : List KA) (oo : List K2) (h4 : fa.length = 4) (hl : oo.length = mo) (hm : mo ≤ 6) (hc : mo ≤ rc) (hrc : rc ≤ maxLen) (w : World) (hP : At7 w p t s (.slice u mu uc) (.slice f mf fc) (.slice a 4 ac) (.slice q ms qc) (.slice r mo rc)) (hA : ArgA w a fa) (hO : ArgO w r oo) :
    Calls Try.prog 131 #[.pointer (some ⟨p, 0, none⟩)] w fun e w' => e = .returned (.int .i64 (ofF hasS fa [] oo)) ∧ Below w.heap.size w w' := by
  obtain ⟨ba, oa, rfl, hba, hat⟩ := hA.four h4
  have Hat : Hid (AAt w ba oa fa) := hat
  have HO : Hid (ArgO w r oo) := hO
  have Hl : Hid (oo.length = mo) := hl
  have H4 : Hid (fa.length = 4) := h4
  have HP : Hid (At7 w p t s (.slice u mu uc) (.slice f mf fc) (.slice (some ⟨ba, oa, none⟩) 4 ac) (.slice q ms qc) (.slice r mo rc)) := hP
  obtain ⟨R, HR⟩ : ∃ R : Int, Hid (R = ofF hasS fa [] oo) := ⟨_, rfl⟩
  rw [← HR.out]
  have HR0 : Hid (R = ofF hasS fa (oo.take 0) (oo.drop 0)) := HR
  unfold maxLen at hrc
  clear hat hO hl h4 hA HR hP
  go_enter Try.func131, Try.ntmps131
  go_wp2_with fail
  go_loopw [3] (fun j wr => ∃ k : Nat, k ≤ mo ∧ j = .int .i64 k ∧ Hid (R = ofF hasS fa (oo.take k) (oo.drop k)) ∧ Below w.heap.size w wr) (fun j _ => mo - (intOf j).toNat)
  case atStart => exact ⟨0, Nat.zero_le _, rfl, HR0, Below.refl _ _⟩
  case round =>
    obtain ⟨k, hk, rfl, Hk, hbel⟩ := hrel
    obtain ⟨_, _, _, _, p4, _, p6, pl⟩ := HP.out.later hbel
    by_cases hlt : k < mo
    · have hlt' : (k : Int) < (mo : Int) := by omega
      have Hlt : Hid (k < mo) := hlt
      obtain ⟨x, hx⟩ : ∃ x, oo[k]? = some x := ⟨_, List.getElem?_eq_getElem (by have := Hl.out; omega)⟩
      obtain ⟨b, off, rfl, hb, hat⟩ := HO.out.at hx
      obtain ⟨x0, x1, xl⟩ := (hat.later hb hbel).one (Nat.lt_of_lt_of_le hb hbel.size) hx
      have hS2 : Hid (R = if ofR x = false then 3 else if ofB hasS fa (oo.take k) x = true then 1 else ofF hasS fa (oo.take (k + 1)) (oo.drop (k + 1))) := by show _ = _; rw [Hk.out, ofF_step hx]
      have q0 := fun w => l6Side_s x.c0 w
      have q1 := fun w => l6Side_s x.c1 w
      have k4 := hbel.alloc hbel.size (.cells x.v 169)
      have HZ : Hid (O1 (wr.alloc (.cells x.v 169)) wr.heap.size 0 x) := O1.new wr x _
      have Hoat : Hid (OAt w b off oo) := hat
      clear hx hat Hk
      cases e0 : inb x.c0 0 3
      · rw [e0] at q0
        have HE : Hid (R = 3) := by show _ = _; rw [hS2.out, if_pos (by unfold ofR; rw [e0]; rfl)]
        go_wp2_with (first | (go_at_call 114; with_reducible refine (q0 _).mono ?_; rintro e w1 ⟨rfl, hw1⟩; obtain rfl := hw1.symm) | (go_at_call 114; with_reducible refine (q1 _).mono ?_; rintro e w1 ⟨rfl, hw1⟩; obtain rfl := hw1.symm))
        go_ret
        exact ⟨by rw [HE.out]; rfl, k4⟩
      cases e1 : inb x.c1 0 3
      · rw [e0] at q0
        rw [e1] at q1
        have HE : Hid (R = 3) := by show _ = _; rw [hS2.out, if_pos (by unfold ofR; rw [e0, e1]; rfl)]
        go_wp2_with (first | (go_at_call 114; with_reducible refine (q0 _).mono ?_; rintro e w1 ⟨rfl, hw1⟩; obtain rfl := hw1.symm) | (go_at_call 114; with_reducible refine (q1 _).mono ?_; rintro e w1 ⟨rfl, hw1⟩; obtain rfl := hw1.symm))
        go_ret
        exact ⟨by rw [HE.out]; rfl, k4⟩
      have hS3 : Hid (R = if ofB hasS fa (oo.take k) x = true then 1 else ofF hasS fa (oo.take (k + 1)) (oo.drop (k + 1))) := by show _ = _; rw [hS2.out, if_neg (by unfold ofR; rw [e0, e1]; simp)]
      obtain ⟨i0, i1⟩ := inb_i e0
      obtain ⟨j0, j1⟩ := inb_i e1
      obtain ⟨g, hg, hgo, hga⟩ := side_at H4.out i0 i1
      obtain ⟨h, hh, hho, hha⟩ := side_at H4.out j0 j1
      have hi4 : x.c0 < 4 := by omega
      have hj4 : x.c1 < 4 := by omega
      rw [e0] at q0
      rw [e1] at q1
      unfold ofB at hS3
      rw [hga, hgo, hho] at hS3
      have Hg : Hid (fa[x.c0.toNat]? = some g) := hg
      have Hh : Hid (fa[x.c1.toNat]? = some h) := hh
      obtain ⟨W4, HW4⟩ : ∃ W4, Hid (W4 = wr.alloc (.cells x.v 169)) := ⟨_, rfl⟩
      rw [← HW4.out] at k4 HZ
      have hkc : (k : Int) ≤ (rc : Int) := by have := Hlt.out; omega
      have hk0 : (0 : Int) ≤ (k : Int) := by omega
      have qB := fun w => l6Has_c g.c2 x.c1 (by omega) (by omega) w
      have cC := fun W' (h : Below W4.heap.size W4 W') => l6Offer_c (some ⟨b, off, none⟩) k rc (oo.take k) x (by rw [List.length_take]; have := Hl.out; have := Hlt.out; omega) (by have := Hlt.out; omega) W' (.inr ⟨b, off, rfl, Nat.lt_of_lt_of_le hb (k4.trans (h.mono k4.size)).size, (Hoat.out.later hb (k4.trans (h.mono k4.size))).take⟩)
      have Bc : Below W4.heap.size W4 W4.drew := (Below.refl _ _).drew
      have keep : ∀ w', Below W4.heap.size W4 w' → w'.cell? ⟨p, 4, none⟩ = some (.slice (some ⟨ba, oa, none⟩) 4 ac) ∧ w'.cell? ⟨p, 6, none⟩ = some (.slice (some ⟨b, off, none⟩) mo rc) ∧ w'.cell? ⟨wr.heap.size, 0, none⟩ = some (.int .i64 x.c0) ∧ w'.cell? ⟨wr.heap.size, 1, none⟩ = some (.int .i64 x.c1) ∧ w'.cell? ⟨ba, oa + x.c0.toNat * 3 + 1, none⟩ = some (.bool g.c1) ∧ w'.cell? ⟨ba, oa + x.c0.toNat * 3 + 2, none⟩ = some (.int .i64 g.c2) ∧ w'.cell? ⟨ba, oa + x.c1.toNat * 3 + 1, none⟩ = some (.bool h.c1) := fun w' hb' => by
        have kk := k4.trans (hb'.mono k4.size)
        obtain ⟨_, _, _, _, p4, _, p6, pl⟩ := HP.out.later kk
        obtain ⟨y0, y1, y2, yl⟩ := (Hat.out.later hba kk).one (Nat.lt_of_lt_of_le hba kk.size) Hg.out
        obtain ⟨v0, v1, v2, vl⟩ := (Hat.out.later hba kk).one (Nat.lt_of_lt_of_le hba kk.size) Hh.out
        obtain ⟨z0, z1, zl⟩ := HZ.out.later hb'
        exact ⟨p4, p6, z0, z1, y1, y2, v1⟩
      clear hg hgo hga hh hho hha hS2
      have Hpl : Hid (p < w.heap.size) := HP.out.lt
      obtain ⟨c1, c2, c3, c4, c5, c6, c7⟩ := keep _ (Below.refl _ _)
      have lp : p < W4.heap.size := Nat.lt_of_lt_of_le Hpl.out k4.size
      have lb : ba < W4.heap.size := Nat.lt_of_lt_of_le hba k4.size
      have lw : wr.heap.size < W4.heap.size := HZ.out.lt
      go_upto_region 7 with (first | (go_at_call 114; with_reducible refine (q0 _).mono ?_; rintro e w1 ⟨rfl, hw1⟩; obtain rfl := hw1.symm) | (go_at_call 114; with_reducible refine (q1 _).mono ?_; rintro e w1 ⟨rfl, hw1⟩; obtain rfl := hw1.symm))
      rw [← HW4.out]
      try simp only [List.append]
      cases d1 : x.c0 == x.c1
      · rw [d1] at hS3
        cases d2 : hasS g.c2 x.c1
        · rw [d2] at qB hS3
          cases d3 : g.c1
          · rw [d3] at hS3 c5
            rw [d3] at keep
            cases d4 : h.c1
            · rw [d4] at hS3 c7
              rw [d4] at keep
              have hS4 : Hid (R = if memO (oo.take k) x = true then 1 else ofF hasS fa (oo.take (k + 1)) (oo.drop (k + 1))) := hS3
              generalize memO (oo.take k) x = M at cC hS4
              clear hS3
              cases M
              · have HE : Hid (R = ofF hasS fa (oo.take (k + 1)) (oo.drop (k + 1))) := hS4
                go_region_held3 (fun w' => w'.cell? ⟨p, 4, none⟩ = some (.slice (some ⟨ba, oa, none⟩) 4 ac) ∧ w'.cell? ⟨p, 6, none⟩ = some (.slice (some ⟨b, off, none⟩) mo rc) ∧ w'.cell? ⟨wr.heap.size, 0, none⟩ = some (.int .i64 x.c0) ∧ w'.cell? ⟨wr.heap.size, 1, none⟩ = some (.int .i64 x.c1) ∧ w'.cell? ⟨ba, oa + x.c0.toNat * 3 + 1, none⟩ = some (.bool false) ∧ w'.cell? ⟨ba, oa + x.c0.toNat * 3 + 2, none⟩ = some (.int .i64 g.c2) ∧ w'.cell? ⟨ba, oa + x.c1.toNat * 3 + 1, none⟩ = some (.bool false)) (first | exact keep _ Bc | go_keep) (first
                  | (go_at_call 110; refine (qB _).mono ?_; rintro e wn ⟨rfl, hwn⟩; obtain rfl := hwn.symm)
                  | (go_at_call 163; refine (cC _ Bc).mono ?_; rintro e wn ⟨ro, rfl, hro, kn⟩; have Bc := Bc.trans (kn.mono Bc.size); obtain ⟨c1, c2, c3, c4, c5, c6, c7⟩ := keep _ Bc; first | (have hr0 := atO_t hro) | (obtain rfl := atO_f hro)))
                all_goals
                  go_wp2_with fail
                  go_roundw
                  case rel => exact ⟨k + 1, by have := Hlt.out; omega, by go_num, HE, k4.trans (Bc.mono k4.size)⟩
                  case measure => have := Hlt.out; simp [intOf]; omega
              · have HE : Hid (R = 1) := hS4
                go_region_held3 (fun w' => w'.cell? ⟨p, 4, none⟩ = some (.slice (some ⟨ba, oa, none⟩) 4 ac) ∧ w'.cell? ⟨p, 6, none⟩ = some (.slice (some ⟨b, off, none⟩) mo rc) ∧ w'.cell? ⟨wr.heap.size, 0, none⟩ = some (.int .i64 x.c0) ∧ w'.cell? ⟨wr.heap.size, 1, none⟩ = some (.int .i64 x.c1) ∧ w'.cell? ⟨ba, oa + x.c0.toNat * 3 + 1, none⟩ = some (.bool false) ∧ w'.cell? ⟨ba, oa + x.c0.toNat * 3 + 2, none⟩ = some (.int .i64 g.c2) ∧ w'.cell? ⟨ba, oa + x.c1.toNat * 3 + 1, none⟩ = some (.bool false)) (first | exact keep _ Bc | go_keep) (first
                  | (go_at_call 110; refine (qB _).mono ?_; rintro e wn ⟨rfl, hwn⟩; obtain rfl := hwn.symm)
                  | (go_at_call 163; refine (cC _ Bc).mono ?_; rintro e wn ⟨ro, rfl, hro, kn⟩; have Bc := Bc.trans (kn.mono Bc.size); obtain ⟨c1, c2, c3, c4, c5, c6, c7⟩ := keep _ Bc; first | (have hr0 := atO_t hro) | (obtain rfl := atO_f hro)))
                all_goals
                  go_wp2_with fail
                  go_ret
                  exact ⟨by rw [HE.out]; rfl, k4.trans (Bc.mono k4.size)⟩
            · rw [d4] at hS3 c7
              rw [d4] at keep
              have HE : Hid (R = 1) := hS3
              go_quiet (first | (go_at_call 110; exact Calls.quiet_of_same (qB _)))
              go_wp2_with fail
              go_ret
              exact ⟨by rw [HE.out]; rfl, k4.trans ((below_drewN _ _).mono k4.size)⟩
          · rw [d3] at hS3 c5
            rw [d3] at keep
            have HE : Hid (R = 1) := hS3
            go_quiet (first | (go_at_call 110; exact Calls.quiet_of_same (qB _)))
            go_wp2_with fail
            go_ret
            exact ⟨by rw [HE.out]; rfl, k4.trans ((below_drewN _ _).mono k4.size)⟩
        · rw [d2] at qB hS3
          have HE : Hid (R = 1) := hS3
          go_quiet (first | (go_at_call 110; exact Calls.quiet_of_same (qB _)))
          go_wp2_with fail
          go_ret
          exact ⟨by rw [HE.out]; rfl, k4.trans ((below_drewN _ _).mono k4.size)⟩
      · rw [d1] at hS3
        have HE : Hid (R = 1) := hS3
        go_quiet (first | (go_at_call 110; exact Calls.quiet_of_same (qB _)))
        go_wp2_with fail
        go_ret
        exact ⟨by rw [HE.out]; rfl, k4.trans ((below_drewN _ _).mono k4.size)⟩
    · obtain rfl : mo = k := by omega
      have HE : Hid (R = 0) := by show _ = _; rw [Hk.out, List.drop_of_length_le (by have := Hl.out; omega)]; rfl
      go_wp2
      go_ret
      exact ⟨by rw [HE.out]; rfl, hbel⟩
end Go.Proofs.Ytibkdkjcncfmgaa
