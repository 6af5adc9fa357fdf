/- Texts of mine put together (a claim holds at most 60 files): WfSpec3, WfBoard. -/
import Derived.Test.YtmfdggaijbcijaaGreatPartQ22
import Derived.Deep.QuietTactic
import Derived.BigQuiet
import Derived.Test.YtmfdggaijbcijaaGreatPartQ04

/- WfSpec3 -/
/- Contracts of the model's parts of WorldFault: offers. Condition: there are four factions, and the lists lie in memory as they were laid there. -/
section
namespace Go.Proofs.YtmfdggaijbcijaaGreat
open Go.ChangeShapes Go.WideShapes Go.ChangeAt Go.RowKit
open Bd
set_option linter.unusedVariables false

theorem atO_t {r : Int} (h : atO true r) : 0 ≤ r := by
  rcases h with ⟨_, h⟩ | ⟨h, _⟩
  · exact h
  · cases h
theorem atO_f {r : Int} (h : atO false r) : r = -1 := by
  rcases h with ⟨h, _⟩ | ⟨_, h⟩
  · cases h
  · exact h
set_option maxRecDepth 20000 in
set_option maxHeartbeats 16000000 in
theorem l6Offers_c (p : Nat) (t s : Int) (u : Option Addr) (mu uc : Nat) (f : Option Addr) (mf fc : Nat) (a : Option Addr) (ac : Nat) (q : Option Addr) (ms qc : Nat) (r : Option Addr) (mo rc : Nat) (fa : List KA) (oo : List K2) (h4 : fa.length = 4) (hl : oo.length = mo) (hm : mo ≤ 6) (hc : mo ≤ rc) (hrc : rc ≤ maxLen) (w : World) (hP : At7 w p t s (.slice u mu uc) (.slice f mf fc) (.slice a 4 ac) (.slice q ms qc) (.slice r mo rc)) (hA : ArgA w a fa) (hO : ArgO w r oo) :
    Calls Tryz.prog 82 #[.pointer (some ⟨p, 0, none⟩)] w fun e w' => e = .returned (.int .i64 (ofF hasS fa [] oo)) ∧ Below w.heap.size w w' := by
  obtain ⟨ba, oa, rfl, hba, hat⟩ := hA.four h4
  have Hat : Hid (AAt w ba oa fa) := hat
  have HO : Hid (ArgO w r oo) := hO
  have Hl : Hid (oo.length = mo) := hl
  have H4 : Hid (fa.length = 4) := h4
  have HP : Hid (At7 w p t s (.slice u mu uc) (.slice f mf fc) (.slice (some ⟨ba, oa, none⟩) 4 ac) (.slice q ms qc) (.slice r mo rc)) := hP
  obtain ⟨R, HR⟩ : ∃ R : Int, Hid (R = ofF hasS fa [] oo) := ⟨_, rfl⟩
  rw [← HR.out]
  have HR0 : Hid (R = ofF hasS fa (oo.take 0) (oo.drop 0)) := HR
  unfold maxLen at hrc
  clear hat hO hl h4 hA HR hP
  go_enter Tryz.func82, Tryz.ntmps82
  go_wp2_with fail
  go_loopw [3] (fun j wr => ∃ k : Nat, k ≤ mo ∧ j = .int .i64 k ∧ Hid (R = ofF hasS fa (oo.take k) (oo.drop k)) ∧ Below w.heap.size w wr) (fun j _ => mo - (intOf j).toNat)
  case atStart => exact ⟨0, Nat.zero_le _, rfl, HR0, Below.refl _ _⟩
  case round =>
    obtain ⟨k, hk, rfl, Hk, hbel⟩ := hrel
    obtain ⟨_, _, _, _, p4, _, p6, pl⟩ := HP.out.later hbel
    by_cases hlt : k < mo
    · have hlt' : (k : Int) < (mo : Int) := by omega
      have Hlt : Hid (k < mo) := hlt
      obtain ⟨x, hx⟩ : ∃ x, oo[k]? = some x := ⟨_, List.getElem?_eq_getElem (by have := Hl.out; omega)⟩
      obtain ⟨b, off, rfl, hb, hat⟩ := HO.out.at hx
      obtain ⟨x0, x1, xl⟩ := (hat.later hb hbel).one (Nat.lt_of_lt_of_le hb hbel.size) hx
      have hS2 : Hid (R = if ofR x = false then 3 else if ofB hasS fa (oo.take k) x = true then 1 else ofF hasS fa (oo.take (k + 1)) (oo.drop (k + 1))) := by show _ = _; rw [Hk.out, ofF_step hx]
      have q0 := fun w => l6Side_s x.c0 w
      have q1 := fun w => l6Side_s x.c1 w
      have k4 := hbel.alloc hbel.size (.cells x.v 49)
      have HZ : Hid (O1 (wr.alloc (.cells x.v 49)) wr.heap.size 0 x) := O1.new wr x _
      have Hoat : Hid (OAt w b off oo) := hat
      clear hx hat Hk
      cases e0 : inb x.c0 0 3
      · rw [e0] at q0
        have HE : Hid (R = 3) := by show _ = _; rw [hS2.out, if_pos (by unfold ofR; rw [e0]; rfl)]
        go_wp2_with (first | (go_at_call 43; with_reducible refine (q0 _).mono ?_; rintro e w1 ⟨rfl, hw1⟩; obtain rfl := hw1.symm) | (go_at_call 43; with_reducible refine (q1 _).mono ?_; rintro e w1 ⟨rfl, hw1⟩; obtain rfl := hw1.symm))
        go_ret
        exact ⟨by rw [HE.out]; rfl, k4⟩
      cases e1 : inb x.c1 0 3
      · rw [e0] at q0
        rw [e1] at q1
        have HE : Hid (R = 3) := by show _ = _; rw [hS2.out, if_pos (by unfold ofR; rw [e0, e1]; rfl)]
        go_wp2_with (first | (go_at_call 43; with_reducible refine (q0 _).mono ?_; rintro e w1 ⟨rfl, hw1⟩; obtain rfl := hw1.symm) | (go_at_call 43; with_reducible refine (q1 _).mono ?_; rintro e w1 ⟨rfl, hw1⟩; obtain rfl := hw1.symm))
        go_ret
        exact ⟨by rw [HE.out]; rfl, k4⟩
      have hS3 : Hid (R = if ofB hasS fa (oo.take k) x = true then 1 else ofF hasS fa (oo.take (k + 1)) (oo.drop (k + 1))) := by show _ = _; rw [hS2.out, if_neg (by unfold ofR; rw [e0, e1]; simp)]
      obtain ⟨i0, i1⟩ := inb_i e0
      obtain ⟨j0, j1⟩ := inb_i e1
      obtain ⟨g, hg, hgo, hga⟩ := side_at H4.out i0 i1
      obtain ⟨h, hh, hho, hha⟩ := side_at H4.out j0 j1
      have hi4 : x.c0 < 4 := by omega
      have hj4 : x.c1 < 4 := by omega
      rw [e0] at q0
      rw [e1] at q1
      unfold ofB at hS3
      rw [hga, hgo, hho] at hS3
      have Hg : Hid (fa[x.c0.toNat]? = some g) := hg
      have Hh : Hid (fa[x.c1.toNat]? = some h) := hh
      obtain ⟨W4, HW4⟩ : ∃ W4, Hid (W4 = wr.alloc (.cells x.v 49)) := ⟨_, rfl⟩
      rw [← HW4.out] at k4 HZ
      have hkc : (k : Int) ≤ (rc : Int) := by have := Hlt.out; omega
      have hk0 : (0 : Int) ≤ (k : Int) := by omega
      have qB := fun w => l6Has_c g.c2 x.c1 (by omega) (by omega) w
      have cC := fun W' (h : Below W4.heap.size W4 W') => l6Offer_c (some ⟨b, off, none⟩) k rc (oo.take k) x (by rw [List.length_take]; have := Hl.out; have := Hlt.out; omega) (by have := Hlt.out; omega) W' (.inr ⟨b, off, rfl, Nat.lt_of_lt_of_le hb (k4.trans (h.mono k4.size)).size, (Hoat.out.later hb (k4.trans (h.mono k4.size))).take⟩)
      have Bc : Below W4.heap.size W4 W4.drew := (Below.refl _ _).drew
      have keep : ∀ w', Below W4.heap.size W4 w' → w'.cell? ⟨p, 4, none⟩ = some (.slice (some ⟨ba, oa, none⟩) 4 ac) ∧ w'.cell? ⟨p, 6, none⟩ = some (.slice (some ⟨b, off, none⟩) mo rc) ∧ w'.cell? ⟨wr.heap.size, 0, none⟩ = some (.int .i64 x.c0) ∧ w'.cell? ⟨wr.heap.size, 1, none⟩ = some (.int .i64 x.c1) ∧ w'.cell? ⟨ba, oa + x.c0.toNat * 3 + 1, none⟩ = some (.bool g.c1) ∧ w'.cell? ⟨ba, oa + x.c0.toNat * 3 + 2, none⟩ = some (.int .i64 g.c2) ∧ w'.cell? ⟨ba, oa + x.c1.toNat * 3 + 1, none⟩ = some (.bool h.c1) := fun w' hb' => by
        have kk := k4.trans (hb'.mono k4.size)
        obtain ⟨_, _, _, _, p4, _, p6, pl⟩ := HP.out.later kk
        obtain ⟨y0, y1, y2, yl⟩ := (Hat.out.later hba kk).one (Nat.lt_of_lt_of_le hba kk.size) Hg.out
        obtain ⟨v0, v1, v2, vl⟩ := (Hat.out.later hba kk).one (Nat.lt_of_lt_of_le hba kk.size) Hh.out
        obtain ⟨z0, z1, zl⟩ := HZ.out.later hb'
        exact ⟨p4, p6, z0, z1, y1, y2, v1⟩
      clear hg hgo hga hh hho hha hS2
      have Hpl : Hid (p < w.heap.size) := HP.out.lt
      obtain ⟨c1, c2, c3, c4, c5, c6, c7⟩ := keep _ (Below.refl _ _)
      have lp : p < W4.heap.size := Nat.lt_of_lt_of_le Hpl.out k4.size
      have lb : ba < W4.heap.size := Nat.lt_of_lt_of_le hba k4.size
      have lw : wr.heap.size < W4.heap.size := HZ.out.lt
      go_upto_region 7 with (first | (go_at_call 43; with_reducible refine (q0 _).mono ?_; rintro e w1 ⟨rfl, hw1⟩; obtain rfl := hw1.symm) | (go_at_call 43; with_reducible refine (q1 _).mono ?_; rintro e w1 ⟨rfl, hw1⟩; obtain rfl := hw1.symm))
      rw [← HW4.out]
      try simp only [List.append]
      cases d1 : x.c0 == x.c1
      · rw [d1] at hS3
        cases d2 : hasS g.c2 x.c1
        · rw [d2] at qB hS3
          cases d3 : g.c1
          · rw [d3] at hS3 c5
            rw [d3] at keep
            cases d4 : h.c1
            · rw [d4] at hS3 c7
              rw [d4] at keep
              have hS4 : Hid (R = if memO (oo.take k) x = true then 1 else ofF hasS fa (oo.take (k + 1)) (oo.drop (k + 1))) := hS3
              generalize memO (oo.take k) x = M at cC hS4
              clear hS3
              cases M
              · have HE : Hid (R = ofF hasS fa (oo.take (k + 1)) (oo.drop (k + 1))) := hS4
                go_region_held3 (fun w' => w'.cell? ⟨p, 4, none⟩ = some (.slice (some ⟨ba, oa, none⟩) 4 ac) ∧ w'.cell? ⟨p, 6, none⟩ = some (.slice (some ⟨b, off, none⟩) mo rc) ∧ w'.cell? ⟨wr.heap.size, 0, none⟩ = some (.int .i64 x.c0) ∧ w'.cell? ⟨wr.heap.size, 1, none⟩ = some (.int .i64 x.c1) ∧ w'.cell? ⟨ba, oa + x.c0.toNat * 3 + 1, none⟩ = some (.bool false) ∧ w'.cell? ⟨ba, oa + x.c0.toNat * 3 + 2, none⟩ = some (.int .i64 g.c2) ∧ w'.cell? ⟨ba, oa + x.c1.toNat * 3 + 1, none⟩ = some (.bool false)) (first | exact keep _ Bc | go_keep) (first
                  | (go_at_call 45; refine (qB _).mono ?_; rintro e wn ⟨rfl, hwn⟩; obtain rfl := hwn.symm)
                  | (go_at_call 92; refine (cC _ Bc).mono ?_; rintro e wn ⟨ro, rfl, hro, kn⟩; have Bc := Bc.trans (kn.mono Bc.size); obtain ⟨c1, c2, c3, c4, c5, c6, c7⟩ := keep _ Bc; first | (have hr0 := atO_t hro) | (obtain rfl := atO_f hro)))
                all_goals
                  go_wp2_with fail
                  go_roundw
                  case rel => exact ⟨k + 1, by have := Hlt.out; omega, by go_num, HE, k4.trans (Bc.mono k4.size)⟩
                  case measure => have := Hlt.out; simp [intOf]; omega
              · have HE : Hid (R = 1) := hS4
                go_region_held3 (fun w' => w'.cell? ⟨p, 4, none⟩ = some (.slice (some ⟨ba, oa, none⟩) 4 ac) ∧ w'.cell? ⟨p, 6, none⟩ = some (.slice (some ⟨b, off, none⟩) mo rc) ∧ w'.cell? ⟨wr.heap.size, 0, none⟩ = some (.int .i64 x.c0) ∧ w'.cell? ⟨wr.heap.size, 1, none⟩ = some (.int .i64 x.c1) ∧ w'.cell? ⟨ba, oa + x.c0.toNat * 3 + 1, none⟩ = some (.bool false) ∧ w'.cell? ⟨ba, oa + x.c0.toNat * 3 + 2, none⟩ = some (.int .i64 g.c2) ∧ w'.cell? ⟨ba, oa + x.c1.toNat * 3 + 1, none⟩ = some (.bool false)) (first | exact keep _ Bc | go_keep) (first
                  | (go_at_call 45; refine (qB _).mono ?_; rintro e wn ⟨rfl, hwn⟩; obtain rfl := hwn.symm)
                  | (go_at_call 92; refine (cC _ Bc).mono ?_; rintro e wn ⟨ro, rfl, hro, kn⟩; have Bc := Bc.trans (kn.mono Bc.size); obtain ⟨c1, c2, c3, c4, c5, c6, c7⟩ := keep _ Bc; first | (have hr0 := atO_t hro) | (obtain rfl := atO_f hro)))
                all_goals
                  go_wp2_with fail
                  go_ret
                  exact ⟨by rw [HE.out]; rfl, k4.trans (Bc.mono k4.size)⟩
            · rw [d4] at hS3 c7
              rw [d4] at keep
              have HE : Hid (R = 1) := hS3
              go_quiet (first | (go_at_call 45; exact Calls.quiet_of_same (qB _)))
              go_wp2_with fail
              go_ret
              exact ⟨by rw [HE.out]; rfl, k4.trans ((below_drewN _ _).mono k4.size)⟩
          · rw [d3] at hS3 c5
            rw [d3] at keep
            have HE : Hid (R = 1) := hS3
            go_quiet (first | (go_at_call 45; exact Calls.quiet_of_same (qB _)))
            go_wp2_with fail
            go_ret
            exact ⟨by rw [HE.out]; rfl, k4.trans ((below_drewN _ _).mono k4.size)⟩
        · rw [d2] at qB hS3
          have HE : Hid (R = 1) := hS3
          go_quiet (first | (go_at_call 45; exact Calls.quiet_of_same (qB _)))
          go_wp2_with fail
          go_ret
          exact ⟨by rw [HE.out]; rfl, k4.trans ((below_drewN _ _).mono k4.size)⟩
      · rw [d1] at hS3
        have HE : Hid (R = 1) := hS3
        go_quiet (first | (go_at_call 45; exact Calls.quiet_of_same (qB _)))
        go_wp2_with fail
        go_ret
        exact ⟨by rw [HE.out]; rfl, k4.trans ((below_drewN _ _).mono k4.size)⟩
    · obtain rfl : mo = k := by omega
      have HE : Hid (R = 0) := by show _ = _; rw [Hk.out, List.drop_of_length_le (by have := Hl.out; omega)]; rfl
      go_wp2
      go_ret
      exact ⟨by rw [HE.out]; rfl, hbel⟩
end Go.Proofs.YtmfdggaijbcijaaGreat
end

/- WfBoard -/
/- The contract of the model of BoardFault at a world's board. Condition: the board's two lists lie in memory as they were laid there. -/
section
namespace Go.Proofs.YtmfdggaijbcijaaGreat
open Go.ChangeShapes Go.WideShapes Go.ChangeAt Go.RowKit
open Bd
set_option linter.unusedVariables false

structure BrdAt2 (w : World) (p : Nat) (s f : Value) : Prop where
  c0 : w.cell? ⟨p, 2, none⟩ = some s
  c1 : w.cell? ⟨p, 3, none⟩ = some f
  lt : p < w.heap.size
theorem BrdAt2.later {w w' : World} {p : Nat} {s f : Value} (h : BrdAt2 w p s f) (hb : Below w.heap.size w w') : BrdAt2 w' p s f :=
  ⟨by rw [hb.cell h.lt]; exact h.c0, by rw [hb.cell h.lt]; exact h.c1, Nat.lt_of_lt_of_le h.lt hb.size⟩
set_option maxHeartbeats 4000000 in
theorem l4Fault2_c (p : Nat) (a : Option Addr) (m c : Nat) (a' : Option Addr) (m' c' : Nat) (us : List K10) (fs : List K3) (hl : us.length = m) (hl' : fs.length = m') (w : World) (hB : BrdAt2 w p (.slice a m c) (.slice a' m' c')) (hU : ArgU w a us) (hF : ArgF w a' fs) :
    Calls Tryz.prog 79 #[.pointer (some ⟨p, 2, none⟩)] w fun e w' => e = .returned (.int .i64 (bf us fs)) ∧ Below w.heap.size w w' := by
  have HB : Hid (BrdAt2 w p (.slice a m c) (.slice a' m' c')) := hB
  have HU : Hid (ArgU w a us) := hU
  have HF : Hid (ArgF w a' fs) := hF
  have Hl : Hid (us.length = m) := hl
  have Hl' : Hid (fs.length = m') := hl'
  obtain ⟨b0, b1, blt⟩ := hB
  clear hU hF
  by_cases h8 : 8 < m
  · have e : bf us fs = 2 := by unfold bf; rw [if_pos (by omega)]
    rw [e]
    clear e hl hl'
    have d : (8 : Int) < (m : Int) := by omega
    go_enter Tryz.func79, Tryz.ntmps79
    go_wp2
    go_ret
    exact ⟨rfl, Below.refl _ _⟩
  by_cases h4 : 4 < m'
  · have e : bf us fs = 2 := by unfold bf; rw [if_pos (by omega)]
    rw [e]
    clear e hl hl'
    have d0 : decide ((8 : Int) < (m : Int)) = false := decide_eq_false (by omega)
    have d : (4 : Int) < (m' : Int) := by omega
    go_enter Tryz.func79, Tryz.ntmps79
    go_wp2
    go_ret
    exact ⟨rfl, Below.refl _ _⟩
  have e : bf us fs = ufs (prevId us 0) (ffs fs) (us.drop 0) := by unfold bf prevId; rw [if_neg (by omega), if_pos rfl]; rfl
  obtain ⟨R, HR⟩ : ∃ R : Int, Hid (R = bf us fs) := ⟨_, rfl⟩
  rw [← HR.out]
  have HR0 : Hid (R = ufs (prevId us 0) (ffs fs) (us.drop 0)) := by show _ = _; rw [HR.out, e]
  clear e hl hl' HR
  have d8 : decide ((8 : Int) < (m : Int)) = false := decide_eq_false (by omega)
  have d4 : decide ((4 : Int) < (m' : Int)) = false := decide_eq_false (by omega)
  go_enter Tryz.func79, Tryz.ntmps79
  go_wp2
  go_loopw [3] (fun i wr => ∃ k : Nat, k ≤ m ∧ i = .int .i64 k ∧ Hid (R = ufs (prevId us k) (ffs fs) (us.drop k)) ∧ Below w.heap.size w wr) (fun i _ => m - (intOf i).toNat)
  case atStart => exact ⟨0, Nat.zero_le _, rfl, HR0, Below.refl _ _⟩
  case round =>
    obtain ⟨k, hk, rfl, Hk, hbel⟩ := hrel
    obtain ⟨b0, b1, blt⟩ := HB.out.later hbel
    by_cases hlt : k < m
    · have hlt' : (k : Int) < (m : Int) := by omega
      obtain ⟨x, hx⟩ : ∃ x, us[k]? = some x := ⟨_, List.getElem?_eq_getElem (by have := Hl.out; omega)⟩
      obtain ⟨b, off, rfl, hb, hat⟩ := HU.out.at hx
      have cU := l4Unit_c b (off + k * 10) x _ ((hat.later hb hbel).one (Nat.lt_of_lt_of_le hb hbel.size) hx)
      have HS : Hid (R = if (uf x == 0) = false then uf x else if leP (prevId us k) x.c0 = true then 1 else ufs (some x.c0) (ffs fs) (us.drop (k + 1))) := by show _ = _; rw [Hk.out, ufs_step hx]
      have Hx : Hid (us[k]? = some x) := hx
      have Hat : Hid (UAt w b off us) := hat
      clear hx hat
      go_wp2_with fail
      refine cU.mono ?_
      rintro e w1 ⟨rfl, k1⟩
      have hbel1 := hbel.trans (k1.mono hbel.size)
      obtain ⟨b0, b1, blt⟩ := HB.out.later hbel1
      clear cU
      cases hq : uf x == 0
      · have HE : Hid (R = uf x) := by show _ = _; rw [HS.out, if_pos hq]
        have hq' := bne_of hq
        go_wp2
        go_ret
        exact ⟨by rw [HE.out]; rfl, hbel1⟩
      · have hz : uf x = 0 := by simpa using hq
        have hq' : (uf x != 0) = false := by simp only [bne, hq]; rfl
        have HN : Hid (prevId us (k + 1) = some x.c0) := prevId_next Hx.out
        rcases k with _ | k
        · have HE : Hid (R = ufs (prevId us (0 + 1)) (ffs fs) (us.drop (0 + 1))) := by show _ = _; rw [HS.out, if_neg (by rw [hq]; simp), HN.out]; rfl
          go_wp2
          go_quiet (fail)
          go_wp2
          go_roundw
          case rel => exact ⟨0 + 1, by omega, by go_num, HE, hbel1.trans ((below_drewN _ _).mono hbel1.size)⟩
          case measure => simp [intOf]; omega
        · obtain ⟨y, hy⟩ : ∃ y, us[k]? = some y := ⟨_, List.getElem?_eq_getElem (by have := Hl.out; omega)⟩
          have HP : Hid (prevId us (k + 1) = some y.c0) := prevId_next hy
          have a0 := (Hat.out.later hb hbel1).all Hx.out |>.1
          have a1 := (Hat.out.later hb hbel1).all hy |>.1
          clear hy
          cases hd : decide (x.c0 ≤ y.c0)
          · have HE : Hid (R = ufs (prevId us (k + 1 + 1)) (ffs fs) (us.drop (k + 1 + 1))) := by
              show _ = _
              rw [HS.out, if_neg (by rw [hq]; simp), HN.out, HP.out, if_neg (by show ¬ decide (x.c0 ≤ y.c0) = true; rw [hd]; simp)]
            go_wp2
            go_quiet (fail)
            go_wp2
            go_roundw
            case rel => exact ⟨k + 1 + 1, by omega, by go_num, HE, hbel1.trans ((below_drewN _ _).mono hbel1.size)⟩
            case measure => simp [intOf]; omega
          · have HE : Hid (R = 1) := by
              show _ = _
              rw [HS.out, if_neg (by rw [hq]; simp), HP.out, if_pos (show leP (some y.c0) x.c0 = true from hd)]
            go_wp2
            go_quiet (fail)
            go_wp2
            go_ret
            exact ⟨by rw [HE.out]; rfl, hbel1.trans ((below_drewN _ _).mono hbel1.size)⟩
    · obtain rfl : k = m := by omega
      have HE : Hid (R = ffs (fs.drop 0)) := by show _ = _; rw [Hk.out, List.drop_of_length_le (by have := Hl.out; omega)]; rfl
      clear Hk
      go_wp2
      go_loopw [5] (fun i wr => ∃ k : Nat, k ≤ m' ∧ i = .int .i64 k ∧ Hid (R = ffs (fs.drop k)) ∧ Below w.heap.size w wr) (fun i _ => m' - (intOf i).toNat)
      case atStart => exact ⟨0, Nat.zero_le _, rfl, HE, hbel⟩
      case round =>
        obtain ⟨j, hj, rfl, Hj, hbel⟩ := hrel
        obtain ⟨b0, b1, blt⟩ := HB.out.later hbel
        by_cases hlt : j < m'
        · have hlt' : (j : Int) < (m' : Int) := by omega
          obtain ⟨x, hx⟩ : ∃ x, fs[j]? = some x := ⟨_, List.getElem?_eq_getElem (by have := Hl'.out; omega)⟩
          obtain ⟨b, off, rfl, hb, hat⟩ := HF.out.at hx
          have HS : Hid (R = if ff x = false then 3 else ffs (fs.drop (j + 1))) := by show _ = _; rw [Hj.out, ffs_step hx]
          obtain ⟨x0, x1, x2, xl⟩ := (hat.later hb hbel).one (Nat.lt_of_lt_of_le hb hbel.size) hx
          have P0 := fun n => Later.cell blt b1 n
          have X0 := fun n => Later.cell xl x0 n
          have X1 := fun n => Later.cell xl x1 n
          have X2 := fun n => Later.cell xl x2 n
          have q1 := fun w => l1Tile_c x.c0 x.c1 w
          have q2 := fun w => l1In_c x.c2 0 10000 w
          clear hx hat
          have hff : (tile x.c0 x.c1 = false ∧ ff x = false) ∨ (tile x.c0 x.c1 = true ∧ inb x.c2 0 10000 = false ∧ ff x = false) ∨ (tile x.c0 x.c1 = true ∧ inb x.c2 0 10000 = true ∧ ff x = true) := by
            unfold ff; cases tile x.c0 x.c1 <;> cases inb x.c2 0 10000 <;> simp
          rcases hff with ⟨e1, ef⟩ | ⟨e1, e2, ef⟩ | ⟨e1, e2, ef⟩
          · have HE : Hid (R = 3) := by show _ = _; rw [HS.out, if_pos ef]
            rw [e1] at q1
            go_wp2_with fail
            refine wp_region_later (by kernel_rfl) (by kernel_rfl) (fun hne => ?_)
            repeat (go_big_quiet_step (first | (go_at_call 108; exact Later.call0 (q1 _)) | (go_at_call 78; exact Later.call0 (q2 _))))
            refine wpQuiet_nil ?_
            rintro _ ⟨nn, rfl⟩
            have hb2 := hbel.trans (nn.bel.mono hbel.size)
            clear P0 X0 X1 X2 hne
            go_wp2_with fail
            go_ret
            exact ⟨by rw [HE.out]; rfl, hb2⟩
          · have HE : Hid (R = 3) := by show _ = _; rw [HS.out, if_pos ef]
            rw [e1] at q1
            rw [e2] at q2
            go_wp2_with fail
            refine wp_region_later (by kernel_rfl) (by kernel_rfl) (fun hne => ?_)
            repeat (go_big_quiet_step (first | (go_at_call 108; exact Later.call0 (q1 _)) | (go_at_call 78; exact Later.call0 (q2 _))))
            refine wpQuiet_nil ?_
            rintro _ ⟨nn, rfl⟩
            have hb2 := hbel.trans (nn.bel.mono hbel.size)
            clear P0 X0 X1 X2 hne
            go_wp2_with fail
            go_ret
            exact ⟨by rw [HE.out]; rfl, hb2⟩
          · have HE : Hid (R = ffs (fs.drop (j + 1))) := by show _ = _; rw [HS.out, if_neg (by rw [ef]; simp)]
            rw [e1] at q1
            rw [e2] at q2
            go_wp2_with fail
            refine wp_region_later (by kernel_rfl) (by kernel_rfl) (fun hne => ?_)
            repeat (go_big_quiet_step (first | (go_at_call 108; exact Later.call0 (q1 _)) | (go_at_call 78; exact Later.call0 (q2 _))))
            refine wpQuiet_nil ?_
            rintro _ ⟨nn, rfl⟩
            have hb2 := hbel.trans (nn.bel.mono hbel.size)
            clear P0 X0 X1 X2 hne
            go_wp2_with fail
            go_roundw
            case rel => exact ⟨j + 1, by omega, by go_num, HE, hb2⟩
            case measure => simp [intOf]; omega
        · obtain rfl : j = m' := by omega
          have HE : Hid (R = 0) := by show _ = _; rw [Hj.out, List.drop_of_length_le (by have := Hl'.out; omega)]; rfl
          go_wp2
          go_ret
          exact ⟨by rw [HE.out]; rfl, hbel⟩
end Go.Proofs.YtmfdggaijbcijaaGreat
end
