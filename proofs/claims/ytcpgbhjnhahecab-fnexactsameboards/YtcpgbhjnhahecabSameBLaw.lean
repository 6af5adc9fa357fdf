/- The walk of the exact law of SameBoards. No condition. -/
import Derived.Test.YtcpgbhjnhahecabSameB
import Derived.Deep.RegionWith
import Derived.Deep.Cut
import Derived.Deep.CutRange
namespace Go.Proofs.Ytcpgbhjnhahecab
open Go.ChangeShapes Go.WideShapes Go.ChangeAt Go.RowKit
set_option linter.unusedVariables false

theorem bel_drew {w w' : World} (k : Below w.drew.heap.size w.drew w') : Below w.heap.size w w' := (Below.refl w.heap.size w).drew.trans k
theorem szBoardL (a : Option Addr) (m c : Nat) (a' : Option Addr) (m' c' : Nat) (L : Int) (h0 : 0 ≤ L) (hL : L ≤ 1048576) (hb : (m : Int) ≤ 9223372036854775807) (hb' : (m' : Int) ≤ 9223372036854775807) (w : World) :
    Calls Try.prog 4 #[.agg (brdV a m c a' m' c'), .int .i64 L] w fun e w' => e = .returned (.int .i64 (if (m : Int) + m' ≤ L then L - (m : Int) - (m' : Int) else -1)) ∧ Below w.heap.size w w' := by
  have B1 : Below w.heap.size w (w.alloc (.cells (brdV a m c a' m' c') 25)) := (Below.refl _ _).alloc (Nat.le_refl _) _
  have z1 := fun w => szU_c a m c L (by omega) (by omega) hb w
  by_cases h1 : (m : Int) ≤ L
  · rw [if_pos (by omega)] at z1
    have z2 := fun w => szF_c a' m' c' (L - (m : Int)) (by omega) (by omega) hb' w
    have d1 : decide (L - (m : Int) < 0) = false := decide_eq_false (by omega)
    by_cases h2 : (m : Int) + m' ≤ L
    · rw [if_pos (by omega)] at z2
      rw [if_pos h2]
      have d2 : decide (L - (m : Int) - (m' : Int) < 0) = false := decide_eq_false (by omega)
      go_enter Try.func4, Try.ntmps4
      go_wp2_with (first | (go_at_call 9; refine (z1 _).mono ?_; rintro e w1 ⟨rfl, rfl⟩) | (go_at_call 10; refine (z2 _).mono ?_; rintro e w1 ⟨rfl, rfl⟩))
      go_ret
      exact ⟨rfl, B1⟩
    · rw [if_neg (by omega)] at z2
      rw [if_neg h2]
      go_enter Try.func4, Try.ntmps4
      go_wp2_with (first | (go_at_call 9; refine (z1 _).mono ?_; rintro e w1 ⟨rfl, rfl⟩) | (go_at_call 10; refine (z2 _).mono ?_; rintro e w1 ⟨rfl, rfl⟩))
      go_ret
      exact ⟨rfl, B1⟩
  · rw [if_neg (by omega)] at z1
    rw [if_neg (by omega)]
    go_enter Try.func4, Try.ntmps4
    go_wp2_with (first | (go_at_call 9; refine (z1 _).mono ?_; rintro e w1 ⟨rfl, rfl⟩))
    go_ret
    exact ⟨rfl, B1⟩
set_option maxHeartbeats 8000000 in
theorem walk_fnExactSameBoards (a : Option Addr) (m c : Nat) (a' : Option Addr) (m' c' : Nat) (us : List K10) (fs : List K3) (hx : m ≤ maxLen) (hx' : m' ≤ maxLen) (hl : us.length = m) (hl' : fs.length = m') (b : Option Addr) (n d : Nat) (b' : Option Addr) (n' d' : Nat) (us2 : List K10) (fs2 : List K3) (hy : n ≤ maxLen) (hy' : n' ≤ maxLen) (h2 : us2.length = n) (h2' : fs2.length = n') (W : World) (hU : ArgU W a us) (hF : ArgF W a' fs) (hU2 : ArgU W b us2) (hF2 : ArgF W b' fs2) :
    Calls Try.prog 3 #[.agg (brdV a m c a' m' c'), .agg (brdV b n d b' n' d')] W fun e w' => e = .returned (.bool true) ∧ Below W.heap.size W w' := by
  unfold maxLen at hx hx' hy hy'
  subst hl hl' h2 h2'
  have q0 := fun w => szBoardL a us.length c a' fs.length c' 1048576 (by omega) (by omega) (by omega) (by omega) w
  obtain ⟨ra, rb, B0, S0⟩ := two_boxes W (.slice a us.length c) (.slice a' fs.length c') (.slice b us2.length d) (.slice b' fs2.length d') 25
  by_cases hs : (us.length : Int) + fs.length ≤ 1048576
  · rw [if_pos hs] at q0
    have q1 := fun w => szBoardL b us2.length d b' fs2.length d' (1048576 - (us.length : Int) - (fs.length : Int)) (by omega) (by omega) (by omega) (by omega) w
    have dd : decide ((1048576 : Int) - (us.length : Int) - (fs.length : Int) < 0) = false := decide_eq_false (by omega)
    by_cases hs2 : (us2.length : Int) + fs2.length ≤ 1048576 - (us.length : Int) - (fs.length : Int)
    · rw [if_pos hs2] at q1
      have dd2 : decide ((1048576 : Int) - (us.length : Int) - (fs.length : Int) - (us2.length : Int) - (fs2.length : Int) < 0) = false := decide_eq_false (by omega)
      have cT := fun W hU hF => toBoard_c a c a' c' us fs (by omega) (by omega) W hU hF
      have cT2 := fun W hU hF => toBoard_c b d b' d' us2 fs2 (by omega) (by omega) W hU hF
      have s1 := fun (w : World) (base base2 g g' h h' : Nat) (N1 : NewB w base g g' us fs) (N2 : NewB w base2 h h' us2 fs2) => specSameB w N1 N2 (by omega) (by omega) (by omega) (by omega)
      have s2 := fun (w : World) (base base2 g g' h h' : Nat) (N1 : NewB w base g g' us fs) (N2 : NewB w base2 h h' us2 fs2) => implSameB w N1 N2 (by omega) (by omega) (by omega) (by omega)
      generalize (allU us us2 && allF fs fs2) = R at s1 s2
      have hRR : (R != R) = false := by cases R <;> rfl
      go_enter Try.func3, Try.ntmps3
      go_wp2_with fail
      refine (q0 _).mono ?_
      rintro e w0 ⟨rfl, k0⟩
      have A0 := B0.trans (k0.mono B0.size)
      replace ra := row_later ra k0
      replace rb := row_later rb k0
      obtain ⟨p0, p1, pl⟩ := row_brd ra
      obtain ⟨t0, t1, tl⟩ := row_brd rb
      go_wp2_with fail
      refine (q1 _).mono ?_
      rintro e w1 ⟨rfl, k1⟩
      have A1 := A0.trans (k1.mono A0.size)
      replace ra := row_later ra k1
      replace rb := row_later rb k1
      clear p0 p1 pl t0 t1 tl
      obtain ⟨p0, p1, pl⟩ := row_brd ra
      obtain ⟨t0, t1, tl⟩ := row_brd rb
      go_upto_region 8 with fail
      go_cut [6] from 20 to 24 (fun s6 wx => s6 = .bool R ∧ Below w1.heap.size w1 wx)
      case first =>
        go_region_with (first
          | (go_at_call 6; first
             | (with_reducible refine (cT _ (hU.later A1.drew) (hF.later A1.drew)).mono ?_; rintro e w2 ⟨g, g', rfl, N1, k2⟩; have A2 := bel_drew k2; have t0 := (row_brd (row_later rb A2)).c0; have t1 := (row_brd (row_later rb A2)).c1)
             | (with_reducible refine (cT2 _ (hU2.later A1.drew) (hF2.later A1.drew)).mono ?_; rintro e w2 ⟨h, h', rfl, N2, k2⟩; have A2 := bel_drew k2; have p0 := (row_brd (row_later ra A2)).c0; have p1 := (row_brd (row_later ra A2)).c1)
             | (with_reducible refine (cT _ (hU.later (A1.trans (A2.mono A1.size))) (hF.later (A1.trans (A2.mono A1.size)))).mono ?_; rintro e w3 ⟨g, g', rfl, N1, k3⟩; have A3 := A2.trans (k3.mono A2.size); replace N2 := N2.later k3)
             | (with_reducible refine (cT2 _ (hU2.later (A1.trans (A2.mono A1.size))) (hF2.later (A1.trans (A2.mono A1.size)))).mono ?_; rintro e w3 ⟨h, h', rfl, N2, k3⟩; have A3 := A2.trans (k3.mono A2.size); replace N1 := N1.later k3))
          | (go_at_call 5; refine (s1 _ _ _ _ _ _ _ N1 N2).mono ?_; rintro e w4 ⟨rfl, k4⟩; have A4 := A3.trans (k4.mono A3.size)))
        all_goals
          go_wp2_with fail
          go_meet
          case rel => exact ⟨rfl, A4⟩
      case rest =>
        obtain ⟨rfl, kc⟩ := hcut
        have A2 := A1.trans (kc.mono A1.size)
        replace ra := row_later ra kc
        replace rb := row_later rb kc
        clear p0 p1 pl t0 t1 tl s1
        obtain ⟨p0, p1, pl⟩ := row_brd ra
        go_wp2_with fail
        refine (cT _ (hU.later A2) (hF.later A2)).mono ?_
        rintro e w4 ⟨g, g', rfl, N4, k4⟩
        have k4' := k4.alloc k4.size (.cells (brdV (some ⟨g, 0, none⟩) us.length us.length (some ⟨g', 0, none⟩) fs.length fs.length) 31)
        have A4 := A2.trans (k4'.mono A2.size)
        have rx := rowTwo w4 (.slice (some ⟨g, 0, none⟩) us.length us.length) (.slice (some ⟨g', 0, none⟩) fs.length fs.length) 31
        replace ra := row_later ra k4'
        replace rb := row_later rb k4'
        have N4' := N4.later ((Below.refl _ _).alloc (Nat.le_refl _) (.cells (brdV (some ⟨g, 0, none⟩) us.length us.length (some ⟨g', 0, none⟩) fs.length fs.length) 31))
        obtain ⟨w5, H5⟩ : ∃ w5, Hid (w5 = w4.alloc (.cells (brdV (some ⟨g, 0, none⟩) us.length us.length (some ⟨g', 0, none⟩) fs.length fs.length) 31)) := ⟨_, rfl⟩
        obtain ⟨X, HX⟩ : ∃ X, Hid (X = w4.heap.size) := ⟨_, rfl⟩
        rw [← H5.out] at A4 ra rb rx N4'
        rw [← HX.out] at rx
        clear p0 p1 pl k4 k4' N4 A2 kc
        go_upto_region 10 with fail
        rw [← H5.out, ← HX.out]
        obtain ⟨t0, t1, tl⟩ := row_brd rb
        go_wp2_with fail
        refine (cT2 _ (hU2.later A4) (hF2.later A4)).mono ?_
        rintro e w6 ⟨h, h', rfl, N6, k6⟩
        have k6' := k6.alloc k6.size (.cells (brdV (some ⟨h, 0, none⟩) us2.length us2.length (some ⟨h', 0, none⟩) fs2.length fs2.length) 31)
        have A6 := A4.trans (k6'.mono A4.size)
        have ry := rowTwo w6 (.slice (some ⟨h, 0, none⟩) us2.length us2.length) (.slice (some ⟨h', 0, none⟩) fs2.length fs2.length) 31
        replace ra := row_later ra k6'
        replace rb := row_later rb k6'
        replace rx := row_later rx k6'
        have N6' := N6.later ((Below.refl _ _).alloc (Nat.le_refl _) (.cells (brdV (some ⟨h, 0, none⟩) us2.length us2.length (some ⟨h', 0, none⟩) fs2.length fs2.length) 31))
        replace N4' := N4'.later k6'
        obtain ⟨w7, H7⟩ : ∃ w7, Hid (w7 = w6.alloc (.cells (brdV (some ⟨h, 0, none⟩) us2.length us2.length (some ⟨h', 0, none⟩) fs2.length fs2.length) 31)) := ⟨_, rfl⟩
        obtain ⟨Y, HY⟩ : ∃ Y, Hid (Y = w6.heap.size) := ⟨_, rfl⟩
        rw [← H7.out] at A6 ra rb rx ry N6' N4'
        rw [← HY.out] at ry
        clear t0 t1 tl k6 k6' N6 A4
        go_upto_region 11 with fail
        rw [← H7.out, ← HY.out]
        obtain ⟨x0, x1, xl⟩ := row_brd rx
        obtain ⟨y0, y1, yl⟩ := row_brd ry
        go_wp2_with fail
        refine (s2 _ _ _ _ _ _ _ N4' N6').mono ?_
        rintro e w8 ⟨rfl, k8⟩
        have A8 := A6.trans (k8.mono A6.size)
        replace ra := row_later ra k8
        replace rb := row_later rb k8
        replace rx := row_later rx k8
        replace ry := row_later ry k8
        replace N4' := N4'.later k8
        replace N6' := N6'.later k8
        clear x0 x1 xl y0 y1 yl k8 A6
        obtain ⟨p0, p1, pl⟩ := row_brd ra
        obtain ⟨x0, x1, xl⟩ := row_brd rx
        go_upto_region 14 with fail
        go_cut [39] from 35 to 38 (fun s39 wx => s39 = .bool false ∧ Below w8.heap.size w8 wx)
        case first =>
          go_region_with (first
            | (go_at_call 6; with_reducible refine (cT _ (hU.later A8.drew) (hF.later A8.drew)).mono ?_; rintro e w9 ⟨g3, g3', rfl, N9, k9⟩; have B9 := bel_drew k9; have N9b := N4'.later B9; have x0 := (row_brd (row_later rx B9)).c0; have x1 := (row_brd (row_later rx B9)).c1)
            | (go_at_call 8; with_reducible refine (N9b.eq N9 (by omega) (by omega)).mono ?_; rintro e w10 ⟨rfl, k10⟩; have B10 := B9.trans (k10.mono B9.size)))
          all_goals
            go_wp2_with fail
            go_meet
            case rel => exact ⟨rfl, B10⟩
        case rest =>
          obtain ⟨rfl, kc⟩ := hcut
          have A9 := A8.trans (kc.mono A8.size)
          replace rb := row_later rb kc
          replace ry := row_later ry kc
          replace N6' := N6'.later kc
          clear p0 p1 pl x0 x1 xl
          obtain ⟨t0, t1, tl⟩ := row_brd rb
          obtain ⟨y0, y1, yl⟩ := row_brd ry
          go_upto_region 16 with fail
          go_region_with (first
            | (go_at_call 6; with_reducible refine (cT2 _ (hU2.later A9.drew) (hF2.later A9.drew)).mono ?_; rintro e w9 ⟨g3, g3', rfl, N9, k9⟩; have B9 := bel_drew k9; have N9b := N6'.later B9; have y0 := (row_brd (row_later ry B9)).c0; have y1 := (row_brd (row_later ry B9)).c1)
            | (go_at_call 8; with_reducible refine (N9b.eq N9 (by omega) (by omega)).mono ?_; rintro e w10 ⟨rfl, k10⟩; have B10 := A9.trans ((B9.trans (k10.mono B9.size)).mono A9.size)))
          all_goals
            go_wp2_with fail
            go_ret
            exact ⟨rfl, B10⟩
    · rw [if_neg hs2] at q1
      go_enter Try.func3, Try.ntmps3
      go_wp2_with fail
      refine (q0 _).mono ?_
      rintro e w0 ⟨rfl, k0⟩
      have A0 := B0.trans (k0.mono B0.size)
      replace ra := row_later ra k0
      replace rb := row_later rb k0
      obtain ⟨p0, p1, pl⟩ := row_brd ra
      obtain ⟨t0, t1, tl⟩ := row_brd rb
      go_wp2_with fail
      refine (q1 _).mono ?_
      rintro e w1 ⟨rfl, k1⟩
      have A1 := A0.trans (k1.mono A0.size)
      go_wp2
      go_ret
      exact ⟨rfl, A1⟩
  · rw [if_neg hs] at q0
    go_enter Try.func3, Try.ntmps3
    go_wp2_with fail
    refine (q0 _).mono ?_
    rintro e w0 ⟨rfl, k0⟩
    have A0 := B0.trans (k0.mono B0.size)
    go_wp2
    go_ret
    exact ⟨rfl, A0⟩
end Go.Proofs.Ytcpgbhjnhahecab
