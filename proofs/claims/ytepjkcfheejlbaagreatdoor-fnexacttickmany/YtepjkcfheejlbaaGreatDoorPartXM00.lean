/- Texts of mine put together (a claim holds at most 60 files): TickLawM. -/
import Derived.Test.YtepjkcfheejlbaaGreatDoorPartT33
import Derived.Test.YtepjkcfheejlbaaGreatDoorPartT34
import Derived.Test.YtepjkcfheejlbaaGreatDoorPartT30
import Derived.Deep.Cut
import Derived.Deep.CutRange
import Derived.Deep.RegionWith

/- TickLawM -/
/- The walk of the exact law of TickMany. Condition: the homes lie in their variable. -/
section
namespace Go.Proofs.YtepjkcfheejlbaaGreatDoor
open Go.ChangeShapes Go.WideShapes Go.ChangeAt Go.RowKit
open Bd
set_option linter.unusedVariables false

theorem tm_len' (us : List K10) (fs : List K3) (rm : List Int) (n : Int) : ∃ ng nu nf, RLen (tmR us fs rm n) ng nu nf := by
  suffices h : (tmR us fs rm n).g.length ≤ 1000 ∧ (tmR us fs rm n).us.length ≤ 1000 ∧ (tmR us fs rm n).fs.length ≤ 1000 from ⟨_, _, _, rfl, rfl, rfl, h.1, h.2.1, h.2.2⟩
  rcases tm_cases us fs rm n with ⟨h1, e⟩ | ⟨h1, hf, e⟩ | ⟨h1, k, hk, _, e⟩
  · rw [e]; exact ⟨by show 0 ≤ 1000; omega, by show 0 ≤ 1000; omega, by show 0 ≤ 1000; omega⟩
  · rw [e]; exact ⟨by show 0 ≤ 1000; omega, by show 0 ≤ 1000; omega, by show 0 ≤ 1000; omega⟩
  · rw [e]
    have t := (tg0 h1).ticks k
    exact ⟨by show (tkN k _).gn.length ≤ _; rw [t.gl]; omega, by have := t.gd.n8; show (tkN k _).us.length ≤ _; omega, by have := t.gd.n4; show (tkN k _).fs.length ≤ _; omega⟩
set_option maxRecDepth 20000 in
set_option maxHeartbeats 16000000 in
theorem walk_fnExactTickMany (a : Option Addr) (m c : Nat) (a' : Option Addr) (m' c' : Nat) (us : List K10) (fs : List K3) (hx : m ≤ maxLen) (hx' : m' ≤ maxLen) (hl : us.length = m) (hl' : fs.length = m') (ar : Option Addr) (mr cr : Nat) (rm : List Int) (hxr : mr ≤ maxLen) (hlr : rm.length = mr) (n : Int) (W : World) (hU : ArgU W a us) (hF : ArgF W a' fs) (hR : ArgI W ar rm) (hL : HmAt W) :
    Calls Tryz.prog 7 #[.agg (brdV a m c a' m' c'), .slice ar mr cr, .int .i64 n] W fun e w' => e = .returned (.bool true) ∧ Below W.heap.size W w' := by
  unfold maxLen at hx hx' hxr
  subst hl hl' hlr
  have q0 := fun w => szBoard_c a us.length c a' fs.length c' (by omega) (by omega) w
  obtain ⟨W1, HW1⟩ : ∃ W1, Hid (W1 = W.alloc (.cells (brdV a us.length c a' fs.length c') 50)) := ⟨_, rfl⟩
  have B1 : Below W.heap.size W W1 := by rw [HW1.out]; exact (Below.refl _ _).alloc (Nat.le_refl _) _
  have rb : W1.rowIs W.heap.size 50 2 (fun i => if i = 0 then .slice a us.length c else .slice a' fs.length c') := by rw [HW1.out]; exact rowTwo W _ _ _
  by_cases hbig : 1048576 < rm.length
  · have hb' : (1048576 : Int) < (rm.length : Int) := by omega
    clear q0
    go_enter Tryz.func7, Tryz.ntmps7
    go_upto_region 1 with fail
    rw [← HW1.out]
    go_wp2_with fail
    go_ret
    exact ⟨rfl, B1⟩
  have hb' : decide ((1048576 : Int) < (rm.length : Int)) = false := decide_eq_false (by omega)
  by_cases hs : us.length + fs.length ≤ 1048576
  · rw [if_pos hs] at q0
    have d : decide ((1048576 : Int) - (us.length : Int) - (fs.length : Int) < 0) = false := decide_eq_false (by omega)
    have cT := fun w (hB : Below W.heap.size W w) => toBoard_c a c a' c' us fs (by omega) (by omega) w (hU.later hB) (hF.later hB)
    have cI := fun w (hB : Below W.heap.size W w) => toInt64S_c ar rm.length cr rm rfl (by omega) w (hR.later hB)
    have s1 := fun g g' gr w h => specTickMany (some ⟨g, 0, none⟩) us.length us.length (some ⟨g', 0, none⟩) fs.length fs.length gr 0 rm.length rm.length us fs n rm w h
    have s2 := fun g g' gr w (hB : Below W.heap.size W w) h => implTickMany (some ⟨g, 0, none⟩) us.length us.length (some ⟨g', 0, none⟩) fs.length fs.length gr 0 rm.length rm.length us fs n rm w (hL.later hB) h
    obtain ⟨ng, nu, nf, hn⟩ : ∃ ng nu nf, RLen (tmR us fs rm n) ng nu nf := tm_len' us fs rm n
    generalize tmR us fs rm n = r at s1 s2 hn
    have lg := hn.lg
    have lu := hn.lu
    have lf := hn.lf
    have Hn : Hid (RLen r ng nu nf) := hn
    have cE := fun a1 a2 a3 b1 b2 b3 p1 p2 p3 q1 q2 q3 x y w h1 h2 => eqTR r ng nu nf hn a1 a2 a3 b1 b2 b3 p1 p2 p3 q1 q2 q3 x y w h1 h2
    have hrl : rm.length ≤ 1048576 := by omega
    have hul : us.length ≤ 1048576 := by omega
    have hfl : fs.length ≤ 1048576 := by omega
    clear hn hU hF hR hL hs hbig
    obtain ⟨p0, p1, pl⟩ := row_brd rb
    go_enter Tryz.func7, Tryz.ntmps7
    go_upto_region 1 with fail
    rw [← HW1.out]
    go_wp2_with fail
    refine (q0 _).mono ?_
    rintro e w1 ⟨rfl, k1⟩
    have B2 := B1.trans (k1.mono B1.size)
    replace rb := row_later rb k1
    clear p0 p1 pl
    obtain ⟨p0, p1, pl⟩ := row_brd rb
    go_wp2_with fail
    refine (cT _ B2).mono ?_
    rintro e w2 ⟨g, g', rfl, N2, k2⟩
    have B3 := B2.trans (k2.mono B2.size)
    go_wp2_with fail
    refine (cI _ B3).mono ?_
    rintro e w3 ⟨rfl, L3, k3⟩
    have B4 := B3.trans (k3.mono B3.size)
    go_wp2_with fail
    refine (s1 g g' w2.heap.size w3 (tin_of (N2.later k3) L3 rfl (by omega))).mono ?_
    rintro e w4 ⟨v1, v2, v3, rfl, R4, k4⟩
    have B5 := B4.trans (k4.mono B4.size)
    obtain ⟨a1, a2, a3, y1, y2, y3, e1, e2, e3⟩ := R4.forms Hn.out
    subst e1 e2 e3
    obtain ⟨w5, H5⟩ : ∃ w5, Hid (w5 = w4.alloc (.cells (resV r.c (.slice a1 ng y1) r.l (.slice a2 nu y2) (.slice a3 nf y3)) 32)) := ⟨_, rfl⟩
    obtain ⟨S, HS⟩ : ∃ S, Hid (S = w4.heap.size) := ⟨_, rfl⟩
    have A5 : RA w5 w3.heap.size S r (.slice a1 ng y1) (.slice a2 nu y2) (.slice a3 nf y3) := by rw [H5.out, HS.out]; exact RA.new R4 k4.size
    have hA5 := A5.lt
    have hSr := rb.lt
    have zz2 := k2.size
    have zz3 := k3.size
    have k5 : Below w4.heap.size w4 w5 := by rw [H5.out]; exact (Below.refl _ _).alloc (Nat.le_refl _) _
    have B6 := B5.trans (k5.mono B5.size)
    have zz4 := k4.size
    have zz5 := k5.size
    replace rb := row_later (row_later (row_later (row_later rb k2) k3) k4) k5
    clear p0 p1 pl N2 L3 R4
    go_upto_region 8 with fail
    rw [← H5.out, ← HS.out]
    obtain ⟨p0, p1, pl⟩ := row_brd rb
    go_wp2_with fail
    refine (cT _ B6).mono ?_
    rintro e w6 ⟨h, h', rfl, N6, k6⟩
    have B7 := B6.trans (k6.mono B6.size)
    obtain ⟨w7, H7⟩ : ∃ w7, Hid (w7 = w6.alloc (.cells (brdV (some ⟨h, 0, none⟩) us.length us.length (some ⟨h', 0, none⟩) fs.length fs.length) 27)) := ⟨_, rfl⟩
    obtain ⟨X, HX⟩ : ∃ X, Hid (X = w6.heap.size) := ⟨_, rfl⟩
    have k7 : Below w6.heap.size w6 w7 := by rw [H7.out]; exact (Below.refl _ _).alloc (Nat.le_refl _) _
    have rx : w7.rowIs X 27 2 (fun i => if i = 0 then .slice (some ⟨h, 0, none⟩) us.length us.length else .slice (some ⟨h', 0, none⟩) fs.length fs.length) := by rw [H7.out, HX.out]; exact rowTwo w6 _ _ _
    have B8 := B7.trans (k7.mono B7.size)
    replace rb := row_later (row_later rb k6) k7
    replace A5 := (A5.later k6).later k7
    have nle := N6.le
    have nlt := N6.lt
    have nh := N6.u.lt
    have nh' := N6.f.lt
    have A5lt : ∀ b, ABlk S (.slice a1 ng y1) (.slice a2 nu y2) (.slice a3 nf y3) b → w3.heap.size ≤ b ∧ b < w5.heap.size := hA5
    replace N6 := N6.later k7
    clear p0 p1 pl
    go_upto_region 9 with fail
    rw [← H7.out, ← HX.out]
    go_wp2_with fail
    refine (cI _ B8).mono ?_
    rintro e w8 ⟨rfl, L8, k8⟩
    obtain ⟨Y, HY⟩ : ∃ Y, Hid (Y = w7.heap.size) := ⟨_, rfl⟩
    rw [← HY.out] at L8 ⊢
    have hY8 := L8.lt
    have hYa : w7.heap.size ≤ Y := Nat.le_of_eq HY.out.symm
    have hYb : Y ≤ w7.heap.size := Nat.le_of_eq HY.out
    have hXa : w6.heap.size ≤ X := Nat.le_of_eq HX.out.symm
    have hXb : X ≤ w6.heap.size := Nat.le_of_eq HX.out
    have zz7 := k7.size
    have zz6 := k6.size
    have zz8 := k8.size
    have hX7 : X < w7.heap.size := rx.lt
    have B9 := B8.trans (k8.mono B8.size)
    replace rb := row_later rb k8
    replace rx := row_later rx k8
    replace A5 := A5.later k8
    replace N6 := N6.later k8
    obtain ⟨x0, x1, xl⟩ := row_brd rx
    go_wp2_with fail
    refine (s2 h h' Y w8 B9 (tin_of N6 L8 rfl (by omega))).mono ?_
    rintro e w9 ⟨u1, u2, u3, rfl, R9, k9⟩
    have B10 := B9.trans (k9.mono B9.size)
    obtain ⟨b1, b2, b3, z1, z2, z3, e1, e2, e3⟩ := R9.forms Hn.out
    subst e1 e2 e3
    obtain ⟨w10, H10⟩ : ∃ w10, Hid (w10 = w9.alloc (.cells (resV r.c (.slice b1 ng z1) r.l (.slice b2 nu z2) (.slice b3 nf z3)) 32)) := ⟨_, rfl⟩
    obtain ⟨G, HG⟩ : ∃ G, Hid (G = w9.heap.size) := ⟨_, rfl⟩
    have A10 : RA w10 w8.heap.size G r (.slice b1 ng z1) (.slice b2 nu z2) (.slice b3 nf z3) := by rw [H10.out, HG.out]; exact RA.new R9 k9.size
    have k10 : Below w9.heap.size w9 w10 := by rw [H10.out]; exact (Below.refl _ _).alloc (Nat.le_refl _) _
    have B11 := B10.trans (k10.mono B10.size)
    replace rb := row_later (row_later rb k9) k10
    replace rx := row_later (row_later rx k9) k10
    replace A5 := (A5.later k9).later k10
    replace N6 := (N6.later k9).later k10
    replace L8 := (L8.below k9).below k10
    have A10lt : ∀ b, ABlk G (.slice b1 ng z1) (.slice b2 nu z2) (.slice b3 nf z3) b → w8.heap.size ≤ b := fun b hb => (A10.lt b hb).1
    clear x0 x1 xl R9
    go_upto_region 11 with fail
    rw [← H10.out, ← HG.out]
    obtain ⟨i0, i1, i2, i3, i4, il⟩ := A5.cells
    obtain ⟨j0, j1, j2, j3, j4, jl⟩ := A10.cells
    go_wp2_with fail
    refine (cE _ _ _ _ _ _ _ _ _ _ _ _ _ _ _ A10.is A5.is).mono ?_
    rintro e w11 ⟨rfl, k11⟩
    have B12 := B11.trans (k11.mono B11.size)
    replace rb := row_later rb k11
    replace rx := row_later rx k11
    replace A5 := A5.later k11
    replace A10 := A10.later k11
    replace N6 := N6.later k11
    replace L8 := L8.below k11
    clear i0 i1 i2 i3 i4 il j0 j1 j2 j3 j4 jl
    obtain ⟨p0, p1, pl⟩ := row_brd rb
    obtain ⟨x0, x1, xl⟩ := row_brd rx
    go_upto_region 13 with fail
    go_cut [46] from 42 to 45 (fun sc wx => sc = .bool false ∧ Below w11.heap.size w11 wx)
    case first =>
      go_region_with (first
        | (go_at_call 26; with_reducible refine (cT _ B12.drew).mono ?_; rintro e wa ⟨g3, g3', rfl, Na, ka⟩; have Ba := bel_drew ka; have Nb := N6.later Ba; have x0 := (row_brd (row_later rx Ba)).c0; have x1 := (row_brd (row_later rx Ba)).c1)
        | (go_at_call 29; with_reducible refine (Nb.eq Na (by omega) (by omega)).mono ?_; rintro e wb ⟨rfl, kb⟩; have Bb := Ba.trans (kb.mono Ba.size)))
      all_goals
        go_wp2_with fail
        go_meet
        case rel => exact ⟨rfl, Bb⟩
    case rest =>
      obtain ⟨rfl, kc⟩ := hcut
      obtain ⟨w12, hwx⟩ : ∃ y : World, y = wc := ⟨_, rfl⟩
      subst hwx
      have B13 := B12.trans (kc.mono B12.size)
      replace rb := row_later rb kc
      replace rx := row_later rx kc
      replace A5 := A5.later kc
      replace A10 := A10.later kc
      replace N6 := N6.later kc
      replace L8 := L8.below kc
      clear p0 p1 pl x0 x1 xl kc
      go_wp2_with fail
      refine (cI _ B13).mono ?_
      rintro e w13 ⟨rfl, L13, k13⟩
      have B14 := B13.trans (k13.mono B13.size)
      replace rb := row_later rb k13
      replace rx := row_later rx k13
      replace A5 := A5.later k13
      replace A10 := A10.later k13
      replace N6 := N6.later k13
      replace L8 := L8.below k13
      go_wp2_with fail
      refine (eqInt64S_same _ _ _ _ _ rm.length rm rfl (by omega) L8 L13).mono ?_
      rintro e w14 ⟨rfl, nq, hw14⟩
      have k14 : Below w13.heap.size w13 w14 := by rw [hw14]; exact below_drewN _ _
      clear hw14
      have B15 := B14.trans (k14.mono B14.size)
      replace rb := row_later rb k14
      replace rx := row_later rx k14
      replace A5 := A5.later k14
      replace A10 := A10.later k14
      replace N6 := N6.later k14
      replace L8 := L8.below k14
      clear L13
      obtain ⟨x0, x1, xl⟩ := row_brd rx
      go_upto_region 18 with fail
      go_wp2_with fail
      refine (markBoard_c _ N6 (by omega) (by omega)).mono ?_
      rintro e w15 ⟨rfl, k15⟩
      have K15 := KeptS.of2 k15
      have B16 : Below W.heap.size W w15 := K15.below B15 B15.size (fun q _ e => by rcases e with e | e <;> omega)
      replace L8 := L8.of_block (K15.block Y L8.lt (by rintro (e | e) <;> omega))
      replace rb := row_kept rb K15 (by rintro (e | e) <;> omega)
      replace A5 := A5.kept K15 (fun b hb => by have := A5lt b hb; rintro (e | e) <;> omega)
      replace A10 := A10.kept K15 (fun b hb => by have := A10lt b hb; rintro (e | e) <;> omega)
      clear x0 x1 xl rx N6 k15 K15
      go_wp2_with fail
      refine (markInt64S_any _ Y _ rm.length (1 + 10 * (us.length : Int) + 3 * (fs.length : Int)) rm rfl (by omega) (by omega) (by omega) L8).mono ?_
      rintro e w16 ⟨rfl, _, g16⟩
      have K16 := KeptS.ofG g16
      have B17 : Below W.heap.size W w16 := K16.below B16 B16.size (fun q _ e => by omega)
      replace rb := row_kept rb K16 (by omega)
      replace A5 := A5.kept K16 (fun b hb => by have := A5lt b hb; omega)
      replace A10 := A10.kept K16 (fun b hb => by have := A10lt b hb; omega)
      have dk : decide ((1 : Int) + 10 * (us.length : Int) + 3 * (fs.length : Int) + (rm.length : Int) < 0) = false := decide_eq_false (by omega)
      clear L8 g16 K16
      obtain ⟨i0, i1, i2, i3, i4, il⟩ := A5.cells
      obtain ⟨j0, j1, j2, j3, j4, jl⟩ := A10.cells
      go_wp2_with fail
      refine (cE _ _ _ _ _ _ _ _ _ _ _ _ _ _ _ A10.is A5.is).mono ?_
      rintro e w17 ⟨rfl, k17⟩
      have B18 := B17.trans (k17.mono B17.size)
      replace rb := row_later rb k17
      replace A5 := A5.later k17
      replace A10 := A10.later k17
      clear i0 i1 i2 i3 i4 il j0 j1 j2 j3 j4 jl
      obtain ⟨j0, j1, j2, j3, j4, jl⟩ := A10.cells
      have cM := markTR r ng nu nf Hn.out b1 b2 b3 z1 z2 z3 _ w17 A10.is
      go_upto_region 23 with fail
      go_wp2_with fail
      refine cM.mono ?_
      rintro e w18 ⟨rfl, M18, K18⟩
      have B19 : Below W.heap.size W w18 := K18.below B18 B18.size (fun q _ e => by have := A10lt q (.inr e); omega)
      replace rb := row_kept rb K18 (fun e => by have := A10lt _ (.inr e); omega)
      replace A5 := A5.kept K18 (fun b hb e => by have := A10lt b (.inr e); have := A5lt b hb; omega)
      have rg := row_kept A10.row K18 A10.ne
      clear j0 j1 j2 j3 j4 jl cM K18 A10
      have gcells : ∀ w', Below w18.heap.size w18 w' → w'.cell? ⟨G, 0, none⟩ = some (.int .i64 r.c) ∧ w'.cell? ⟨G, 1, none⟩ = some (.slice b1 ng z1) ∧ w'.cell? ⟨G, 2, none⟩ = some (.int .i64 r.l) ∧ w'.cell? ⟨G, 3, none⟩ = some (.slice b2 nu z2) ∧ w'.cell? ⟨G, 4, none⟩ = some (.slice b3 nf z3) ∧ G < w'.heap.size := fun w' hb => by
        have r' := row_later rg hb
        exact ⟨r'.cell (i := 0) (by omega), r'.cell (i := 1) (by omega), r'.cell (i := 2) (by omega), r'.cell (i := 3) (by omega), r'.cell (i := 4) (by omega), r'.lt⟩
      obtain ⟨j0, j1, j2, j3, j4, jl⟩ := gcells _ (Below.refl _ _)
      have hd1 : decide ((1 : Int) + (ng : Int) + 10 * (nu : Int) + 3 * (nf : Int) < 0) = false := decide_eq_false (by omega)
      have hd2 : (((1 : Int) + (ng : Int) + 10 * (nu : Int) + 3 * (nf : Int)) != (1 + (ng : Int) + 10 * (nu : Int) + 3 * (nf : Int))) = false := by simp
      go_upto_region 25 with fail
      go_wp2_with fail
      refine (heldTR r.c r.l ng nu nf lg lu lf b1 b2 b3 z1 z2 z3 _ M18).mono ?_
      rintro e w19 ⟨rfl, k19⟩
      have B20 := B19.trans (k19.mono B19.size)
      replace rb := row_later rb k19
      replace A5 := A5.later k19
      have M19 := M18.later k19
      clear j0 j1 j2 j3 j4 jl
      obtain ⟨p0, p1, pl⟩ := row_brd rb
      go_upto_region 30 with fail
      go_wp2_with fail
      refine (cT _ B20).mono ?_
      rintro e w20 ⟨g9, g9', rfl, N20, k20⟩
      have B21 := B20.trans (k20.mono B20.size)
      go_wp2_with fail
      refine (cI _ B21).mono ?_
      rintro e w21 ⟨rfl, L21, k21⟩
      have B22 := B21.trans (k21.mono B21.size)
      go_wp2_with fail
      refine (s2 g9 g9' w20.heap.size w21 B22 (tin_of (N20.later k21) L21 rfl (by omega))).mono ?_
      rintro e w22 ⟨o1, o2, o3, rfl, R22, k22⟩
      have B23 := B22.trans (k22.mono B22.size)
      obtain ⟨l1, l2, l3, t1, t2, t3, e1, e2, e3⟩ := R22.forms Hn.out
      subst e1 e2 e3
      obtain ⟨w23, H23⟩ : ∃ w23, Hid (w23 = w22.alloc (.cells (resV r.c (.slice l1 ng t1) r.l (.slice l2 nu t2) (.slice l3 nf t3)) 32)) := ⟨_, rfl⟩
      obtain ⟨Z, HZ⟩ : ∃ Z, Hid (Z = w22.heap.size) := ⟨_, rfl⟩
      have A23 : RA w23 w21.heap.size Z r (.slice l1 ng t1) (.slice l2 nu t2) (.slice l3 nf t3) := by rw [H23.out, HZ.out]; exact RA.new R22 k22.size
      have k23 : Below w22.heap.size w22 w23 := by rw [H23.out]; exact (Below.refl _ _).alloc (Nat.le_refl _) _
      have B24 := B23.trans (k23.mono B23.size)
      have K23 := ((k20.trans (k21.mono k20.size)).trans (k22.mono (k20.trans (k21.mono k20.size)).size)).trans (k23.mono ((k20.trans (k21.mono k20.size)).trans (k22.mono (k20.trans (k21.mono k20.size)).size)).size)
      replace A5 := A5.later K23
      have M23 := M19.later K23
      have KG := k19.trans (K23.mono k19.size)
      clear p0 p1 pl rb N20 L21 R22
      go_upto_region 31 with fail
      rw [← H23.out, ← HZ.out]
      obtain ⟨i0, i1, i2, i3, i4, il⟩ := A5.cells
      obtain ⟨j0, j1, j2, j3, j4, jl⟩ := A23.cells
      go_wp2_with fail
      refine (cE _ _ _ _ _ _ _ _ _ _ _ _ _ _ _ A23.is A5.is).mono ?_
      rintro e w24 ⟨rfl, k24⟩
      have B25 := B24.trans (k24.mono B24.size)
      have M24 := M23.later k24
      clear i0 i1 i2 i3 i4 il j0 j1 j2 j3 j4 jl
      obtain ⟨j0, j1, j2, j3, j4, jl⟩ := gcells _ (KG.trans (k24.mono KG.size))
      go_upto_region 34 with fail
      go_wp2_with fail
      refine (heldTR r.c r.l ng nu nf lg lu lf b1 b2 b3 z1 z2 z3 _ M24).mono ?_
      rintro e w25 ⟨rfl, k25⟩
      have B26 := B25.trans (k25.mono B25.size)
      go_wp2_with fail
      go_ret
      exact ⟨rfl, B26⟩
  · rw [if_neg hs] at q0
    obtain ⟨p0, p1, pl⟩ := row_brd rb
    go_enter Tryz.func7, Tryz.ntmps7
    go_upto_region 1 with fail
    rw [← HW1.out]
    go_wp2_with fail
    refine (q0 _).mono ?_
    rintro e w1 ⟨rfl, k1⟩
    have B2 := B1.trans (k1.mono B1.size)
    go_wp2_with fail
    go_ret
    exact ⟨rfl, B2⟩
end Go.Proofs.YtepjkcfheejlbaaGreatDoor
end
