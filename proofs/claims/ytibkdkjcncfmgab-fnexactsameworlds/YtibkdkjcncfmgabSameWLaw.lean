/- The walk of the exact law of SameWorlds. No condition. -/
import Derived.Test.YtibkdkjcncfmgabSameW3
import Derived.Deep.RegionHeld3
namespace Go.Proofs.Ytibkdkjcncfmgab
open Go.ChangeShapes Go.WideShapes Go.ChangeAt Go.RowKit
set_option linter.unusedVariables false

set_option maxRecDepth 20000 in
set_option maxHeartbeats 16000000 in
theorem walk_fnExactSameWorlds (P1 : WP) (X1 : KW) (hx : X1.us.length ≤ maxLen ∧ X1.fs.length ≤ maxLen ∧ X1.fa.length ≤ maxLen ∧ X1.se.length ≤ maxLen ∧ X1.oo.length ≤ maxLen) (P2 : WP) (X2 : KW) (hy : X2.us.length ≤ maxLen ∧ X2.fs.length ≤ maxLen ∧ X2.fa.length ≤ maxLen ∧ X2.se.length ≤ maxLen ∧ X2.oo.length ≤ maxLen) (W : World) (g1 : ArgW W P1 X1) (g2 : ArgW W P2 X2) :
    Calls Try.prog 3 #[.agg (P1.v X1), .agg (P2.v X2)] W fun e w' => e = .returned (.bool true) ∧ Below W.heap.size W w' := by
  have z1 := fun w => szWorld_c X1.t X1.s P1.u X1.us.length P1.uc P1.f X1.fs.length P1.fc P1.a X1.fa.length P1.ac P1.s X1.se.length P1.sc P1.o X1.oo.length P1.oc 1048576 (by omega) (by omega) hx.1 hx.2.1 hx.2.2.1 hx.2.2.2.1 hx.2.2.2.2 w
  have z2 := fun (L : Int) (h0 : 0 ≤ L) (hL : L ≤ 1048576) w => szWorld_c X2.t X2.s P2.u X2.us.length P2.uc P2.f X2.fs.length P2.fc P2.a X2.fa.length P2.ac P2.s X2.se.length P2.sc P2.o X2.oo.length P2.oc L h0 hL hy.1 hy.2.1 hy.2.2.1 hy.2.2.2.1 hy.2.2.2.2 w
  have cT1 := fun (hm : X1.n ≤ 1048576) w h => toWorld_c P1 X1 hm w h
  have cT2 := fun (hm : X2.n ≤ 1048576) w h => toWorld_c P2 X2 hm w h
  have sS := fun (hm : X1.n ≤ 1048576) (hn : X2.n ≤ 1048576) (w : World) base base2 gu gf ga gs go hu hf ha hs ho (N1 : NewW w base gu gf ga gs go X1) (N2 : NewW w base2 hu hf ha hs ho X2) => specSameWorlds N1 N2 hm hn
  have iS := fun (hm : X1.n ≤ 1048576) (hn : X2.n ≤ 1048576) (w : World) base base2 gu gf ga gs go hu hf ha hs ho (N1 : NewW w base gu gf ga gs go X1) (N2 : NewW w base2 hu hf ha hs ho X2) => implSameWorlds N1 N2 hm hn
  have e1 := fun (hm : X1.n ≤ 1048576) (w : World) base base2 gu gf ga gs go hu hf ha hs ho (N1 : NewW w base gu gf ga gs go X1) (N2 : NewW w base2 hu hf ha hs ho X1) => eqWorld_same N1 N2 hm
  have e2 := fun (hm : X2.n ≤ 1048576) (w : World) base base2 gu gf ga gs go hu hf ha hs ho (N1 : NewW w base gu gf ga gs go X2) (N2 : NewW w base2 hu hf ha hs ho X2) => eqWorld_same N1 N2 hm
  have hn1 : X1.n = X1.us.length + X1.fs.length + X1.fa.length + X1.se.length + X1.oo.length := rfl
  have hn2 : X2.n = X2.us.length + X2.fs.length + X2.fa.length + X2.se.length + X2.oo.length := rfl
  generalize sameW X1 X2 = R at sS iS
  have nR : (R != R) = false := by simp
  -- the two boxes
  obtain ⟨W0, HW0⟩ : ∃ W0, Hid (W0 = (W.alloc (.cells (P1.v X1) 30)).alloc (.cells (P2.v X2) 30)) := ⟨_, rfl⟩
  have B0 : Below W.heap.size W W0 := by rw [HW0.out]; exact ((Below.refl _ _).alloc (Nat.le_refl _) _).alloc (by rw [size_new]; omega) _
  have KA : Bk W0 W.heap.size (P1.v X1) 30 := by rw [HW0.out]; exact (Bk.new W (P1.v X1) 30).alloc _
  have KB : Bk W0 (W.heap.size + 1) (P2.v X2) 30 := by rw [HW0.out]; have h := Bk.new (W.alloc (.cells (P1.v X1) 30)) (P2.v X2) 30; rw [size_new] at h; exact h
  have keepA : ∀ w', Below W0.heap.size W0 w' → w'.cell? ⟨W.heap.size, 0, none⟩ = some (.int .i64 X1.t) ∧ w'.cell? ⟨W.heap.size, 1, none⟩ = some (.int .i64 X1.s) ∧ w'.cell? ⟨W.heap.size, 2, none⟩ = some (.slice P1.u X1.us.length P1.uc) ∧ w'.cell? ⟨W.heap.size, 3, none⟩ = some (.slice P1.f X1.fs.length P1.fc) ∧ w'.cell? ⟨W.heap.size, 4, none⟩ = some (.slice P1.a X1.fa.length P1.ac) ∧ w'.cell? ⟨W.heap.size, 5, none⟩ = some (.slice P1.s X1.se.length P1.sc) ∧ w'.cell? ⟨W.heap.size, 6, none⟩ = some (.slice P1.o X1.oo.length P1.oc) ∧ W.heap.size < w'.heap.size := fun w' hb => by
    have q := KA.below hb
    exact ⟨q.cell rfl, q.cell rfl, q.cell rfl, q.cell rfl, q.cell rfl, q.cell rfl, q.cell rfl, q.lt⟩
  have keepB : ∀ w', Below W0.heap.size W0 w' → w'.cell? ⟨W.heap.size + 1, 0, none⟩ = some (.int .i64 X2.t) ∧ w'.cell? ⟨W.heap.size + 1, 1, none⟩ = some (.int .i64 X2.s) ∧ w'.cell? ⟨W.heap.size + 1, 2, none⟩ = some (.slice P2.u X2.us.length P2.uc) ∧ w'.cell? ⟨W.heap.size + 1, 3, none⟩ = some (.slice P2.f X2.fs.length P2.fc) ∧ w'.cell? ⟨W.heap.size + 1, 4, none⟩ = some (.slice P2.a X2.fa.length P2.ac) ∧ w'.cell? ⟨W.heap.size + 1, 5, none⟩ = some (.slice P2.s X2.se.length P2.sc) ∧ w'.cell? ⟨W.heap.size + 1, 6, none⟩ = some (.slice P2.o X2.oo.length P2.oc) ∧ W.heap.size + 1 < w'.heap.size := fun w' hb => by
    have q := KB.below hb
    exact ⟨q.cell rfl, q.cell rfl, q.cell rfl, q.cell rfl, q.cell rfl, q.cell rfl, q.cell rfl, q.lt⟩
  have gA := fun w' (hb : Below W0.heap.size W0 w') => g1.later (B0.trans (hb.mono B0.size))
  have gB := fun w' (hb : Below W0.heap.size W0 w') => g2.later (B0.trans (hb.mono B0.size))
  obtain ⟨a0, a1, a2, a3, a4, a5, a6, al⟩ := keepA _ (Below.refl _ _)
  go_enter Try.func3, Try.ntmps3
  go_upto_region 2 with fail
  rw [← HW0.out]
  go_wp2_with fail
  refine (z1 _).mono ?_
  rintro e w1 ⟨rfl, k1⟩
  clear a0 a1 a2 a3 a4 a5 a6 al
  by_cases s1 : ((X1.us.length : Int) + X1.fs.length + X1.fa.length + X1.se.length + X1.oo.length) ≤ 1048576
  · rw [if_pos s1]
    have m1 : X1.n ≤ 1048576 := by omega
    have dd1 : decide ((1048576 : Int) - ((X1.us.length : Int) + X1.fs.length + X1.fa.length + X1.se.length + X1.oo.length) < 0) = false := decide_eq_false (by omega)
    obtain ⟨L1, HL1⟩ : ∃ L : Int, Hid (L = (1048576 : Int) - ((X1.us.length : Int) + X1.fs.length + X1.fa.length + X1.se.length + X1.oo.length)) := ⟨_, rfl⟩
    have hL1 : 0 ≤ L1 ∧ L1 ≤ 1048576 := by rw [HL1.out]; omega
    rw [← HL1.out] at dd1 ⊢
    replace z2 := z2 L1 hL1.1 hL1.2
    obtain ⟨b0, b1, b2, b3, b4, b5, b6, bl⟩ := keepB _ k1
    go_wp2_with fail
    refine (z2 _).mono ?_
    rintro e w2 ⟨rfl, k2⟩
    clear b0 b1 b2 b3 b4 b5 b6 bl
    have K2 := k1.trans (k2.mono k1.size)
    by_cases s2 : ((X2.us.length : Int) + X2.fs.length + X2.fa.length + X2.se.length + X2.oo.length) ≤ L1
    · rw [if_pos s2]
      have m2 : X2.n ≤ 1048576 := by omega
      have dd2 : decide (L1 - ((X2.us.length : Int) + X2.fs.length + X2.fa.length + X2.se.length + X2.oo.length) < 0) = false := decide_eq_false (by omega)
      replace cT1 := cT1 m1
      replace cT2 := cT2 m2
      replace sS := sS m1 m2
      replace iS := iS m1 m2
      replace e1 := e1 m1
      replace e2 := e2 m2
      obtain ⟨a0, a1, a2, a3, a4, a5, a6, al⟩ := keepA _ K2
      obtain ⟨b0, b1, b2, b3, b4, b5, b6, bl⟩ := keepB _ K2
      have Bc : Below W0.heap.size W0 w2.drew := K2.trans ((Below.refl _ _).drew.mono K2.size)
      go_upto_region 8 with fail
      go_region_held3 (fun w' => w'.cell? ⟨W.heap.size, 0, none⟩ = some (.int .i64 X1.t) ∧ w'.cell? ⟨W.heap.size, 1, none⟩ = some (.int .i64 X1.s) ∧ w'.cell? ⟨W.heap.size, 2, none⟩ = some (.slice P1.u X1.us.length P1.uc) ∧ w'.cell? ⟨W.heap.size, 3, none⟩ = some (.slice P1.f X1.fs.length P1.fc) ∧ w'.cell? ⟨W.heap.size, 4, none⟩ = some (.slice P1.a X1.fa.length P1.ac) ∧ w'.cell? ⟨W.heap.size, 5, none⟩ = some (.slice P1.s X1.se.length P1.sc) ∧ w'.cell? ⟨W.heap.size, 6, none⟩ = some (.slice P1.o X1.oo.length P1.oc) ∧ w'.cell? ⟨W.heap.size + 1, 0, none⟩ = some (.int .i64 X2.t) ∧ w'.cell? ⟨W.heap.size + 1, 1, none⟩ = some (.int .i64 X2.s) ∧ w'.cell? ⟨W.heap.size + 1, 2, none⟩ = some (.slice P2.u X2.us.length P2.uc) ∧ w'.cell? ⟨W.heap.size + 1, 3, none⟩ = some (.slice P2.f X2.fs.length P2.fc) ∧ w'.cell? ⟨W.heap.size + 1, 4, none⟩ = some (.slice P2.a X2.fa.length P2.ac) ∧ w'.cell? ⟨W.heap.size + 1, 5, none⟩ = some (.slice P2.s X2.se.length P2.sc) ∧ w'.cell? ⟨W.heap.size + 1, 6, none⟩ = some (.slice P2.o X2.oo.length P2.oc)) (first | exact (by obtain ⟨c0, c1, c2, c3, c4, c5, c6, _⟩ := keepA _ Bc; obtain ⟨d0, d1, d2, d3, d4, d5, d6, _⟩ := keepB _ Bc; exact ⟨c0, c1, c2, c3, c4, c5, c6, d0, d1, d2, d3, d4, d5, d6⟩) | go_keep) (first
        | (go_at_call 6; with_reducible refine (cT1 _ (gA _ Bc)).mono ?_; rintro e wn ⟨gu, gf, ga, gs, go, rfl, Na, kn⟩; have Bc := Bc.trans (kn.mono Bc.size); obtain ⟨a0, a1, a2, a3, a4, a5, a6, al⟩ := keepA _ Bc; obtain ⟨b0, b1, b2, b3, b4, b5, b6, bl⟩ := keepB _ Bc)
        | (go_at_call 6; with_reducible refine (cT2 _ (gB _ Bc)).mono ?_; rintro e wn ⟨hu, hf, ha, hs, ho, rfl, Nb, kn⟩; replace Na := Na.later kn; have Bc := Bc.trans (kn.mono Bc.size); obtain ⟨a0, a1, a2, a3, a4, a5, a6, al⟩ := keepA _ Bc; obtain ⟨b0, b1, b2, b3, b4, b5, b6, bl⟩ := keepB _ Bc)
        | (go_at_call 5; refine (sS _ _ _ _ _ _ _ _ _ _ _ _ _ Na Nb).mono ?_; rintro e wn ⟨rfl, kn⟩; have Bc := Bc.trans (kn.mono Bc.size); obtain ⟨a0, a1, a2, a3, a4, a5, a6, al⟩ := keepA _ Bc; obtain ⟨b0, b1, b2, b3, b4, b5, b6, bl⟩ := keepB _ Bc))
      all_goals
        go_wp2_with fail
        refine (cT1 _ (gA _ Bc)).mono ?_
        rintro e w3 ⟨gu, gf, ga, gs, go, rfl, N1, k3⟩
        have B3 := Bc.trans (k3.mono Bc.size)
        obtain ⟨W4, HW4⟩ : ∃ W4, Hid (W4 = w3.alloc (.cells ((nwp gu gf ga gs go X1).v X1) 41)) := ⟨_, rfl⟩
        have k4 : Below w3.heap.size w3 W4 := by rw [HW4.out]; exact (Below.refl _ _).alloc (Nat.le_refl _) _
        have QX : Bk W4 w3.heap.size ((nwp gu gf ga gs go X1).v X1) 41 := by rw [HW4.out]; exact Bk.new w3 ((nwp gu gf ga gs go X1).v X1) 41
        have B4 := B3.trans (k4.mono B3.size)
        replace N1 := N1.later k4
        clear a0 a1 a2 a3 a4 a5 a6 al b0 b1 b2 b3 b4 b5 b6 bl
        obtain ⟨a0, a1, a2, a3, a4, a5, a6, al⟩ := keepA _ B4
        obtain ⟨b0, b1, b2, b3, b4, b5, b6, bl⟩ := keepB _ B4
        go_upto_region 10 with fail
        rw [← HW4.out]
        go_wp2_with fail
        refine (cT2 _ (gB _ B4)).mono ?_
        rintro e w5 ⟨hu, hf, ha, hs, ho, rfl, N2, k5⟩
        have B5 := B4.trans (k5.mono B4.size)
        obtain ⟨W6, HW6⟩ : ∃ W6, Hid (W6 = w5.alloc (.cells ((nwp hu hf ha hs ho X2).v X2) 41)) := ⟨_, rfl⟩
        have k6 : Below w5.heap.size w5 W6 := by rw [HW6.out]; exact (Below.refl _ _).alloc (Nat.le_refl _) _
        have QY : Bk W6 w5.heap.size ((nwp hu hf ha hs ho X2).v X2) 41 := by rw [HW6.out]; exact Bk.new w5 ((nwp hu hf ha hs ho X2).v X2) 41
        have B6 := B5.trans (k6.mono B5.size)
        have k46 := k5.trans (k6.mono k5.size)
        replace N1 := N1.later k46
        replace N2 := N2.later k6
        replace QX := QX.below k46
        have hW6 : W0.heap.size ≤ W6.heap.size := B6.size
        have keepX : ∀ w', Below W6.heap.size W6 w' → w'.cell? ⟨w3.heap.size, 0, none⟩ = some (.int .i64 X1.t) ∧ w'.cell? ⟨w3.heap.size, 1, none⟩ = some (.int .i64 X1.s) ∧ w'.cell? ⟨w3.heap.size, 2, none⟩ = some (.slice (nwp gu gf ga gs go X1).u X1.us.length (nwp gu gf ga gs go X1).uc) ∧ w'.cell? ⟨w3.heap.size, 3, none⟩ = some (.slice (nwp gu gf ga gs go X1).f X1.fs.length (nwp gu gf ga gs go X1).fc) ∧ w'.cell? ⟨w3.heap.size, 4, none⟩ = some (.slice (nwp gu gf ga gs go X1).a X1.fa.length (nwp gu gf ga gs go X1).ac) ∧ w'.cell? ⟨w3.heap.size, 5, none⟩ = some (.slice (nwp gu gf ga gs go X1).s X1.se.length (nwp gu gf ga gs go X1).sc) ∧ w'.cell? ⟨w3.heap.size, 6, none⟩ = some (.slice (nwp gu gf ga gs go X1).o X1.oo.length (nwp gu gf ga gs go X1).oc) ∧ w3.heap.size < w'.heap.size := fun w' hb => by
          have q := QX.below hb
          exact ⟨q.cell rfl, q.cell rfl, q.cell rfl, q.cell rfl, q.cell rfl, q.cell rfl, q.cell rfl, q.lt⟩
        have keepY : ∀ w', Below W6.heap.size W6 w' → w'.cell? ⟨w5.heap.size, 0, none⟩ = some (.int .i64 X2.t) ∧ w'.cell? ⟨w5.heap.size, 1, none⟩ = some (.int .i64 X2.s) ∧ w'.cell? ⟨w5.heap.size, 2, none⟩ = some (.slice (nwp hu hf ha hs ho X2).u X2.us.length (nwp hu hf ha hs ho X2).uc) ∧ w'.cell? ⟨w5.heap.size, 3, none⟩ = some (.slice (nwp hu hf ha hs ho X2).f X2.fs.length (nwp hu hf ha hs ho X2).fc) ∧ w'.cell? ⟨w5.heap.size, 4, none⟩ = some (.slice (nwp hu hf ha hs ho X2).a X2.fa.length (nwp hu hf ha hs ho X2).ac) ∧ w'.cell? ⟨w5.heap.size, 5, none⟩ = some (.slice (nwp hu hf ha hs ho X2).s X2.se.length (nwp hu hf ha hs ho X2).sc) ∧ w'.cell? ⟨w5.heap.size, 6, none⟩ = some (.slice (nwp hu hf ha hs ho X2).o X2.oo.length (nwp hu hf ha hs ho X2).oc) ∧ w5.heap.size < w'.heap.size := fun w' hb => by
          have q := QY.below hb
          exact ⟨q.cell rfl, q.cell rfl, q.cell rfl, q.cell rfl, q.cell rfl, q.cell rfl, q.cell rfl, q.lt⟩
        have keepA' := fun w' (hb : Below W6.heap.size W6 w') => keepA w' (B6.trans (hb.mono hW6))
        have keepB' := fun w' (hb : Below W6.heap.size W6 w') => keepB w' (B6.trans (hb.mono hW6))
        have gA' := fun w' (hb : Below W6.heap.size W6 w') => gA w' (B6.trans (hb.mono hW6))
        have gB' := fun w' (hb : Below W6.heap.size W6 w') => gB w' (B6.trans (hb.mono hW6))
        clear a0 a1 a2 a3 a4 a5 a6 al b0 b1 b2 b3 b4 b5 b6 bl k46 k5 k6 k3 k4 B3 B4 B5
        obtain ⟨x0, x1, x2, x3, x4, x5, x6, xl⟩ := keepX _ (Below.refl _ _)
        obtain ⟨y0, y1, y2, y3, y4, y5, y6, yl⟩ := keepY _ (Below.refl _ _)
        go_upto_region 11 with fail
        rw [← HW6.out]
        go_wp2_with fail
        refine (iS _ _ _ _ _ _ _ _ _ _ _ _ _ N1 N2).mono ?_
        rintro e w7 ⟨rfl, k7⟩
        clear x0 x1 x2 x3 x4 x5 x6 xl y0 y1 y2 y3 y4 y5 y6 yl Bc
        have Bc : Below W6.heap.size W6 w7.drew := k7.trans ((Below.refl _ _).drew.mono k7.size)
        obtain ⟨a0, a1, a2, a3, a4, a5, a6, al⟩ := keepA' _ k7
        obtain ⟨x0, x1, x2, x3, x4, x5, x6, xl⟩ := keepX _ k7
        go_upto_region 14 with fail
        go_region_held3 (fun w' => w'.cell? ⟨W.heap.size, 0, none⟩ = some (.int .i64 X1.t) ∧ w'.cell? ⟨W.heap.size, 1, none⟩ = some (.int .i64 X1.s) ∧ w'.cell? ⟨W.heap.size, 2, none⟩ = some (.slice P1.u X1.us.length P1.uc) ∧ w'.cell? ⟨W.heap.size, 3, none⟩ = some (.slice P1.f X1.fs.length P1.fc) ∧ w'.cell? ⟨W.heap.size, 4, none⟩ = some (.slice P1.a X1.fa.length P1.ac) ∧ w'.cell? ⟨W.heap.size, 5, none⟩ = some (.slice P1.s X1.se.length P1.sc) ∧ w'.cell? ⟨W.heap.size, 6, none⟩ = some (.slice P1.o X1.oo.length P1.oc) ∧ w'.cell? ⟨w3.heap.size, 0, none⟩ = some (.int .i64 X1.t) ∧ w'.cell? ⟨w3.heap.size, 1, none⟩ = some (.int .i64 X1.s) ∧ w'.cell? ⟨w3.heap.size, 2, none⟩ = some (.slice (nwp gu gf ga gs go X1).u X1.us.length (nwp gu gf ga gs go X1).uc) ∧ w'.cell? ⟨w3.heap.size, 3, none⟩ = some (.slice (nwp gu gf ga gs go X1).f X1.fs.length (nwp gu gf ga gs go X1).fc) ∧ w'.cell? ⟨w3.heap.size, 4, none⟩ = some (.slice (nwp gu gf ga gs go X1).a X1.fa.length (nwp gu gf ga gs go X1).ac) ∧ w'.cell? ⟨w3.heap.size, 5, none⟩ = some (.slice (nwp gu gf ga gs go X1).s X1.se.length (nwp gu gf ga gs go X1).sc) ∧ w'.cell? ⟨w3.heap.size, 6, none⟩ = some (.slice (nwp gu gf ga gs go X1).o X1.oo.length (nwp gu gf ga gs go X1).oc)) (first | exact (by obtain ⟨c0, c1, c2, c3, c4, c5, c6, _⟩ := keepA' _ Bc; obtain ⟨d0, d1, d2, d3, d4, d5, d6, _⟩ := keepX _ Bc; exact ⟨c0, c1, c2, c3, c4, c5, c6, d0, d1, d2, d3, d4, d5, d6⟩) | go_keep) (first
          | (go_at_call 6; refine (cT1 _ (gA' _ Bc)).mono ?_; rintro e wn ⟨iu, jf, ja, js, jo, rfl, Nj, kn⟩; have Bc := Bc.trans (kn.mono Bc.size); obtain ⟨a0, a1, a2, a3, a4, a5, a6, al⟩ := keepA' _ Bc; obtain ⟨x0, x1, x2, x3, x4, x5, x6, xl⟩ := keepX _ Bc)
          | (go_at_call 8; refine (e1 _ _ _ _ _ _ _ _ _ _ _ _ _ (N1.later Bc) Nj).mono ?_; rintro e wn ⟨rfl, kn⟩; have Bc := Bc.trans (kn.mono Bc.size); obtain ⟨a0, a1, a2, a3, a4, a5, a6, al⟩ := keepA' _ Bc; obtain ⟨x0, x1, x2, x3, x4, x5, x6, xl⟩ := keepX _ Bc))
        all_goals
          have K9 := Bc
          clear a0 a1 a2 a3 a4 a5 a6 al x0 x1 x2 x3 x4 x5 x6 xl Bc
          have Bc : Below W6.heap.size W6 _ := K9.trans ((Below.refl _ _).drew.mono K9.size)
          obtain ⟨b0, b1, b2, b3, b4, b5, b6, bl⟩ := keepB' _ K9
          obtain ⟨y0, y1, y2, y3, y4, y5, y6, yl⟩ := keepY _ K9
          go_upto_region 16 with fail
          go_region_held3 (fun w' => w'.cell? ⟨W.heap.size + 1, 0, none⟩ = some (.int .i64 X2.t) ∧ w'.cell? ⟨W.heap.size + 1, 1, none⟩ = some (.int .i64 X2.s) ∧ w'.cell? ⟨W.heap.size + 1, 2, none⟩ = some (.slice P2.u X2.us.length P2.uc) ∧ w'.cell? ⟨W.heap.size + 1, 3, none⟩ = some (.slice P2.f X2.fs.length P2.fc) ∧ w'.cell? ⟨W.heap.size + 1, 4, none⟩ = some (.slice P2.a X2.fa.length P2.ac) ∧ w'.cell? ⟨W.heap.size + 1, 5, none⟩ = some (.slice P2.s X2.se.length P2.sc) ∧ w'.cell? ⟨W.heap.size + 1, 6, none⟩ = some (.slice P2.o X2.oo.length P2.oc) ∧ w'.cell? ⟨w5.heap.size, 0, none⟩ = some (.int .i64 X2.t) ∧ w'.cell? ⟨w5.heap.size, 1, none⟩ = some (.int .i64 X2.s) ∧ w'.cell? ⟨w5.heap.size, 2, none⟩ = some (.slice (nwp hu hf ha hs ho X2).u X2.us.length (nwp hu hf ha hs ho X2).uc) ∧ w'.cell? ⟨w5.heap.size, 3, none⟩ = some (.slice (nwp hu hf ha hs ho X2).f X2.fs.length (nwp hu hf ha hs ho X2).fc) ∧ w'.cell? ⟨w5.heap.size, 4, none⟩ = some (.slice (nwp hu hf ha hs ho X2).a X2.fa.length (nwp hu hf ha hs ho X2).ac) ∧ w'.cell? ⟨w5.heap.size, 5, none⟩ = some (.slice (nwp hu hf ha hs ho X2).s X2.se.length (nwp hu hf ha hs ho X2).sc) ∧ w'.cell? ⟨w5.heap.size, 6, none⟩ = some (.slice (nwp hu hf ha hs ho X2).o X2.oo.length (nwp hu hf ha hs ho X2).oc)) (first | exact (by obtain ⟨c0, c1, c2, c3, c4, c5, c6, _⟩ := keepB' _ Bc; obtain ⟨d0, d1, d2, d3, d4, d5, d6, _⟩ := keepY _ Bc; exact ⟨c0, c1, c2, c3, c4, c5, c6, d0, d1, d2, d3, d4, d5, d6⟩) | go_keep) (first
            | (go_at_call 6; refine (cT2 _ (gB' _ Bc)).mono ?_; rintro e wn ⟨iu, jf, ja, js, jo, rfl, Nj, kn⟩; have Bc := Bc.trans (kn.mono Bc.size); obtain ⟨b0, b1, b2, b3, b4, b5, b6, bl⟩ := keepB' _ Bc; obtain ⟨y0, y1, y2, y3, y4, y5, y6, yl⟩ := keepY _ Bc)
            | (go_at_call 8; refine (e2 _ _ _ _ _ _ _ _ _ _ _ _ _ (N2.later Bc) Nj).mono ?_; rintro e wn ⟨rfl, kn⟩; have Bc := Bc.trans (kn.mono Bc.size); obtain ⟨b0, b1, b2, b3, b4, b5, b6, bl⟩ := keepB' _ Bc; obtain ⟨y0, y1, y2, y3, y4, y5, y6, yl⟩ := keepY _ Bc))
        all_goals
          go_wp2_with fail
          go_ret
          exact ⟨rfl, B0.trans ((B6.trans (Bc.mono hW6)).mono B0.size)⟩
    · rw [if_neg s2]
      go_wp2
      go_ret
      exact ⟨rfl, B0.trans (K2.mono B0.size)⟩
  · rw [if_neg s1]
    go_wp2
    go_ret
    exact ⟨rfl, B0.trans (k1.mono B0.size)⟩
end Go.Proofs.Ytibkdkjcncfmgab
