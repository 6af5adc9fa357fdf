/- The walk of the exact law of AreAllies. No condition. -/
import Derived.Test.YtibkdkjcncfmgaaAlImpl
import Derived.Test.YtibkdkjcncfmgaaExactWorld2
import Derived.Deep.RegionHeld3
namespace Go.Proofs.Ytibkdkjcncfmgaa
open Go.ChangeShapes Go.WideShapes Go.ChangeAt Go.RowKit
set_option linter.unusedVariables false

set_option maxRecDepth 20000 in
set_option maxHeartbeats 16000000 in
theorem walk_fnExactAreAllies (P1 : WP) (X1 : KW) (hx : X1.us.length ≤ maxLen ∧ X1.fs.length ≤ maxLen ∧ X1.fa.length ≤ maxLen ∧ X1.se.length ≤ maxLen ∧ X1.oo.length ≤ maxLen) (i j : Int) (W : World) (g1 : ArgW W P1 X1) :
    Calls Try.prog 9 #[.agg (P1.v X1), .int .i64 i, .int .i64 j] W fun e w' => e = .returned (.bool true) ∧ Below W.heap.size W w' := by
  have z1 := fun w => szWorld_c X1.t X1.s P1.u X1.us.length P1.uc P1.f X1.fs.length P1.fc P1.a X1.fa.length P1.ac P1.s X1.se.length P1.sc P1.o X1.oo.length P1.oc 1048576 (by omega) (by omega) hx.1 hx.2.1 hx.2.2.1 hx.2.2.2.1 hx.2.2.2.2 w
  have cT1 := fun (hm : X1.n ≤ 1048576) w h => toWorld_c P1 X1 hm w h
  have sS := fun (w : World) base gu gf ga gs go (N1 : NewW w base gu gf ga gs go X1) => specAreAllies (nwp gu gf ga gs go X1) X1 (Nat.le_refl _) hx.2.2.2.2 w N1.arg i j
  have iS := fun (w : World) base gu gf ga gs go (N1 : NewW w base gu gf ga gs go X1) => implAreAllies (nwp gu gf ga gs go X1) X1 (Nat.le_refl _) hx.2.2.2.2 w N1.arg i j
  rw [areA_same] at iS
  have e1 := fun (hm : X1.n ≤ 1048576) (w : World) base base2 gu gf ga gs go hu hf ha hs ho (N1 : NewW w base gu gf ga gs go X1) (N2 : NewW w base2 hu hf ha hs ho X1) => eqWorld_same N1 N2 hm
  have hn1 : X1.n = X1.us.length + X1.fs.length + X1.fa.length + X1.se.length + X1.oo.length := rfl
  generalize areA hasS X1 i j = R at sS iS
  have nR : (R != R) = false := by simp
  obtain ⟨W0, HW0⟩ : ∃ W0, Hid (W0 = W.alloc (.cells (P1.v X1) 64)) := ⟨_, rfl⟩
  have B0 : Below W.heap.size W W0 := by rw [HW0.out]; exact (Below.refl _ _).alloc (Nat.le_refl _) _
  have KA : Bk W0 W.heap.size (P1.v X1) 64 := by rw [HW0.out]; exact Bk.new W (P1.v X1) 64
  have keepA : ∀ w', Below W0.heap.size W0 w' → w'.cell? ⟨W.heap.size, 0, none⟩ = some (.int .i64 X1.t) ∧ w'.cell? ⟨W.heap.size, 1, none⟩ = some (.int .i64 X1.s) ∧ w'.cell? ⟨W.heap.size, 2, none⟩ = some (.slice P1.u X1.us.length P1.uc) ∧ w'.cell? ⟨W.heap.size, 3, none⟩ = some (.slice P1.f X1.fs.length P1.fc) ∧ w'.cell? ⟨W.heap.size, 4, none⟩ = some (.slice P1.a X1.fa.length P1.ac) ∧ w'.cell? ⟨W.heap.size, 5, none⟩ = some (.slice P1.s X1.se.length P1.sc) ∧ w'.cell? ⟨W.heap.size, 6, none⟩ = some (.slice P1.o X1.oo.length P1.oc) ∧ W.heap.size < w'.heap.size := fun w' hb => by
    have q := KA.below hb
    exact ⟨q.cell rfl, q.cell rfl, q.cell rfl, q.cell rfl, q.cell rfl, q.cell rfl, q.cell rfl, q.lt⟩
  have gA := fun w' (hb : Below W0.heap.size W0 w') => g1.later (B0.trans (hb.mono B0.size))
  obtain ⟨a0, a1, a2, a3, a4, a5, a6, al⟩ := keepA _ (Below.refl _ _)
  go_enter Try.func9, Try.ntmps9
  go_upto_region 2 with fail
  rw [← HW0.out]
  go_wp2_with fail
  refine (z1 _).mono ?_
  rintro e w1 ⟨rfl, k1⟩
  clear a0 a1 a2 a3 a4 a5 a6 al
  by_cases s1 : ((X1.us.length : Int) + X1.fs.length + X1.fa.length + X1.se.length + X1.oo.length) ≤ 1048576
  · rw [if_pos s1]
    have m1 : X1.n ≤ 1048576 := by omega
    have dd1 : decide ((1048576 : Int) - ((X1.us.length : Int) + X1.fs.length + X1.fa.length + X1.se.length + X1.oo.length) < 0) = false := decide_eq_false (by omega)
    obtain ⟨L1, HL1⟩ : ∃ L : Int, Hid (L = (1048576 : Int) - ((X1.us.length : Int) + X1.fs.length + X1.fa.length + X1.se.length + X1.oo.length)) := ⟨_, rfl⟩
    rw [← HL1.out] at dd1 ⊢
    replace cT1 := cT1 m1
    replace e1 := e1 m1
    clear hn1 m1 s1
    obtain ⟨a0, a1, a2, a3, a4, a5, a6, al⟩ := keepA _ k1
    go_wp2_with fail
    refine (cT1 _ (gA _ k1)).mono ?_
    rintro e w2 ⟨bu, bf', ba, bs, bo, rfl, N0, k2⟩
    have B2 := k1.trans (k2.mono k1.size)
    go_wp2_with fail
    refine (sS _ _ _ _ _ _ _ N0).mono ?_
    rintro e w2' ⟨rfl, k2'⟩
    replace B2 := B2.trans (k2'.mono B2.size)
    clear a0 a1 a2 a3 a4 a5 a6 al N0
    obtain ⟨a0, a1, a2, a3, a4, a5, a6, al⟩ := keepA _ B2
    go_wp2_with fail
    refine (cT1 _ (gA _ B2)).mono ?_
    rintro e w3 ⟨gu, gf, ga, gs, go, rfl, N1, k3⟩
    have B3 := B2.trans (k3.mono B2.size)
    obtain ⟨W4, HW4⟩ : ∃ W4, Hid (W4 = w3.alloc (.cells ((nwp gu gf ga gs go X1).v X1) 71)) := ⟨_, rfl⟩
    have k4 : Below w3.heap.size w3 W4 := by rw [HW4.out]; exact (Below.refl _ _).alloc (Nat.le_refl _) _
    have QX : Bk W4 w3.heap.size ((nwp gu gf ga gs go X1).v X1) 71 := by rw [HW4.out]; exact Bk.new w3 ((nwp gu gf ga gs go X1).v X1) 71
    have B4 := B3.trans (k4.mono B3.size)
    replace N1 := N1.later k4
    have hW4 : W0.heap.size ≤ W4.heap.size := B4.size
    have keepX : ∀ w', Below W4.heap.size W4 w' → w'.cell? ⟨w3.heap.size, 0, none⟩ = some (.int .i64 X1.t) ∧ w'.cell? ⟨w3.heap.size, 1, none⟩ = some (.int .i64 X1.s) ∧ w'.cell? ⟨w3.heap.size, 2, none⟩ = some (.slice (nwp gu gf ga gs go X1).u X1.us.length (nwp gu gf ga gs go X1).uc) ∧ w'.cell? ⟨w3.heap.size, 3, none⟩ = some (.slice (nwp gu gf ga gs go X1).f X1.fs.length (nwp gu gf ga gs go X1).fc) ∧ w'.cell? ⟨w3.heap.size, 4, none⟩ = some (.slice (nwp gu gf ga gs go X1).a X1.fa.length (nwp gu gf ga gs go X1).ac) ∧ w'.cell? ⟨w3.heap.size, 5, none⟩ = some (.slice (nwp gu gf ga gs go X1).s X1.se.length (nwp gu gf ga gs go X1).sc) ∧ w'.cell? ⟨w3.heap.size, 6, none⟩ = some (.slice (nwp gu gf ga gs go X1).o X1.oo.length (nwp gu gf ga gs go X1).oc) ∧ w3.heap.size < w'.heap.size := fun w' hb => by
      have q := QX.below hb
      exact ⟨q.cell rfl, q.cell rfl, q.cell rfl, q.cell rfl, q.cell rfl, q.cell rfl, q.cell rfl, q.lt⟩
    have keepA' := fun w' (hb : Below W4.heap.size W4 w') => keepA w' (B4.trans (hb.mono hW4))
    have gA' := fun w' (hb : Below W4.heap.size W4 w') => gA w' (B4.trans (hb.mono hW4))
    clear a0 a1 a2 a3 a4 a5 a6 al
    obtain ⟨x0, x1, x2, x3, x4, x5, x6, xl⟩ := keepX _ (Below.refl _ _)
    go_upto_region 7 with fail
    rw [← HW4.out]
    go_wp2_with fail
    refine (iS _ _ _ _ _ _ _ N1).mono ?_
    rintro e w7 ⟨rfl, k7⟩
    clear x0 x1 x2 x3 x4 x5 x6 xl
    have Bc : Below W4.heap.size W4 w7.drew := k7.trans ((Below.refl _ _).drew.mono k7.size)
    obtain ⟨a0, a1, a2, a3, a4, a5, a6, al⟩ := keepA' _ k7
    obtain ⟨x0, x1, x2, x3, x4, x5, x6, xl⟩ := keepX _ k7
    go_upto_region 10 with fail
    go_region_held3 (fun w' => w'.cell? ⟨W.heap.size, 0, none⟩ = some (.int .i64 X1.t) ∧ w'.cell? ⟨W.heap.size, 1, none⟩ = some (.int .i64 X1.s) ∧ w'.cell? ⟨W.heap.size, 2, none⟩ = some (.slice P1.u X1.us.length P1.uc) ∧ w'.cell? ⟨W.heap.size, 3, none⟩ = some (.slice P1.f X1.fs.length P1.fc) ∧ w'.cell? ⟨W.heap.size, 4, none⟩ = some (.slice P1.a X1.fa.length P1.ac) ∧ w'.cell? ⟨W.heap.size, 5, none⟩ = some (.slice P1.s X1.se.length P1.sc) ∧ w'.cell? ⟨W.heap.size, 6, none⟩ = some (.slice P1.o X1.oo.length P1.oc) ∧ w'.cell? ⟨w3.heap.size, 0, none⟩ = some (.int .i64 X1.t) ∧ w'.cell? ⟨w3.heap.size, 1, none⟩ = some (.int .i64 X1.s) ∧ w'.cell? ⟨w3.heap.size, 2, none⟩ = some (.slice (nwp gu gf ga gs go X1).u X1.us.length (nwp gu gf ga gs go X1).uc) ∧ w'.cell? ⟨w3.heap.size, 3, none⟩ = some (.slice (nwp gu gf ga gs go X1).f X1.fs.length (nwp gu gf ga gs go X1).fc) ∧ w'.cell? ⟨w3.heap.size, 4, none⟩ = some (.slice (nwp gu gf ga gs go X1).a X1.fa.length (nwp gu gf ga gs go X1).ac) ∧ w'.cell? ⟨w3.heap.size, 5, none⟩ = some (.slice (nwp gu gf ga gs go X1).s X1.se.length (nwp gu gf ga gs go X1).sc) ∧ w'.cell? ⟨w3.heap.size, 6, none⟩ = some (.slice (nwp gu gf ga gs go X1).o X1.oo.length (nwp gu gf ga gs go X1).oc)) (first | exact (by obtain ⟨c0, c1, c2, c3, c4, c5, c6, _⟩ := keepA' _ Bc; obtain ⟨d0, d1, d2, d3, d4, d5, d6, _⟩ := keepX _ Bc; exact ⟨c0, c1, c2, c3, c4, c5, c6, d0, d1, d2, d3, d4, d5, d6⟩) | go_keep) (first
      | (go_at_call 36; refine (cT1 _ (gA' _ Bc)).mono ?_; rintro e wn ⟨iu, jf, ja, js, jo, rfl, Nj, kn⟩; have Bc := Bc.trans (kn.mono Bc.size); obtain ⟨a0, a1, a2, a3, a4, a5, a6, al⟩ := keepA' _ Bc; obtain ⟨x0, x1, x2, x3, x4, x5, x6, xl⟩ := keepX _ Bc)
      | (go_at_call 38; refine (e1 _ _ _ _ _ _ _ _ _ _ _ _ _ (N1.later Bc) Nj).mono ?_; rintro e wn ⟨rfl, kn⟩; have Bc := Bc.trans (kn.mono Bc.size); obtain ⟨a0, a1, a2, a3, a4, a5, a6, al⟩ := keepA' _ Bc; obtain ⟨x0, x1, x2, x3, x4, x5, x6, xl⟩ := keepX _ Bc))
    all_goals
      go_wp2_with fail
      go_ret
      exact ⟨rfl, B0.trans ((B4.trans (Bc.mono hW4)).mono B0.size)⟩
  · rw [if_neg s1]
    go_wp2
    go_ret
    exact ⟨rfl, B0.trans (k1.mono B0.size)⟩
end Go.Proofs.Ytibkdkjcncfmgaa
