/- The contracts of AreAllies, the program's and the model's. Condition: the world is a copy that lies in memory as it was laid there, with no more than 1048576 parts. -/
import Derived.Test.YtibkdkjcncfmgaaAlSpec
import Derived.Test.YtibkdkjcncfmgaaWfImpl5
import Derived.Test.YtibkdkjcncfmgaaWorldRows
namespace Go.Proofs.Ytibkdkjcncfmgaa
open Go.ChangeShapes Go.WideShapes Go.ChangeAt Go.RowKit
open Bd
set_option linter.unusedVariables false

set_option maxRecDepth 20000 in
set_option maxHeartbeats 16000000 in
theorem implAreAllies (p : WP) (x : KW) (hc : x.oo.length ≤ p.oc) (hrc : p.oc ≤ maxLen) (w : World) (h : ArgW w p x) (i j : Int) :
    Calls Try.prog 50 #[.agg (p.v x), .int .i64 i, .int .i64 j] w fun e w' => e = .returned (.bool (areA hasI x i j)) ∧ Below w.heap.size w w' := by
  obtain ⟨t, s, us, fs, fa, se, oo⟩ := x
  obtain ⟨u, uc, f, fc, a, ac, q, qc, r, rc⟩ := p
  dsimp only at hc hrc
  have q0 := fun w => isSide_c i w
  have q1 := fun w => isSide_c j w
  have Hlen : Hid (wf hasI ⟨t, s, us, fs, fa, se, oo⟩ = 0 → fa.length = 4) := fun e => wf_len e
  show Calls Try.prog 50 #[.agg (wv t s u us.length uc f fs.length fc a fa.length ac q se.length qc r oo.length rc), .int .i64 i, .int .i64 j] w _
  obtain ⟨W, HW⟩ : ∃ W, Hid (W = w.alloc (.cells (wv t s u us.length uc f fs.length fc a fa.length ac q se.length qc r oo.length rc) 71)) := ⟨_, rfl⟩
  have B1 : Below w.heap.size w W := by rw [HW.out]; exact (Below.refl _ _).alloc (Nat.le_refl _) _
  have P : Bk W w.heap.size (wv t s u us.length uc f fs.length fc a fa.length ac q se.length qc r oo.length rc) 71 := by rw [HW.out]; exact Bk.new w _ _
  have HN : Hid (ArgW W ⟨u, uc, f, fc, a, ac, q, qc, r, rc⟩ ⟨t, s, us, fs, fa, se, oo⟩) := h.later B1
  have cF := fun W' (h : Below W.heap.size W W') => implWorldFault ⟨u, uc, f, fc, a, ac, q, qc, r, rc⟩ ⟨t, s, us, fs, fa, se, oo⟩ hc hrc W' (HN.out.later h)
  have HE : Hid (areA hasI ⟨t, s, us, fs, fa, se, oo⟩ i j = (inb i 0 3 && inb j 0 3 && (wf hasI ⟨t, s, us, fs, fa, se, oo⟩ == 0) && hasI (allyA fa i) j)) := rfl
  generalize areA hasI ⟨t, s, us, fs, fa, se, oo⟩ i j = R at HE ⊢
  have HA : Hid (ArgA W a fa) := HN.out.a
  generalize wf hasI ⟨t, s, us, fs, fa, se, oo⟩ = F at cF HE Hlen
  replace cF : ∀ W', Below W.heap.size W W' → Calls Try.prog 37 #[.agg (wv t s u us.length uc f fs.length fc a fa.length ac q se.length qc r oo.length rc)] W' fun e w' => e = .returned (.int .i64 F) ∧ Below W'.heap.size W' w' := cF
  generalize us.length = mu at P HW cF ⊢
  generalize fs.length = mf at P HW cF ⊢
  obtain ⟨ma, Hma⟩ : ∃ m, Hid (fa.length = m) := ⟨_, rfl⟩
  rw [Hma.out] at P HW Hlen cF ⊢
  generalize se.length = ms at P HW cF ⊢
  generalize oo.length = mo at P HW cF ⊢
  clear hc hrc h HN
  have keep : ∀ w', Below W.heap.size W w' → w'.cell? ⟨w.heap.size, 0, none⟩ = some (.int .i64 t) ∧ w'.cell? ⟨w.heap.size, 1, none⟩ = some (.int .i64 s) ∧ w'.cell? ⟨w.heap.size, 2, none⟩ = some (.slice u mu uc) ∧ w'.cell? ⟨w.heap.size, 3, none⟩ = some (.slice f mf fc) ∧ w'.cell? ⟨w.heap.size, 4, none⟩ = some (.slice a ma ac) ∧ w'.cell? ⟨w.heap.size, 5, none⟩ = some (.slice q ms qc) ∧ w'.cell? ⟨w.heap.size, 6, none⟩ = some (.slice r mo rc) ∧ w.heap.size < w'.heap.size := fun w' hb => by
    have q := P.below hb
    exact ⟨q.cell rfl, q.cell rfl, q.cell rfl, q.cell rfl, q.cell rfl, q.cell rfl, q.cell rfl, q.lt⟩
  have Bc : Below W.heap.size W W := Below.refl _ _
  cases e0 : inb i 0 3
  · rw [e0] at q0 HE
    have HR : Hid (R = false) := HE
    obtain ⟨p0, p1, p2, p3, p4, p5, p6, pl⟩ := keep _ Bc
    go_enter Try.func50, Try.ntmps50
    go_upto_region 1 with fail
    rw [← HW.out]
    try simp only [List.append]
    go_wp2_with (first | (go_at_call 115; with_reducible refine (q0 _).mono ?_; rintro e w1 ⟨rfl, hw1⟩; obtain rfl := hw1.symm) | (go_at_call 115; with_reducible refine (q1 _).mono ?_; rintro e w1 ⟨rfl, hw1⟩; obtain rfl := hw1.symm))
    go_ret
    exact ⟨by rw [HR.out]; rfl, B1⟩
  cases e1 : inb j 0 3
  · rw [e0] at q0 HE
    rw [e1] at q1 HE
    have HR : Hid (R = false) := HE
    obtain ⟨p0, p1, p2, p3, p4, p5, p6, pl⟩ := keep _ Bc
    go_enter Try.func50, Try.ntmps50
    go_upto_region 1 with fail
    rw [← HW.out]
    try simp only [List.append]
    go_wp2_with (first | (go_at_call 115; with_reducible refine (q0 _).mono ?_; rintro e w1 ⟨rfl, hw1⟩; obtain rfl := hw1.symm) | (go_at_call 115; with_reducible refine (q1 _).mono ?_; rintro e w1 ⟨rfl, hw1⟩; obtain rfl := hw1.symm))
    go_ret
    exact ⟨by rw [HR.out]; rfl, B1⟩
  cases e2 : F == 0
  · rw [e0] at q0 HE
    rw [e1] at q1 HE
    rw [e2] at HE
    have HR : Hid (R = false) := HE
    obtain ⟨p0, p1, p2, p3, p4, p5, p6, pl⟩ := keep _ Bc
    go_enter Try.func50, Try.ntmps50
    go_upto_region 1 with fail
    rw [← HW.out]
    try simp only [List.append]
    go_wp2_with (first | (go_at_call 115; with_reducible refine (q0 _).mono ?_; rintro e w1 ⟨rfl, hw1⟩; obtain rfl := hw1.symm) | (go_at_call 115; with_reducible refine (q1 _).mono ?_; rintro e w1 ⟨rfl, hw1⟩; obtain rfl := hw1.symm) | (go_at_call 37; refine (cF _ Bc).mono ?_; rintro e wn ⟨rfl, kn⟩; have Bc := Bc.trans (kn.mono Bc.size)))
    go_ret
    exact ⟨by rw [HR.out]; rfl, B1.trans (Bc.mono B1.size)⟩
  · obtain rfl : F = 0 := by simpa using e2
    obtain ⟨i0, i1⟩ := inb_i e0
    obtain ⟨j0, j1⟩ := inb_i e1
    have h4 : ma = 4 := Hlen.out rfl
    subst h4
    obtain ⟨g, hg, _, hga⟩ := side_at Hma.out i0 i1
    have Hg : Hid (fa[i.toNat]? = some g) := hg
    obtain ⟨ba, oa, rfl, hba, hat⟩ := HA.out.four Hma.out
    have Hat : Hid (AAt W ba oa fa) := hat
    rw [e0] at q0 HE
    rw [e1] at q1 HE
    rw [hga] at HE
    have HR : Hid (R = hasI g.c2 j) := HE
    have qH := fun w => hasBit_c g.c2 j (by omega) (by omega) w
    have keepG := fun w' (hb : Below W.heap.size W w') => (Hat.out.later hba hb).one (Nat.lt_of_lt_of_le hba hb.size) Hg.out
    have ha4 : i < 4 := by omega
    clear e0 e1 e2 hg hga HE Hlen hat
    obtain ⟨p0, p1, p2, p3, p4, p5, p6, pl⟩ := keep _ Bc
    go_enter Try.func50, Try.ntmps50
    go_upto_region 1 with fail
    rw [← HW.out]
    try simp only [List.append]
    go_wp2_with (first | (go_at_call 115; with_reducible refine (q0 _).mono ?_; rintro e w1 ⟨rfl, hw1⟩; obtain rfl := hw1.symm) | (go_at_call 115; with_reducible refine (q1 _).mono ?_; rintro e w1 ⟨rfl, hw1⟩; obtain rfl := hw1.symm) | (go_at_call 37; refine (cF _ Bc).mono ?_; rintro e wn ⟨rfl, kn⟩; have Bc := Bc.trans (kn.mono Bc.size); obtain ⟨p0, p1, p2, p3, p4, p5, p6, pl⟩ := keep _ Bc; obtain ⟨y0, y1, y2, yl⟩ := keepG _ Bc) | (go_at_call 113; with_reducible refine (qH _).mono ?_; rintro e w1 ⟨rfl, hw1⟩; obtain rfl := hw1.symm))
    go_ret
    exact ⟨by rw [HR.out]; rfl, B1.trans (Bc.mono B1.size)⟩
end Go.Proofs.Ytibkdkjcncfmgaa
