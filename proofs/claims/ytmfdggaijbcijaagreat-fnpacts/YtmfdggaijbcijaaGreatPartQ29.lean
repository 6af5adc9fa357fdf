/- Texts of mine put together (a claim holds at most 60 files): PfImpl, WsImpl2. -/
import Derived.Test.YtmfdggaijbcijaaGreatPartQ28
import Derived.Test.YtmfdggaijbcijaaGreatPartQ21
import Derived.Test.YtmfdggaijbcijaaGreatPartQ01
import Derived.Test.YtmfdggaijbcijaaGreatPartQ25
import Derived.Test.YtmfdggaijbcijaaGreatPartQ26

/- PfImpl -/
/- The contracts of the program's faults of two sides and of one. Condition: the world is a copy that lies in memory as it was laid there. -/
section
namespace Go.Proofs.YtmfdggaijbcijaaGreat
open Go.ChangeShapes Go.WideShapes Go.ChangeAt Go.RowKit
open Bd
set_option linter.unusedVariables false

set_option maxRecDepth 20000 in
set_option maxHeartbeats 16000000 in
theorem implPairFault (p : WP) (x : KW) (hc : x.oo.length ≤ p.oc) (hrc : p.oc ≤ maxLen) (w : World) (h : ArgW w p x) (i j : Int) :
    Calls Tryz.prog 27 #[.agg (p.v x), .int .i64 i, .int .i64 j] w fun e w' => e = .returned (.int .i64 (prF hasI x i j)) ∧ Below w.heap.size w w' := by
  obtain ⟨t, s, us, fs, fa, se, oo⟩ := x
  obtain ⟨u, uc, f, fc, a, ac, q, qc, r, rc⟩ := p
  dsimp only at hc hrc
  have q0 := fun w => isSide_c i w
  have q1 := fun w => isSide_c j w
  have Hlen : Hid (wf hasI ⟨t, s, us, fs, fa, se, oo⟩ = 0 → fa.length = 4) := fun e => wf_len e
  show Calls Tryz.prog 27 #[.agg (wv t s u us.length uc f fs.length fc a fa.length ac q se.length qc r oo.length rc), .int .i64 i, .int .i64 j] w _
  obtain ⟨W, HW⟩ : ∃ W, Hid (W = w.alloc (.cells (wv t s u us.length uc f fs.length fc a fa.length ac q se.length qc r oo.length rc) 32)) := ⟨_, rfl⟩
  have B1 : Below w.heap.size w W := by rw [HW.out]; exact (Below.refl _ _).alloc (Nat.le_refl _) _
  have P : Bk W w.heap.size (wv t s u us.length uc f fs.length fc a fa.length ac q se.length qc r oo.length rc) 32 := by rw [HW.out]; exact Bk.new w _ _
  have HN : Hid (ArgW W ⟨u, uc, f, fc, a, ac, q, qc, r, rc⟩ ⟨t, s, us, fs, fa, se, oo⟩) := h.later B1
  have cF := fun W' (h : Below W.heap.size W W') => implWorldFault ⟨u, uc, f, fc, a, ac, q, qc, r, rc⟩ ⟨t, s, us, fs, fa, se, oo⟩ hc hrc W' (HN.out.later h)
  have HE : Hid (prF hasI ⟨t, s, us, fs, fa, se, oo⟩ i j = if (wf hasI ⟨t, s, us, fs, fa, se, oo⟩ == 0) = false then wf hasI ⟨t, s, us, fs, fa, se, oo⟩ else sdF fa i j) := rfl
  generalize prF hasI ⟨t, s, us, fs, fa, se, oo⟩ i j = R at HE ⊢
  have HA : Hid (ArgA W a fa) := HN.out.a
  generalize wf hasI ⟨t, s, us, fs, fa, se, oo⟩ = F at cF HE Hlen
  replace cF : ∀ W', Below W.heap.size W W' → Calls Tryz.prog 14 #[.agg (wv t s u us.length uc f fs.length fc a fa.length ac q se.length qc r oo.length rc)] W' fun e w' => e = .returned (.int .i64 F) ∧ Below W'.heap.size W' w' := cF
  generalize us.length = mu at P HW cF ⊢
  generalize fs.length = mf at P HW cF ⊢
  obtain ⟨ma, Hma⟩ : ∃ m, Hid (fa.length = m) := ⟨_, rfl⟩
  rw [Hma.out] at P HW Hlen cF ⊢
  generalize se.length = ms at P HW cF ⊢
  generalize oo.length = mo at P HW cF ⊢
  clear hc hrc h HN
  have keep : ∀ w', Below W.heap.size W w' → w'.cell? ⟨w.heap.size, 0, none⟩ = some (.int .i64 t) ∧ w'.cell? ⟨w.heap.size, 1, none⟩ = some (.int .i64 s) ∧ w'.cell? ⟨w.heap.size, 2, none⟩ = some (.slice u mu uc) ∧ w'.cell? ⟨w.heap.size, 3, none⟩ = some (.slice f mf fc) ∧ w'.cell? ⟨w.heap.size, 4, none⟩ = some (.slice a ma ac) ∧ w'.cell? ⟨w.heap.size, 5, none⟩ = some (.slice q ms qc) ∧ w'.cell? ⟨w.heap.size, 6, none⟩ = some (.slice r mo rc) ∧ w.heap.size < w'.heap.size := fun w' hb => by
    have q := P.below hb
    exact ⟨q.cell rfl, q.cell rfl, q.cell rfl, q.cell rfl, q.cell rfl, q.cell rfl, q.cell rfl, q.lt⟩
  have Bc : Below W.heap.size W W := Below.refl _ _
  cases e2 : F == 0
  · have n7 : (F != 0) = true := by simp only [bne, e2]; rfl
    have HR : Hid (R = F) := by show _ = _; rw [HE.out, e2]; rfl
    clear HE Hlen e2
    obtain ⟨p0, p1, p2, p3, p4, p5, p6, pl⟩ := keep _ Bc
    go_enter Tryz.func27, Tryz.ntmps27
    go_upto_region 1 with fail
    rw [← HW.out]
    go_wp2_with fail
    refine (cF _ Bc).mono ?_
    rintro e wn ⟨rfl, kn⟩
    have Bc := Bc.trans (kn.mono Bc.size)
    go_wp2_with (first | (go_at_call 42; with_reducible refine (q0 _).mono ?_; rintro e w1 ⟨rfl, hw1⟩; obtain rfl := hw1.symm) | (go_at_call 42; with_reducible refine (q1 _).mono ?_; rintro e w1 ⟨rfl, hw1⟩; obtain rfl := hw1.symm))
    go_ret
    exact ⟨by rw [HR.out] <;> rfl, B1.trans (Bc.mono B1.size)⟩
  obtain rfl : F = 0 := by simpa using e2
  have HE : Hid (R = sdF fa i j) := HE
  clear e2
  cases e0 : inb i 0 3
  · rw [e0] at q0
    have HR : Hid (R = 3) := by show _ = _; rw [HE.out]; unfold sdF; rw [e0]; rfl
    clear HE Hlen
    obtain ⟨p0, p1, p2, p3, p4, p5, p6, pl⟩ := keep _ Bc
    go_enter Tryz.func27, Tryz.ntmps27
    go_upto_region 1 with fail
    rw [← HW.out]
    go_wp2_with fail
    refine (cF _ Bc).mono ?_
    rintro e wn ⟨rfl, kn⟩
    have Bc := Bc.trans (kn.mono Bc.size)
    clear p0 p1 p2 p3 p4 p5 p6 pl
    obtain ⟨p0, p1, p2, p3, p4, p5, p6, pl⟩ := keep _ Bc
    go_wp2_with (first | (go_at_call 42; with_reducible refine (q0 _).mono ?_; rintro e w1 ⟨rfl, hw1⟩; obtain rfl := hw1.symm) | (go_at_call 42; with_reducible refine (q1 _).mono ?_; rintro e w1 ⟨rfl, hw1⟩; obtain rfl := hw1.symm))
    go_ret
    exact ⟨by rw [HR.out] <;> rfl, B1.trans (Bc.mono B1.size)⟩
  cases e1 : inb j 0 3
  · rw [e0] at q0
    rw [e1] at q1
    have HR : Hid (R = 3) := by show _ = _; rw [HE.out]; unfold sdF; rw [e0, e1]; rfl
    clear HE Hlen
    obtain ⟨p0, p1, p2, p3, p4, p5, p6, pl⟩ := keep _ Bc
    go_enter Tryz.func27, Tryz.ntmps27
    go_upto_region 1 with fail
    rw [← HW.out]
    go_wp2_with fail
    refine (cF _ Bc).mono ?_
    rintro e wn ⟨rfl, kn⟩
    have Bc := Bc.trans (kn.mono Bc.size)
    clear p0 p1 p2 p3 p4 p5 p6 pl
    obtain ⟨p0, p1, p2, p3, p4, p5, p6, pl⟩ := keep _ Bc
    go_wp2_with (first | (go_at_call 42; with_reducible refine (q0 _).mono ?_; rintro e w1 ⟨rfl, hw1⟩; obtain rfl := hw1.symm) | (go_at_call 42; with_reducible refine (q1 _).mono ?_; rintro e w1 ⟨rfl, hw1⟩; obtain rfl := hw1.symm))
    go_ret
    exact ⟨by rw [HR.out] <;> rfl, B1.trans (Bc.mono B1.size)⟩
  rw [e0] at q0
  rw [e1] at q1
  cases e3 : i == j
  case true =>
    have HR : Hid (R = 1) := by show _ = _; rw [HE.out]; unfold sdF; rw [e0, e1, e3]; rfl
    clear HE Hlen
    obtain ⟨p0, p1, p2, p3, p4, p5, p6, pl⟩ := keep _ Bc
    go_enter Tryz.func27, Tryz.ntmps27
    go_upto_region 1 with fail
    rw [← HW.out]
    go_wp2_with fail
    refine (cF _ Bc).mono ?_
    rintro e wn ⟨rfl, kn⟩
    have Bc := Bc.trans (kn.mono Bc.size)
    clear p0 p1 p2 p3 p4 p5 p6 pl
    obtain ⟨p0, p1, p2, p3, p4, p5, p6, pl⟩ := keep _ Bc
    go_wp2_with (first | (go_at_call 42; with_reducible refine (q0 _).mono ?_; rintro e w1 ⟨rfl, hw1⟩; obtain rfl := hw1.symm) | (go_at_call 42; with_reducible refine (q1 _).mono ?_; rintro e w1 ⟨rfl, hw1⟩; obtain rfl := hw1.symm))
    go_ret
    exact ⟨by rw [HR.out] <;> rfl, B1.trans (Bc.mono B1.size)⟩
  case false =>
    obtain ⟨i0, i1⟩ := inb_i e0
    obtain ⟨j0, j1⟩ := inb_i e1
    have h4 : ma = 4 := Hlen.out rfl
    subst h4
    obtain ⟨g, hg, hgg, hga⟩ := side_at Hma.out i0 i1
    obtain ⟨k, hk, hkg, hka⟩ := side_at Hma.out j0 j1
    have Hg : Hid (fa[i.toNat]? = some g) := hg
    have Hk : Hid (fa[j.toNat]? = some k) := hk
    obtain ⟨ba, oa, rfl, hba, hat⟩ := HA.out.four Hma.out
    have Hat : Hid (AAt W ba oa fa) := hat
    have HR' : Hid (R = if (g.c1 || k.c1) = true then 8 else 0) := by show _ = _; rw [HE.out]; unfold sdF; rw [e0, e1, e3, hgg, hkg]; rfl
    have keepG := fun w' (hb : Below W.heap.size W w') => (Hat.out.later hba hb).one (Nat.lt_of_lt_of_le hba hb.size) Hg.out
    have keepK := fun w' (hb : Below W.heap.size W w') => (Hat.out.later hba hb).one (Nat.lt_of_lt_of_le hba hb.size) Hk.out
    have i4 : i < 4 := by omega
    have j4 : j < 4 := by omega
    clear e0 e1 hg hgg hga hk hkg hka HE Hlen hat
    cases eg : g.c1
    · rw [eg] at HR'
      cases ek : k.c1
      · rw [ek] at HR'
        have HR : Hid (R = 0) := HR'
        obtain ⟨p0, p1, p2, p3, p4, p5, p6, pl⟩ := keep _ Bc
        go_enter Tryz.func27, Tryz.ntmps27
        go_upto_region 1 with fail
        rw [← HW.out]
        go_wp2_with fail
        refine (cF _ Bc).mono ?_
        rintro e wn ⟨rfl, kn⟩
        have Bc := Bc.trans (kn.mono Bc.size)
        clear p0 p1 p2 p3 p4 p5 p6 pl
        obtain ⟨p0, p1, p2, p3, p4, p5, p6, pl⟩ := keep _ Bc
        obtain ⟨y0, y1, y2, yl⟩ := keepG _ Bc
        obtain ⟨z0, z1, z2, zl⟩ := keepK _ Bc
        rw [eg] at y1
        rw [ek] at z1
        go_wp2_with (first | (go_at_call 42; with_reducible refine (q0 _).mono ?_; rintro e w1 ⟨rfl, hw1⟩; obtain rfl := hw1.symm) | (go_at_call 42; with_reducible refine (q1 _).mono ?_; rintro e w1 ⟨rfl, hw1⟩; obtain rfl := hw1.symm))
        go_ret
        exact ⟨by rw [HR.out] <;> rfl, B1.trans (Bc.mono B1.size)⟩
      · rw [ek] at HR'
        have HR : Hid (R = 8) := HR'
        obtain ⟨p0, p1, p2, p3, p4, p5, p6, pl⟩ := keep _ Bc
        go_enter Tryz.func27, Tryz.ntmps27
        go_upto_region 1 with fail
        rw [← HW.out]
        go_wp2_with fail
        refine (cF _ Bc).mono ?_
        rintro e wn ⟨rfl, kn⟩
        have Bc := Bc.trans (kn.mono Bc.size)
        clear p0 p1 p2 p3 p4 p5 p6 pl
        obtain ⟨p0, p1, p2, p3, p4, p5, p6, pl⟩ := keep _ Bc
        obtain ⟨y0, y1, y2, yl⟩ := keepG _ Bc
        obtain ⟨z0, z1, z2, zl⟩ := keepK _ Bc
        rw [eg] at y1
        rw [ek] at z1
        go_wp2_with (first | (go_at_call 42; with_reducible refine (q0 _).mono ?_; rintro e w1 ⟨rfl, hw1⟩; obtain rfl := hw1.symm) | (go_at_call 42; with_reducible refine (q1 _).mono ?_; rintro e w1 ⟨rfl, hw1⟩; obtain rfl := hw1.symm))
        go_ret
        exact ⟨by rw [HR.out] <;> rfl, B1.trans (Bc.mono B1.size)⟩
    · rw [eg] at HR'
      have HR : Hid (R = 8) := HR'
      obtain ⟨p0, p1, p2, p3, p4, p5, p6, pl⟩ := keep _ Bc
      go_enter Tryz.func27, Tryz.ntmps27
      go_upto_region 1 with fail
      rw [← HW.out]
      go_wp2_with fail
      refine (cF _ Bc).mono ?_
      rintro e wn ⟨rfl, kn⟩
      have Bc := Bc.trans (kn.mono Bc.size)
      clear p0 p1 p2 p3 p4 p5 p6 pl
      obtain ⟨p0, p1, p2, p3, p4, p5, p6, pl⟩ := keep _ Bc
      obtain ⟨y0, y1, y2, yl⟩ := keepG _ Bc
      rw [eg] at y1
      go_wp2_with (first | (go_at_call 42; with_reducible refine (q0 _).mono ?_; rintro e w1 ⟨rfl, hw1⟩; obtain rfl := hw1.symm) | (go_at_call 42; with_reducible refine (q1 _).mono ?_; rintro e w1 ⟨rfl, hw1⟩; obtain rfl := hw1.symm))
      go_ret
      exact ⟨by rw [HR.out] <;> rfl, B1.trans (Bc.mono B1.size)⟩
/- one side -/
def sfF (h : Int → Int → Bool) (x : KW) (i : Int) : Int := if (wf h x == 0) = false then wf h x else if inb i 0 3 = false then 3 else 0
set_option maxRecDepth 20000 in
set_option maxHeartbeats 16000000 in
theorem implSideFault (p : WP) (x : KW) (hc : x.oo.length ≤ p.oc) (hrc : p.oc ≤ maxLen) (w : World) (h : ArgW w p x) (i : Int) :
    Calls Tryz.prog 62 #[.agg (p.v x), .int .i64 i] w fun e w' => e = .returned (.int .i64 (sfF hasI x i)) ∧ Below w.heap.size w w' := by
  obtain ⟨t, s, us, fs, fa, se, oo⟩ := x
  obtain ⟨u, uc, f, fc, a, ac, q, qc, r, rc⟩ := p
  dsimp only at hc hrc
  have q0 := fun w => isSide_c i w
  have Hlen : Hid (wf hasI ⟨t, s, us, fs, fa, se, oo⟩ = 0 → fa.length = 4) := fun e => wf_len e
  show Calls Tryz.prog 62 #[.agg (wv t s u us.length uc f fs.length fc a fa.length ac q se.length qc r oo.length rc), .int .i64 i] w _
  obtain ⟨W, HW⟩ : ∃ W, Hid (W = w.alloc (.cells (wv t s u us.length uc f fs.length fc a fa.length ac q se.length qc r oo.length rc) 32)) := ⟨_, rfl⟩
  have B1 : Below w.heap.size w W := by rw [HW.out]; exact (Below.refl _ _).alloc (Nat.le_refl _) _
  have P : Bk W w.heap.size (wv t s u us.length uc f fs.length fc a fa.length ac q se.length qc r oo.length rc) 32 := by rw [HW.out]; exact Bk.new w _ _
  have HN : Hid (ArgW W ⟨u, uc, f, fc, a, ac, q, qc, r, rc⟩ ⟨t, s, us, fs, fa, se, oo⟩) := h.later B1
  have cF := fun W' (h : Below W.heap.size W W') => implWorldFault ⟨u, uc, f, fc, a, ac, q, qc, r, rc⟩ ⟨t, s, us, fs, fa, se, oo⟩ hc hrc W' (HN.out.later h)
  have HE : Hid (sfF hasI ⟨t, s, us, fs, fa, se, oo⟩ i = if (wf hasI ⟨t, s, us, fs, fa, se, oo⟩ == 0) = false then wf hasI ⟨t, s, us, fs, fa, se, oo⟩ else if inb i 0 3 = false then 3 else 0) := rfl
  generalize sfF hasI ⟨t, s, us, fs, fa, se, oo⟩ i = R at HE ⊢
  have HA : Hid (ArgA W a fa) := HN.out.a
  generalize wf hasI ⟨t, s, us, fs, fa, se, oo⟩ = F at cF HE Hlen
  replace cF : ∀ W', Below W.heap.size W W' → Calls Tryz.prog 14 #[.agg (wv t s u us.length uc f fs.length fc a fa.length ac q se.length qc r oo.length rc)] W' fun e w' => e = .returned (.int .i64 F) ∧ Below W'.heap.size W' w' := cF
  generalize us.length = mu at P HW cF ⊢
  generalize fs.length = mf at P HW cF ⊢
  obtain ⟨ma, Hma⟩ : ∃ m, Hid (fa.length = m) := ⟨_, rfl⟩
  rw [Hma.out] at P HW Hlen cF ⊢
  generalize se.length = ms at P HW cF ⊢
  generalize oo.length = mo at P HW cF ⊢
  clear hc hrc h HN
  have keep : ∀ w', Below W.heap.size W w' → w'.cell? ⟨w.heap.size, 0, none⟩ = some (.int .i64 t) ∧ w'.cell? ⟨w.heap.size, 1, none⟩ = some (.int .i64 s) ∧ w'.cell? ⟨w.heap.size, 2, none⟩ = some (.slice u mu uc) ∧ w'.cell? ⟨w.heap.size, 3, none⟩ = some (.slice f mf fc) ∧ w'.cell? ⟨w.heap.size, 4, none⟩ = some (.slice a ma ac) ∧ w'.cell? ⟨w.heap.size, 5, none⟩ = some (.slice q ms qc) ∧ w'.cell? ⟨w.heap.size, 6, none⟩ = some (.slice r mo rc) ∧ w.heap.size < w'.heap.size := fun w' hb => by
    have q := P.below hb
    exact ⟨q.cell rfl, q.cell rfl, q.cell rfl, q.cell rfl, q.cell rfl, q.cell rfl, q.cell rfl, q.lt⟩
  have Bc : Below W.heap.size W W := Below.refl _ _
  cases e2 : F == 0
  · have n7 : (F != 0) = true := by simp only [bne, e2]; rfl
    have HR : Hid (R = F) := by show _ = _; rw [HE.out, e2]; rfl
    clear HE Hlen e2
    obtain ⟨p0, p1, p2, p3, p4, p5, p6, pl⟩ := keep _ Bc
    go_enter Tryz.func62, Tryz.ntmps62
    go_upto_region 1 with fail
    rw [← HW.out]
    go_wp2_with fail
    refine (cF _ Bc).mono ?_
    rintro e wn ⟨rfl, kn⟩
    have Bc := Bc.trans (kn.mono Bc.size)
    go_wp2_with (first | (go_at_call 42; with_reducible refine (q0 _).mono ?_; rintro e w1 ⟨rfl, hw1⟩; obtain rfl := hw1.symm))
    go_ret
    exact ⟨by rw [HR.out] <;> rfl, B1.trans (Bc.mono B1.size)⟩
  obtain rfl : F = 0 := by simpa using e2
  have HE : Hid (R = if inb i 0 3 = false then 3 else 0) := HE
  clear e2
  cases e0 : inb i 0 3
  · rw [e0] at q0
    have HR : Hid (R = 3) := by show _ = _; rw [HE.out];  rw [e0]; rfl
    clear HE Hlen
    obtain ⟨p0, p1, p2, p3, p4, p5, p6, pl⟩ := keep _ Bc
    go_enter Tryz.func62, Tryz.ntmps62
    go_upto_region 1 with fail
    rw [← HW.out]
    go_wp2_with fail
    refine (cF _ Bc).mono ?_
    rintro e wn ⟨rfl, kn⟩
    have Bc := Bc.trans (kn.mono Bc.size)
    clear p0 p1 p2 p3 p4 p5 p6 pl
    obtain ⟨p0, p1, p2, p3, p4, p5, p6, pl⟩ := keep _ Bc
    go_wp2_with (first | (go_at_call 42; with_reducible refine (q0 _).mono ?_; rintro e w1 ⟨rfl, hw1⟩; obtain rfl := hw1.symm))
    go_ret
    exact ⟨by rw [HR.out] <;> rfl, B1.trans (Bc.mono B1.size)⟩
  · rw [e0] at q0
    have HR : Hid (R = 0) := by show _ = _; rw [HE.out];  rw [e0]; rfl
    clear HE Hlen
    obtain ⟨p0, p1, p2, p3, p4, p5, p6, pl⟩ := keep _ Bc
    go_enter Tryz.func62, Tryz.ntmps62
    go_upto_region 1 with fail
    rw [← HW.out]
    go_wp2_with fail
    refine (cF _ Bc).mono ?_
    rintro e wn ⟨rfl, kn⟩
    have Bc := Bc.trans (kn.mono Bc.size)
    clear p0 p1 p2 p3 p4 p5 p6 pl
    obtain ⟨p0, p1, p2, p3, p4, p5, p6, pl⟩ := keep _ Bc
    go_wp2_with (first | (go_at_call 42; with_reducible refine (q0 _).mono ?_; rintro e w1 ⟨rfl, hw1⟩; obtain rfl := hw1.symm))
    go_ret
    exact ⟨by rw [HR.out] <;> rfl, B1.trans (Bc.mono B1.size)⟩
end Go.Proofs.YtmfdggaijbcijaaGreat
end

/- WsImpl2 -/
/- The contract of newWorldState. Condition: the lists are short. -/
section
namespace Go.Proofs.YtmfdggaijbcijaaGreat
open Go.ChangeShapes Go.WideShapes Go.ChangeAt Go.RowKit
open Bd
set_option linter.unusedVariables false

set_option maxRecDepth 20000 in
set_option maxHeartbeats 16000000 in
theorem newWorldState_c (p : WP) (x : KW) (hu : x.us.length ≤ 8) (hf : x.fs.length ≤ 4) (ha : x.fa.length ≤ 4) (hs : x.se.length ≤ 6) (ho : x.oo.length ≤ 6) (w : World) (h : InW w p x) :
    Calls Tryz.prog 32 #[.agg (p.v x)] w fun e w' => ∃ g p', e = .returned (.pointer (some ⟨g, 0, none⟩)) ∧ WS w' w.heap.size g p' x ∧ Below w.heap.size w w' := by
  obtain ⟨t, s, us, fs, fa, se, oo⟩ := x
  obtain ⟨u, uc, f, fc, a, ac, q, qc, r, rc⟩ := p
  dsimp only at hu hf ha hs ho
  show Calls Tryz.prog 32 #[.agg (wv t s u us.length uc f fs.length fc a fa.length ac q se.length qc r oo.length rc)] w _
  obtain ⟨W, HW⟩ : ∃ W, Hid (W = w.alloc (.cells (wv t s u us.length uc f fs.length fc a fa.length ac q se.length qc r oo.length rc) 32)) := ⟨_, rfl⟩
  have B1 : Below w.heap.size w W := by rw [HW.out]; exact (Below.refl _ _).alloc (Nat.le_refl _) _
  have P : Bk W w.heap.size (wv t s u us.length uc f fs.length fc a fa.length ac q se.length qc r oo.length rc) 32 := by rw [HW.out]; exact Bk.new w _ _
  have cB := fun W' (b : Below W.heap.size W W') => copied_c u us.length uc f fs.length fc us fs rfl rfl (by omega) hf W' (h.later (B1.trans (b.mono B1.size))).u (h.later (B1.trans (b.mono B1.size))).f
  have cA := fun W' (b : Below W.heap.size W W') => cloneA_i a ac fa.length fa rfl (by omega) W' (h.later (B1.trans (b.mono B1.size))).a
  have cS := fun W' (b : Below W.heap.size W W') => cloneS_i q qc se.length se rfl (by omega) W' (h.later (B1.trans (b.mono B1.size))).s
  have cO := fun W' (b : Below W.heap.size W W') => cloneO_i r rc oo.length oo rfl (by omega) W' (h.later (B1.trans (b.mono B1.size))).o
  have hB := B1.size
  clear h hu hf ha hs ho
  obtain ⟨mu, Hu⟩ : ∃ m, Hid (us.length = m) := ⟨_, rfl⟩
  obtain ⟨mf, Hf⟩ : ∃ m, Hid (fs.length = m) := ⟨_, rfl⟩
  obtain ⟨ma, Ha⟩ : ∃ m, Hid (fa.length = m) := ⟨_, rfl⟩
  obtain ⟨ms, Hs⟩ : ∃ m, Hid (se.length = m) := ⟨_, rfl⟩
  obtain ⟨mo, Ho⟩ : ∃ m, Hid (oo.length = m) := ⟨_, rfl⟩
  rw [Hu.out, Hf.out, Ha.out, Hs.out, Ho.out] at P HW
  rw [Hu.out, Hf.out] at cB
  rw [Ha.out] at cA
  rw [Hs.out] at cS
  rw [Ho.out] at cO
  rw [Hu.out, Hf.out, Ha.out, Hs.out, Ho.out]
  have keep : ∀ w', Below W.heap.size W w' → w'.cell? ⟨w.heap.size, 0, none⟩ = some (.int .i64 t) ∧ w'.cell? ⟨w.heap.size, 1, none⟩ = some (.int .i64 s) ∧ w'.cell? ⟨w.heap.size, 2, none⟩ = some (.slice u mu uc) ∧ w'.cell? ⟨w.heap.size, 3, none⟩ = some (.slice f mf fc) ∧ w'.cell? ⟨w.heap.size, 4, none⟩ = some (.slice a ma ac) ∧ w'.cell? ⟨w.heap.size, 5, none⟩ = some (.slice q ms qc) ∧ w'.cell? ⟨w.heap.size, 6, none⟩ = some (.slice r mo rc) := fun w' hb => by
    have q := P.below hb
    exact ⟨q.cell rfl, q.cell rfl, q.cell rfl, q.cell rfl, q.cell rfl, q.cell rfl, q.cell rfl⟩
  have Bc : Below W.heap.size W W.drew := (Below.refl _ _).drew
  obtain ⟨x0, x1, x2, x3, x4, x5, x6⟩ := keep _ (Below.refl _ _)
  go_enter Tryz.func32, Tryz.ntmps32
  go_upto_region 1 with fail
  rw [← HW.out]
  go_region_held3 (fun w' => w'.cell? ⟨w.heap.size, 0, none⟩ = some (.int .i64 t) ∧ w'.cell? ⟨w.heap.size, 1, none⟩ = some (.int .i64 s) ∧ w'.cell? ⟨w.heap.size, 2, none⟩ = some (.slice u mu uc) ∧ w'.cell? ⟨w.heap.size, 3, none⟩ = some (.slice f mf fc) ∧ w'.cell? ⟨w.heap.size, 4, none⟩ = some (.slice a ma ac) ∧ w'.cell? ⟨w.heap.size, 5, none⟩ = some (.slice q ms qc) ∧ w'.cell? ⟨w.heap.size, 6, none⟩ = some (.slice r mo rc)) (first | exact keep _ Bc | go_keep) (first
    | (go_at_call 68; refine (cB _ Bc).mono ?_; rintro e w2 ⟨p2, c2, p3, c3, rfl, U2, F2, k2⟩; have h2 := Bc.size; have Bc := Bc.trans (k2.mono Bc.size); obtain ⟨x0, x1, x2, x3, x4, x5, x6⟩ := keep _ Bc)
    | (go_at_call 69; refine (cA _ Bc).mono ?_; rintro e w4 ⟨v4, rfl, A4, k4⟩; obtain ⟨p4, c4, rfl⟩ := A4.fm; rw [Ha.out] at A4 ⊢; have U2 := U2.below k4; have F2 := F2.below k4; have h4 := Bc.size; have Bc := Bc.trans (k4.mono Bc.size); obtain ⟨x0, x1, x2, x3, x4, x5, x6⟩ := keep _ Bc)
    | (go_at_call 70; refine (cS _ Bc).mono ?_; rintro e w5 ⟨v5, rfl, S5, k5⟩; obtain ⟨p5, c5, rfl⟩ := S5.fm; rw [Hs.out] at S5 ⊢; have U2 := U2.below k5; have F2 := F2.below k5; have A4 := A4.below k5; have h5 := Bc.size; have Bc := Bc.trans (k5.mono Bc.size); obtain ⟨x0, x1, x2, x3, x4, x5, x6⟩ := keep _ Bc)
    | (go_at_call 71; refine (cO _ Bc).mono ?_; rintro e w6 ⟨v6, rfl, O6, k6⟩; obtain ⟨p6, c6, rfl⟩ := O6.fm; rw [Ho.out] at O6 ⊢; have U2 := U2.below k6; have F2 := F2.below k6; have A4 := A4.below k6; have S5 := S5.below k6; have h6 := Bc.size; have Bc := Bc.trans (k6.mono Bc.size); obtain ⟨x0, x1, x2, x3, x4, x5, x6⟩ := keep _ Bc))
  all_goals
    have kz : Below w6.heap.size w6 (w6.alloc (.cells #[.slice p2 mu c2, .slice p3 mf c3, .int .i64 t, .int .i64 s, .slice p4 ma c4, .slice p5 ms c5, .slice p6 mo c6] 66)) := (Below.refl _ _).alloc (Nat.le_refl _) _
    have G : Blk (w6.alloc (.cells #[.slice p2 mu c2, .slice p3 mf c3, .int .i64 t, .int .i64 s, .slice p4 ma c4, .slice p5 ms c5, .slice p6 mo c6] 66)) w6.heap.size #[.slice p2 mu c2, .slice p3 mf c3, .int .i64 t, .int .i64 s, .slice p4 ma c4, .slice p5 ms c5, .slice p6 mo c6] 66 := Blk.new w6 _ _
    have h7 := Bc.size
    go_wp2_with fail
    go_ret
    refine ⟨w6.heap.size, ⟨p2, c2, p3, c3, p4, c4, p5, c5, p6, c6⟩, rfl, ⟨?_, ⟨?_, ?_, ?_, ?_, ?_⟩, by omega⟩, B1.trans ((Bc.alloc h7 _).mono B1.size)⟩
    · show Blk _ _ #[.slice p2 us.length c2, .slice p3 fs.length c3, .int .i64 t, .int .i64 s, .slice p4 fa.length c4, .slice p5 se.length c5, .slice p6 oo.length c6] _
      rw [Hu.out, Hf.out, Ha.out, Hs.out, Ho.out]
      exact G
    · show SlU _ _ (.slice p2 us.length c2) us
      rw [Hu.out]
      exact (U2.below kz).mono (by omega)
    · show SlF _ _ (.slice p3 fs.length c3) fs
      rw [Hf.out]
      exact (F2.below kz).mono (by omega)
    · show SlA _ _ (.slice p4 fa.length c4) fa
      rw [Ha.out]
      exact (A4.below kz).mono (by omega)
    · show SlS _ _ (.slice p5 se.length c5) se
      rw [Hs.out]
      exact (S5.below kz).mono (by omega)
    · show SlO _ _ (.slice p6 oo.length c6) oo
      rw [Ho.out]
      exact (O6.below kz).mono (by omega)
end Go.Proofs.YtmfdggaijbcijaaGreat
end
