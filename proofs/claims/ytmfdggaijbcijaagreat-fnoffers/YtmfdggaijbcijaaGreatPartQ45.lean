/- Texts of mine put together (a claim holds at most 60 files): AlImpl, WldDraws6, SameBI. -/
import Derived.Test.YtmfdggaijbcijaaGreatPartQ28
import Derived.Test.YtmfdggaijbcijaaGreatPartQ21
import Derived.Test.YtmfdggaijbcijaaGreatPartQ01
import Derived.Test.YtmfdggaijbcijaaGreatPartQ26
import Derived.Deep.CutRange
import Derived.Test.YtmfdggaijbcijaaGreatPartQ05
import Derived.Test.YtmfdggaijbcijaaGreatPartQ07

/- AlImpl -/
/- The contracts of AreAllies, the program's and the model's. Condition: the world is a copy that lies in memory as it was laid there, with no more than 1048576 parts. -/
section
namespace Go.Proofs.YtmfdggaijbcijaaGreat
open Go.ChangeShapes Go.WideShapes Go.ChangeAt Go.RowKit
open Bd
set_option linter.unusedVariables false

set_option maxRecDepth 20000 in
set_option maxHeartbeats 16000000 in
theorem implAreAllies (p : WP) (x : KW) (hc : x.oo.length ≤ p.oc) (hrc : p.oc ≤ maxLen) (w : World) (h : ArgW w p x) (i j : Int) :
    Calls Tryz.prog 11 #[.agg (p.v x), .int .i64 i, .int .i64 j] w fun e w' => e = .returned (.bool (areA hasI x i j)) ∧ Below w.heap.size w w' := by
  obtain ⟨t, s, us, fs, fa, se, oo⟩ := x
  obtain ⟨u, uc, f, fc, a, ac, q, qc, r, rc⟩ := p
  dsimp only at hc hrc
  have q0 := fun w => isSide_c i w
  have q1 := fun w => isSide_c j w
  have Hlen : Hid (wf hasI ⟨t, s, us, fs, fa, se, oo⟩ = 0 → fa.length = 4) := fun e => wf_len e
  show Calls Tryz.prog 11 #[.agg (wv t s u us.length uc f fs.length fc a fa.length ac q se.length qc r oo.length rc), .int .i64 i, .int .i64 j] w _
  obtain ⟨W, HW⟩ : ∃ W, Hid (W = w.alloc (.cells (wv t s u us.length uc f fs.length fc a fa.length ac q se.length qc r oo.length rc) 32)) := ⟨_, rfl⟩
  have B1 : Below w.heap.size w W := by rw [HW.out]; exact (Below.refl _ _).alloc (Nat.le_refl _) _
  have P : Bk W w.heap.size (wv t s u us.length uc f fs.length fc a fa.length ac q se.length qc r oo.length rc) 32 := by rw [HW.out]; exact Bk.new w _ _
  have HN : Hid (ArgW W ⟨u, uc, f, fc, a, ac, q, qc, r, rc⟩ ⟨t, s, us, fs, fa, se, oo⟩) := h.later B1
  have cF := fun W' (h : Below W.heap.size W W') => implWorldFault ⟨u, uc, f, fc, a, ac, q, qc, r, rc⟩ ⟨t, s, us, fs, fa, se, oo⟩ hc hrc W' (HN.out.later h)
  have HE : Hid (areA hasI ⟨t, s, us, fs, fa, se, oo⟩ i j = (inb i 0 3 && inb j 0 3 && (wf hasI ⟨t, s, us, fs, fa, se, oo⟩ == 0) && hasI (allyA fa i) j)) := rfl
  generalize areA hasI ⟨t, s, us, fs, fa, se, oo⟩ i j = R at HE ⊢
  have HA : Hid (ArgA W a fa) := HN.out.a
  generalize wf hasI ⟨t, s, us, fs, fa, se, oo⟩ = F at cF HE Hlen
  replace cF : ∀ W', Below W.heap.size W W' → Calls Tryz.prog 14 #[.agg (wv t s u us.length uc f fs.length fc a fa.length ac q se.length qc r oo.length rc)] W' fun e w' => e = .returned (.int .i64 F) ∧ Below W'.heap.size W' w' := cF
  generalize us.length = mu at P HW cF ⊢
  generalize fs.length = mf at P HW cF ⊢
  obtain ⟨ma, Hma⟩ : ∃ m, Hid (fa.length = m) := ⟨_, rfl⟩
  rw [Hma.out] at P HW Hlen cF ⊢
  generalize se.length = ms at P HW cF ⊢
  generalize oo.length = mo at P HW cF ⊢
  clear hc hrc h HN
  have keep : ∀ w', Below W.heap.size W w' → w'.cell? ⟨w.heap.size, 0, none⟩ = some (.int .i64 t) ∧ w'.cell? ⟨w.heap.size, 1, none⟩ = some (.int .i64 s) ∧ w'.cell? ⟨w.heap.size, 2, none⟩ = some (.slice u mu uc) ∧ w'.cell? ⟨w.heap.size, 3, none⟩ = some (.slice f mf fc) ∧ w'.cell? ⟨w.heap.size, 4, none⟩ = some (.slice a ma ac) ∧ w'.cell? ⟨w.heap.size, 5, none⟩ = some (.slice q ms qc) ∧ w'.cell? ⟨w.heap.size, 6, none⟩ = some (.slice r mo rc) ∧ w.heap.size < w'.heap.size := fun w' hb => by
    have q := P.below hb
    exact ⟨q.cell rfl, q.cell rfl, q.cell rfl, q.cell rfl, q.cell rfl, q.cell rfl, q.cell rfl, q.lt⟩
  have Bc : Below W.heap.size W W := Below.refl _ _
  cases e0 : inb i 0 3
  · rw [e0] at q0 HE
    have HR : Hid (R = false) := HE
    obtain ⟨p0, p1, p2, p3, p4, p5, p6, pl⟩ := keep _ Bc
    go_enter Tryz.func11, Tryz.ntmps11
    go_upto_region 1 with fail
    rw [← HW.out]
    try simp only [List.append]
    go_wp2_with (first | (go_at_call 42; with_reducible refine (q0 _).mono ?_; rintro e w1 ⟨rfl, hw1⟩; obtain rfl := hw1.symm) | (go_at_call 42; with_reducible refine (q1 _).mono ?_; rintro e w1 ⟨rfl, hw1⟩; obtain rfl := hw1.symm))
    go_ret
    exact ⟨by rw [HR.out]; rfl, B1⟩
  cases e1 : inb j 0 3
  · rw [e0] at q0 HE
    rw [e1] at q1 HE
    have HR : Hid (R = false) := HE
    obtain ⟨p0, p1, p2, p3, p4, p5, p6, pl⟩ := keep _ Bc
    go_enter Tryz.func11, Tryz.ntmps11
    go_upto_region 1 with fail
    rw [← HW.out]
    try simp only [List.append]
    go_wp2_with (first | (go_at_call 42; with_reducible refine (q0 _).mono ?_; rintro e w1 ⟨rfl, hw1⟩; obtain rfl := hw1.symm) | (go_at_call 42; with_reducible refine (q1 _).mono ?_; rintro e w1 ⟨rfl, hw1⟩; obtain rfl := hw1.symm))
    go_ret
    exact ⟨by rw [HR.out]; rfl, B1⟩
  cases e2 : F == 0
  · rw [e0] at q0 HE
    rw [e1] at q1 HE
    rw [e2] at HE
    have HR : Hid (R = false) := HE
    obtain ⟨p0, p1, p2, p3, p4, p5, p6, pl⟩ := keep _ Bc
    go_enter Tryz.func11, Tryz.ntmps11
    go_upto_region 1 with fail
    rw [← HW.out]
    try simp only [List.append]
    go_wp2_with (first | (go_at_call 42; with_reducible refine (q0 _).mono ?_; rintro e w1 ⟨rfl, hw1⟩; obtain rfl := hw1.symm) | (go_at_call 42; with_reducible refine (q1 _).mono ?_; rintro e w1 ⟨rfl, hw1⟩; obtain rfl := hw1.symm) | (go_at_call 14; refine (cF _ Bc).mono ?_; rintro e wn ⟨rfl, kn⟩; have Bc := Bc.trans (kn.mono Bc.size)))
    go_ret
    exact ⟨by rw [HR.out]; rfl, B1.trans (Bc.mono B1.size)⟩
  · obtain rfl : F = 0 := by simpa using e2
    obtain ⟨i0, i1⟩ := inb_i e0
    obtain ⟨j0, j1⟩ := inb_i e1
    have h4 : ma = 4 := Hlen.out rfl
    subst h4
    obtain ⟨g, hg, _, hga⟩ := side_at Hma.out i0 i1
    have Hg : Hid (fa[i.toNat]? = some g) := hg
    obtain ⟨ba, oa, rfl, hba, hat⟩ := HA.out.four Hma.out
    have Hat : Hid (AAt W ba oa fa) := hat
    rw [e0] at q0 HE
    rw [e1] at q1 HE
    rw [hga] at HE
    have HR : Hid (R = hasI g.c2 j) := HE
    have qH := fun w => hasBit_c g.c2 j (by omega) (by omega) w
    have keepG := fun w' (hb : Below W.heap.size W w') => (Hat.out.later hba hb).one (Nat.lt_of_lt_of_le hba hb.size) Hg.out
    have ha4 : i < 4 := by omega
    clear e0 e1 e2 hg hga HE Hlen hat
    obtain ⟨p0, p1, p2, p3, p4, p5, p6, pl⟩ := keep _ Bc
    go_enter Tryz.func11, Tryz.ntmps11
    go_upto_region 1 with fail
    rw [← HW.out]
    try simp only [List.append]
    go_wp2_with (first | (go_at_call 42; with_reducible refine (q0 _).mono ?_; rintro e w1 ⟨rfl, hw1⟩; obtain rfl := hw1.symm) | (go_at_call 42; with_reducible refine (q1 _).mono ?_; rintro e w1 ⟨rfl, hw1⟩; obtain rfl := hw1.symm) | (go_at_call 14; refine (cF _ Bc).mono ?_; rintro e wn ⟨rfl, kn⟩; have Bc := Bc.trans (kn.mono Bc.size); obtain ⟨p0, p1, p2, p3, p4, p5, p6, pl⟩ := keep _ Bc; obtain ⟨y0, y1, y2, yl⟩ := keepG _ Bc) | (go_at_call 38; with_reducible refine (qH _).mono ?_; rintro e w1 ⟨rfl, hw1⟩; obtain rfl := hw1.symm))
    go_ret
    exact ⟨by rw [HR.out]; rfl, B1.trans (Bc.mono B1.size)⟩
end Go.Proofs.YtmfdggaijbcijaaGreat
end

/- WldDraws6 -/
/- Contracts of the draws of pacts and gifts. Condition: the code has at most 1048576 bytes, which can be read. -/
section
namespace Go.Proofs.YtmfdggaijbcijaaGreat
open Go.ChangeShapes Go.WideShapes Go.ChangeAt Go.RowKit
open Bd
set_option linter.unusedVariables false

abbrev st7 (W : World) (rb : Nat) (p : WP) (x : KW) : World := set7 W rb (.int .i64 x.t) (.int .i64 x.s) (.slice p.u x.us.length p.uc) (.slice p.f x.fs.length p.fc) (.slice p.a x.fa.length p.ac) (.slice p.s x.se.length p.sc) (.slice p.o x.oo.length p.oc)
theorem fill7 {W : World} {rb base : Nat} {p : WP} {x : KW} (R : Blk W rb zW 32) (h : OwW W base p x) {n0 : Nat} {v : World} (hb : Below n0 v W) (hn : n0 ≤ rb) (hn2 : n0 ≤ base) : Blk (st7 W rb p x) rb (p.v x) 32 ∧ OwW (st7 W rb p x) n0 p x ∧ Below n0 v (st7 W rb p x) :=
  ⟨set7_blk R _ _ _ _ _ _ _, (h.of_block R (by decide) (by decide) (by decide) (by decide) (by decide) (set7_other _ _ _ _ _ _ _)).mono hn2, set7_below hb hn _ _ _ _ _ _ _⟩
set_option maxRecDepth 20000 in
set_option maxHeartbeats 8000000 in
theorem drawAcceptPact_c (w : World) (a0 : Option Addr) (len cap : Nat) (hb : Bytes w a0 len w.heap.size) (hl : len ≤ 1048576) :
    Calls Tryz.prog 6 #[.slice a0 len cap] w fun e w' => ∃ p x i j, e = .returned (.tuple #[.agg (WP.v p x), .int .i64 i, .int .i64 j]) ∧ OwW w' w.heap.size p x ∧ DW x ∧ Below w.heap.size w w' := by
  obtain ⟨W1, HW1⟩ : ∃ W1, Hid (W1 = w.alloc (.cells zW 32)) := ⟨_, rfl⟩
  have A0 : Below w.heap.size w W1 := by rw [HW1.out]; exact (Below.refl _ _).alloc (Nat.le_refl _) _
  have R0 : Blk W1 w.heap.size zW 32 := by rw [HW1.out]; exact Blk.new w zW 32
  have cD := l7Draw_c W1 a0 len cap (hb.later A0) hl
  have hs1 := A0.size
  clear hb hl
  go_enter Tryz.func6, Tryz.ntmps6
  go_upto_region 1 with fail
  rw [← HW1.out]
  go_wp2_with fail
  refine cD.mono ?_
  rintro e w2 ⟨p, x, i, j, rfl, O2, dw, B2⟩
  have R2 := R0.below B2
  obtain ⟨F1, F2, F3⟩ := fill7 (v := w) (n0 := w.heap.size) R2 O2 (A0.trans (B2.mono hs1)) (Nat.le_refl _) hs1
  obtain ⟨t, s, us, fs, fa, se, oo⟩ := x
  obtain ⟨u, uc, f, fc, a, ac, q, qc, r, rc⟩ := p
  obtain ⟨y0, y1, y2, y3, y4, y5, y6, z0, z1, z2, z3, z4, z5, z6, rl⟩ := R2.z7
  go_wp2_with fail
  obtain ⟨c0, c1, c2, c3, c4, c5, c6, cl⟩ := F1.c7
  refine bodyPost_ret (v := .tuple #[.agg (wv t s u us.length uc f fs.length fc a fa.length ac q se.length qc r oo.length rc), .int .i64 i, .int .i64 j]) ?_ rfl ⟨⟨u, uc, f, fc, a, ac, q, qc, r, rc⟩, ⟨t, s, us, fs, fa, se, oo⟩, i, j, rfl, F2, dw, F3⟩
  simp [results, Tryz.results6, go_sem, c0, c1, c2, c3, c4, c5, c6]
  done
set_option maxRecDepth 20000 in
set_option maxHeartbeats 8000000 in
theorem drawBreakPact_c (w : World) (a0 : Option Addr) (len cap : Nat) (hb : Bytes w a0 len w.heap.size) (hl : len ≤ 1048576) :
    Calls Tryz.prog 8 #[.slice a0 len cap] w fun e w' => ∃ p x i j, e = .returned (.tuple #[.agg (WP.v p x), .int .i64 i, .int .i64 j]) ∧ OwW w' w.heap.size p x ∧ DW x ∧ Below w.heap.size w w' := by
  obtain ⟨W1, HW1⟩ : ∃ W1, Hid (W1 = w.alloc (.cells zW 32)) := ⟨_, rfl⟩
  have A0 : Below w.heap.size w W1 := by rw [HW1.out]; exact (Below.refl _ _).alloc (Nat.le_refl _) _
  have R0 : Blk W1 w.heap.size zW 32 := by rw [HW1.out]; exact Blk.new w zW 32
  have cD := l7Draw_c W1 a0 len cap (hb.later A0) hl
  have hs1 := A0.size
  clear hb hl
  go_enter Tryz.func8, Tryz.ntmps8
  go_upto_region 1 with fail
  rw [← HW1.out]
  go_wp2_with fail
  refine cD.mono ?_
  rintro e w2 ⟨p, x, i, j, rfl, O2, dw, B2⟩
  have R2 := R0.below B2
  obtain ⟨F1, F2, F3⟩ := fill7 (v := w) (n0 := w.heap.size) R2 O2 (A0.trans (B2.mono hs1)) (Nat.le_refl _) hs1
  obtain ⟨t, s, us, fs, fa, se, oo⟩ := x
  obtain ⟨u, uc, f, fc, a, ac, q, qc, r, rc⟩ := p
  obtain ⟨y0, y1, y2, y3, y4, y5, y6, z0, z1, z2, z3, z4, z5, z6, rl⟩ := R2.z7
  go_wp2_with fail
  obtain ⟨c0, c1, c2, c3, c4, c5, c6, cl⟩ := F1.c7
  refine bodyPost_ret (v := .tuple #[.agg (wv t s u us.length uc f fs.length fc a fa.length ac q se.length qc r oo.length rc), .int .i64 i, .int .i64 j]) ?_ rfl ⟨⟨u, uc, f, fc, a, ac, q, qc, r, rc⟩, ⟨t, s, us, fs, fa, se, oo⟩, i, j, rfl, F2, dw, F3⟩
  simp [results, Tryz.results8, go_sem, c0, c1, c2, c3, c4, c5, c6]
  done
set_option maxRecDepth 20000 in
set_option maxHeartbeats 8000000 in
theorem drawOfferPact_c (w : World) (a0 : Option Addr) (len cap : Nat) (hb : Bytes w a0 len w.heap.size) (hl : len ≤ 1048576) :
    Calls Tryz.prog 17 #[.slice a0 len cap] w fun e w' => ∃ p x i j, e = .returned (.tuple #[.agg (WP.v p x), .int .i64 i, .int .i64 j]) ∧ OwW w' w.heap.size p x ∧ DW x ∧ Below w.heap.size w w' := by
  obtain ⟨W1, HW1⟩ : ∃ W1, Hid (W1 = w.alloc (.cells zW 32)) := ⟨_, rfl⟩
  have A0 : Below w.heap.size w W1 := by rw [HW1.out]; exact (Below.refl _ _).alloc (Nat.le_refl _) _
  have R0 : Blk W1 w.heap.size zW 32 := by rw [HW1.out]; exact Blk.new w zW 32
  have cD := l7Draw_c W1 a0 len cap (hb.later A0) hl
  have hs1 := A0.size
  clear hb hl
  go_enter Tryz.func17, Tryz.ntmps17
  go_upto_region 1 with fail
  rw [← HW1.out]
  go_wp2_with fail
  refine cD.mono ?_
  rintro e w2 ⟨p, x, i, j, rfl, O2, dw, B2⟩
  have R2 := R0.below B2
  obtain ⟨F1, F2, F3⟩ := fill7 (v := w) (n0 := w.heap.size) R2 O2 (A0.trans (B2.mono hs1)) (Nat.le_refl _) hs1
  obtain ⟨t, s, us, fs, fa, se, oo⟩ := x
  obtain ⟨u, uc, f, fc, a, ac, q, qc, r, rc⟩ := p
  obtain ⟨y0, y1, y2, y3, y4, y5, y6, z0, z1, z2, z3, z4, z5, z6, rl⟩ := R2.z7
  go_wp2_with fail
  obtain ⟨c0, c1, c2, c3, c4, c5, c6, cl⟩ := F1.c7
  refine bodyPost_ret (v := .tuple #[.agg (wv t s u us.length uc f fs.length fc a fa.length ac q se.length qc r oo.length rc), .int .i64 i, .int .i64 j]) ?_ rfl ⟨⟨u, uc, f, fc, a, ac, q, qc, r, rc⟩, ⟨t, s, us, fs, fa, se, oo⟩, i, j, rfl, F2, dw, F3⟩
  simp [results, Tryz.results17, go_sem, c0, c1, c2, c3, c4, c5, c6]
  done
set_option maxRecDepth 20000 in
set_option maxHeartbeats 8000000 in
theorem drawAlliesOf_c (w : World) (a0 : Option Addr) (len cap : Nat) (hb : Bytes w a0 len w.heap.size) (hl : len ≤ 1048576) :
    Calls Tryz.prog 61 #[.slice a0 len cap] w fun e w' => ∃ p x i, e = .returned (.tuple #[.agg (WP.v p x), .int .i64 i]) ∧ OwW w' w.heap.size p x ∧ DW x ∧ Below w.heap.size w w' := by
  obtain ⟨W1, HW1⟩ : ∃ W1, Hid (W1 = w.alloc (.cells zW 32)) := ⟨_, rfl⟩
  have A0 : Below w.heap.size w W1 := by rw [HW1.out]; exact (Below.refl _ _).alloc (Nat.le_refl _) _
  have R0 : Blk W1 w.heap.size zW 32 := by rw [HW1.out]; exact Blk.new w zW 32
  have cD := l7Draw_c W1 a0 len cap (hb.later A0) hl
  have hs1 := A0.size
  clear hb hl
  go_enter Tryz.func61, Tryz.ntmps61
  go_upto_region 1 with fail
  rw [← HW1.out]
  go_wp2_with fail
  refine cD.mono ?_
  rintro e w2 ⟨p, x, i, j, rfl, O2, dw, B2⟩
  obtain ⟨t, s, us, fs, fa, se, oo⟩ := x
  obtain ⟨u, uc, f, fc, a, ac, q, qc, r, rc⟩ := p
  obtain ⟨W3, HW3⟩ : ∃ W3, Hid (W3 = w2.alloc (.cells (wv t s u us.length uc f fs.length fc a fa.length ac q se.length qc r oo.length rc) 32)) := ⟨_, rfl⟩
  have B3 : Below w2.heap.size w2 W3 := by rw [HW3.out]; exact (Below.refl _ _).alloc (Nat.le_refl _) _
  have G3 : Blk W3 w2.heap.size (wv t s u us.length uc f fs.length fc a fa.length ac q se.length qc r oo.length rc) 32 := by rw [HW3.out]; exact Blk.new w2 _ _
  have R2 := (R0.below B2).below B3
  obtain ⟨F1, F2, F3⟩ := fill7 (v := w) (n0 := w.heap.size) R2 (O2.later B3) (A0.trans ((B2.trans (B3.mono B2.size)).mono hs1)) (Nat.le_refl _) hs1
  obtain ⟨y0, y1, y2, y3, y4, y5, y6, z0, z1, z2, z3, z4, z5, z6, rl⟩ := R2.z7
  obtain ⟨q0, q1, q2, q3, q4, q5, q6, ql⟩ := G3.c7
  go_upto_region 2 with fail
  rw [← HW3.out]
  go_wp2_with fail
  obtain ⟨c0, c1, c2, c3, c4, c5, c6, cl⟩ := F1.c7
  refine bodyPost_ret (v := .tuple #[.agg (wv t s u us.length uc f fs.length fc a fa.length ac q se.length qc r oo.length rc), .int .i64 i]) ?_ rfl ⟨⟨u, uc, f, fc, a, ac, q, qc, r, rc⟩, ⟨t, s, us, fs, fa, se, oo⟩, i, rfl, F2, dw, F3⟩
  simp [results, Tryz.results61, go_sem, c0, c1, c2, c3, c4, c5, c6]
  done
set_option maxRecDepth 20000 in
set_option maxHeartbeats 8000000 in
theorem drawOffersTo_c (w : World) (a0 : Option Addr) (len cap : Nat) (hb : Bytes w a0 len w.heap.size) (hl : len ≤ 1048576) :
    Calls Tryz.prog 19 #[.slice a0 len cap] w fun e w' => ∃ p x i, e = .returned (.tuple #[.agg (WP.v p x), .int .i64 i]) ∧ OwW w' w.heap.size p x ∧ DW x ∧ Below w.heap.size w w' := by
  obtain ⟨W1, HW1⟩ : ∃ W1, Hid (W1 = w.alloc (.cells zW 32)) := ⟨_, rfl⟩
  have A0 : Below w.heap.size w W1 := by rw [HW1.out]; exact (Below.refl _ _).alloc (Nat.le_refl _) _
  have R0 : Blk W1 w.heap.size zW 32 := by rw [HW1.out]; exact Blk.new w zW 32
  have cD := drawAlliesOf_c W1 a0 len cap (hb.later A0) hl
  have hs1 := A0.size
  clear hb hl
  go_enter Tryz.func19, Tryz.ntmps19
  go_upto_region 1 with fail
  rw [← HW1.out]
  go_wp2_with fail
  refine cD.mono ?_
  rintro e w2 ⟨p, x, i, rfl, O2, dw, B2⟩
  have R2 := R0.below B2
  obtain ⟨F1, F2, F3⟩ := fill7 (v := w) (n0 := w.heap.size) R2 O2 (A0.trans (B2.mono hs1)) (Nat.le_refl _) hs1
  obtain ⟨t, s, us, fs, fa, se, oo⟩ := x
  obtain ⟨u, uc, f, fc, a, ac, q, qc, r, rc⟩ := p
  obtain ⟨y0, y1, y2, y3, y4, y5, y6, z0, z1, z2, z3, z4, z5, z6, rl⟩ := R2.z7
  go_wp2_with fail
  obtain ⟨c0, c1, c2, c3, c4, c5, c6, cl⟩ := F1.c7
  refine bodyPost_ret (v := .tuple #[.agg (wv t s u us.length uc f fs.length fc a fa.length ac q se.length qc r oo.length rc), .int .i64 i]) ?_ rfl ⟨⟨u, uc, f, fc, a, ac, q, qc, r, rc⟩, ⟨t, s, us, fs, fa, se, oo⟩, i, rfl, F2, dw, F3⟩
  simp [results, Tryz.results19, go_sem, c0, c1, c2, c3, c4, c5, c6]
  done
end Go.Proofs.YtmfdggaijbcijaaGreat
end

/- SameBI -/
/- The contract of SameBoards at two boards that have the same, whose lists may be nil. Condition: the lists are short. -/
section
namespace Go.Proofs.YtmfdggaijbcijaaGreat
open Go.ChangeShapes Go.WideShapes Go.ChangeAt Go.RowKit
open Bd
set_option linter.unusedVariables false

theorem ArgU.drewN' {w : World} {a : Option Addr} {l : List K10} (h : ArgU w a l) (n : Nat) : ArgU (w.drewN n) a l := h.later (below_drewN _ _)
theorem ArgF.drewN' {w : World} {a : Option Addr} {l : List K3} (h : ArgF w a l) (n : Nat) : ArgF (w.drewN n) a l := h.later (below_drewN _ _)
set_option maxHeartbeats 2000000 in
theorem eqU_same (w : World) (a1 a2 : Option Addr) (m c1 c2 : Nat) (l : List K10) (hl : l.length = m) (hm : m ≤ 1000) (h1 : ArgU w a1 l) (h2 : ArgU w a2 l) :
    Calls Tryz.prog 94 #[.slice a1 m c1, .slice a2 m c2] w fun e w' => e = .returned (.bool true) ∧ ∃ nq, w' = w.drewN nq := by
  have H1 : Hid (ArgU w a1 l) := h1
  have H2 : Hid (ArgU w a2 l) := h2
  have Hl : Hid (l.length = m) := hl
  clear h1 h2 hl
  go_enter Tryz.func94, Tryz.ntmps94
  go_wp2
  go_loopw [13] (fun i wr => ∃ k : Nat, k ≤ m ∧ i = .int .i64 k ∧ ∃ nq, wr = w.drewN nq) (fun i _ => m - (intOf i).toNat)
  case atStart => exact ⟨0, Nat.zero_le _, rfl, 0, rfl⟩
  case round =>
    obtain ⟨k, hk, rfl, nq0, rfl⟩ := hrel
    by_cases hlt : k < m
    · have hlt' : (k : Int) < (m : Int) := by omega
      obtain ⟨x, hx⟩ : ∃ x, l[k]? = some x := ⟨_, List.getElem?_eq_getElem (by have := Hl.out; omega)⟩
      obtain ⟨b, off, rfl, hb, hat⟩ := H1.out.at hx
      obtain ⟨b', off', rfl, hb', hat'⟩ := H2.out.at hx
      obtain ⟨a0, a1, a2, a3, a4, a5, a6, a7, a8, a9⟩ := hat.all hx
      obtain ⟨b0, b1, b2, b3, b4, b5, b6, b7, b8, b9⟩ := hat'.all hx
      have hne := neqU x x
      rw [K10.b_self] at hne
      clear hx hat hat'
      go_wp2
      go_quiet (fail)
      go_wp2
      go_roundw
      case rel => first | exact ⟨k + 1, by omega, by go_num, _, rfl⟩ | exact ⟨k + 1, by omega, by go_num, _, drewN_trans _ _ _⟩
      case measure => simp [intOf]; omega
    · obtain rfl : k = m := by omega
      go_wp2
      go_ret
      exact ⟨rfl, nq0, rfl⟩
set_option maxHeartbeats 2000000 in
theorem eqF_same (w : World) (a1 a2 : Option Addr) (m c1 c2 : Nat) (l : List K3) (hl : l.length = m) (hm : m ≤ 1000) (h1 : ArgF w a1 l) (h2 : ArgF w a2 l) :
    Calls Tryz.prog 95 #[.slice a1 m c1, .slice a2 m c2] w fun e w' => e = .returned (.bool true) ∧ ∃ nq, w' = w.drewN nq := by
  have H1 : Hid (ArgF w a1 l) := h1
  have H2 : Hid (ArgF w a2 l) := h2
  have Hl : Hid (l.length = m) := hl
  clear h1 h2 hl
  go_enter Tryz.func95, Tryz.ntmps95
  go_wp2
  go_loopw [13] (fun i wr => ∃ k : Nat, k ≤ m ∧ i = .int .i64 k ∧ ∃ nq, wr = w.drewN nq) (fun i _ => m - (intOf i).toNat)
  case atStart => exact ⟨0, Nat.zero_le _, rfl, 0, rfl⟩
  case round =>
    obtain ⟨k, hk, rfl, nq0, rfl⟩ := hrel
    by_cases hlt : k < m
    · have hlt' : (k : Int) < (m : Int) := by omega
      obtain ⟨x, hx⟩ : ∃ x, l[k]? = some x := ⟨_, List.getElem?_eq_getElem (by have := Hl.out; omega)⟩
      obtain ⟨b, off, rfl, hb, hat⟩ := H1.out.at hx
      obtain ⟨b', off', rfl, hb', hat'⟩ := H2.out.at hx
      obtain ⟨a0, a1, a2⟩ := hat.all hx
      obtain ⟨b0, b1, b2⟩ := hat'.all hx
      have hne := neqF x x
      rw [K3.b_self] at hne
      clear hx hat hat'
      go_wp2
      go_quiet (fail)
      go_wp2
      go_roundw
      case rel => first | exact ⟨k + 1, by omega, by go_num, _, rfl⟩ | exact ⟨k + 1, by omega, by go_num, _, drewN_trans _ _ _⟩
      case measure => simp [intOf]; omega
    · obtain rfl : k = m := by omega
      go_wp2
      go_ret
      exact ⟨rfl, nq0, rfl⟩
set_option maxHeartbeats 4000000 in
theorem sameB_in (w : World) (a1 a1' a2 a2' : Option Addr) (m m' c1 c1' c2 c2' : Nat) (us : List K10) (fs : List K3) (hl : us.length = m) (hl' : fs.length = m') (hm : m ≤ 1000) (hm' : m' ≤ 1000) (u1 : ArgU w a1 us) (f1 : ArgF w a1' fs) (u2 : ArgU w a2 us) (f2 : ArgF w a2' fs) :
    Calls Tryz.prog 57 #[.agg (brdV a1 m c1 a1' m' c1'), .agg (brdV a2 m c2 a2' m' c2')] w fun e w' => e = .returned (.bool true) ∧ Below w.heap.size w w' := by
  have B1 : Below w.heap.size w (w.alloc (.cells (brdV a1 m c1 a1' m' c1') 27)) := (Below.refl _ _).alloc (Nat.le_refl _) _
  obtain ⟨W2, HW2⟩ : ∃ W2, Hid (W2 = (w.alloc (.cells (brdV a1 m c1 a1' m' c1') 27)).alloc (.cells (brdV a2 m c2 a2' m' c2') 27)) := ⟨_, rfl⟩
  have B2 : Below w.heap.size w W2 := by rw [HW2.out]; exact B1.alloc (by rw [size_new]; omega) _
  have r0 : W2.rowIs w.heap.size 27 2 (fun i => if i = 0 then .slice a1 m c1 else .slice a1' m' c1') := by
    rw [HW2.out]
    have r := rowTwo w (.slice a1 m c1) (.slice a1' m' c1') 27
    exact r.of_block (((Below.refl _ _).alloc (Nat.le_refl _) _).block _ r.lt)
  have r1 : W2.rowIs (w.heap.size + 1) 27 2 (fun i => if i = 0 then .slice a2 m c2 else .slice a2' m' c2') := by
    rw [HW2.out]
    have r := rowTwo (w.alloc (.cells (brdV a1 m c1 a1' m' c1') 27)) (.slice a2 m c2) (.slice a2' m' c2') 27
    rw [size_new] at r
    exact r
  have cU := eqU_same W2 a1 a2 m c1 c2 us hl hm (u1.later B2) (u2.later B2)
  have cF := fun nq => eqF_same (W2.drewN nq) a1' a2' m' c1' c2' fs hl' hm' ((f1.later B2).drewN' nq) ((f2.later B2).drewN' nq)
  obtain ⟨p0, p1, pl⟩ := row_brd r0
  obtain ⟨q0, q1, ql⟩ := row_brd r1
  clear u1 f1 u2 f2 B1
  go_enter Tryz.func57, Tryz.ntmps57
  go_upto_region 1 with fail
  rw [← HW2.out]
  go_wp2_with fail
  refine cU.mono ?_
  rintro e w1 ⟨rfl, nq, rfl⟩
  go_wp2_with fail
  refine (cF nq).mono ?_
  rintro e w1 ⟨rfl, nq2, rfl⟩
  go_wp2
  go_ret
  exact ⟨rfl, B2.trans ((below_drewN _ (nq + nq2)).mono B2.size)⟩
end Go.Proofs.YtmfdggaijbcijaaGreat
end
