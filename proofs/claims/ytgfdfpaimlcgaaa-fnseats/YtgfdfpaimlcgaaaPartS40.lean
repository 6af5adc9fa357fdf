/- Texts of mine put together (a claim holds at most 60 files): TakeS2. -/
import Derived.Test.YtgfdfpaimlcgaaaPartS37
import Derived.Test.YtgfdfpaimlcgaaaPartS39

/- TakeS2 -/
/- The contract of TakeSeat, the model's, where it tells a code. Condition: the world's lists lie in memory as they were laid there. -/
section
namespace Go.Proofs.Ytgfdfpaimlcgaaa
open Go.ChangeShapes Go.WideShapes Go.ChangeAt Go.RowKit
open Bd
set_option linter.unusedVariables false

set_option maxRecDepth 20000 in
set_option maxHeartbeats 32000000 in
theorem specTakeSeat (p : WP) (x : KW) (w : World) (h : InW w p x) (ci fj mk : Int) (hne : tsC hasS x ci fj mk ≠ 0) :
    Calls Try.prog 17 #[.agg (p.v x), .int .i64 ci, .int .i64 fj, .int .i64 mk] w fun e w' => e = .returned (.agg (r8 (tsC hasS x ci fj mk) wpz kz)) ∧ Below w.heap.size w w' := by
  obtain ⟨t, s, us, fs, fa, se, oo⟩ := x
  obtain ⟨u, uc, f, fc, a, ac, q, qc, r, rc⟩ := p
  obtain ⟨W, HW⟩ : ∃ W, Hid (W = (w.alloc (.cells (wv t s u us.length uc f fs.length fc a fa.length ac q se.length qc r oo.length rc) 32)).alloc (.cells z8 36)) := ⟨_, rfl⟩
  have B1 : Below w.heap.size w W := by rw [HW.out]; exact ((Below.refl _ _).alloc (Nat.le_refl _) _).alloc (by rw [size_new]; omega) _
  have P : Bk W w.heap.size (wv t s u us.length uc f fs.length fc a fa.length ac q se.length qc r oo.length rc) 32 := by rw [HW.out]; exact (Bk.new w (wv t s u us.length uc f fs.length fc a fa.length ac q se.length qc r oo.length rc) 32).alloc _
  have R : Blk W (w.heap.size + 1) z8 36 := by rw [HW.out]; have h := Blk.new (w.alloc (.cells (wv t s u us.length uc f fs.length fc a fa.length ac q se.length qc r oo.length rc) 32)) z8 36; rw [size_new] at h; exact h
  have HN : Hid (InW W ⟨u, uc, f, fc, a, ac, q, qc, r, rc⟩ ⟨t, s, us, fs, fa, se, oo⟩) := h.later B1
  have HR : Hid (Blk W (w.heap.size + 1) z8 36) := R
  have hB := B1.size
  show Calls Try.prog 17 #[.agg (wv t s u us.length uc f fs.length fc a fa.length ac q se.length qc r oo.length rc), .int .i64 ci, .int .i64 fj, .int .i64 mk] w _
  have cF := fun W' (h : Below W.heap.size W W') => l6Fault_c w.heap.size t s u us.length uc f fs.length fc a fa.length ac q se.length qc r oo.length rc us fs fa se oo rfl rfl rfl rfl rfl HN.out.o1 HN.out.o2 W' ⟨(P.below h).cell rfl, (P.below h).cell rfl, (P.below h).cell rfl, (P.below h).cell rfl, (P.below h).cell rfl, (P.below h).cell rfl, (P.below h).cell rfl, (P.below h).lt⟩ (HN.out.later h).arg.u (HN.out.later h).arg.f (HN.out.later h).arg.a (HN.out.later h).arg.s (HN.out.later h).arg.o
  replace cF : ∀ W', Below W.heap.size W W' → Calls Try.prog 32 #[.pointer (some ⟨w.heap.size, 0, none⟩)] W' fun e w' => e = .returned (.int .i64 (wf hasS ⟨t, s, us, fs, fa, se, oo⟩)) ∧ Below W'.heap.size W' w' := cF
  have cN := fun (e : GdW hasS ⟨t, s, us, fs, fa, se, oo⟩) W' (h : Below W.heap.size W W') => l6Copy_c ⟨u, uc, f, fc, a, ac, q, qc, r, rc⟩ ⟨t, s, us, fs, fa, se, oo⟩ (Gd8 e.b).1 (Gd8 e.b).2 (Nat.le_of_eq e.a4) e.s6 e.o6 W' (HN.out.later h)
  replace cN : GdW hasS ⟨t, s, us, fs, fa, se, oo⟩ → ∀ W', Below W.heap.size W W' → Calls Try.prog 40 #[.agg (wv t s u us.length uc f fs.length fc a fa.length ac q se.length qc r oo.length rc)] W' fun e w' => ∃ p', e = .returned (.agg (WP.v p' ⟨t, s, us, fs, fa, se, oo⟩)) ∧ OwW w' W'.heap.size p' ⟨t, s, us, fs, fa, se, oo⟩ ∧ Below W'.heap.size W' w' := cN
  have HC : Hid (tsC hasS ⟨t, s, us, fs, fa, se, oo⟩ ci fj mk = if (wf hasS ⟨t, s, us, fs, fa, se, oo⟩ == 0) = false then wf hasS ⟨t, s, us, fs, fa, se, oo⟩ else if (inb ci 0 5 && (inb fj 0 3 && inb mk 0 2047)) = false then 3 else if goneA fa fj = true then 8 else if sTh se ci = false ∧ 6 ≤ se.length then 7 else 0) := rfl
  have HG : Hid (wf hasS ⟨t, s, us, fs, fa, se, oo⟩ = 0 → GdW hasS ⟨t, s, us, fs, fa, se, oo⟩) := (gdW_iff hasS _).1
  generalize tsC hasS ⟨t, s, us, fs, fa, se, oo⟩ ci fj mk = C at HC hne ⊢
  generalize wf hasS ⟨t, s, us, fs, fa, se, oo⟩ = F at cF HC HG
  obtain ⟨mu, Hmu⟩ : ∃ m, Hid (us.length = m) := ⟨_, rfl⟩
  obtain ⟨mf, Hmf⟩ : ∃ m, Hid (fs.length = m) := ⟨_, rfl⟩
  obtain ⟨ma, Hma⟩ : ∃ m, Hid (fa.length = m) := ⟨_, rfl⟩
  obtain ⟨ms, Hms⟩ : ∃ m, Hid (se.length = m) := ⟨_, rfl⟩
  obtain ⟨mo, Hmo⟩ : ∃ m, Hid (oo.length = m) := ⟨_, rfl⟩
  rw [Hmu.out, Hmf.out, Hma.out, Hms.out, Hmo.out] at P HW cN ⊢
  rw [Hms.out] at HC
  clear h R
  have keep : ∀ w', Below W.heap.size W w' → w'.cell? ⟨w.heap.size, 0, none⟩ = some (.int .i64 t) ∧ w'.cell? ⟨w.heap.size, 1, none⟩ = some (.int .i64 s) ∧ w'.cell? ⟨w.heap.size, 2, none⟩ = some (.slice u mu uc) ∧ w'.cell? ⟨w.heap.size, 3, none⟩ = some (.slice f mf fc) ∧ w'.cell? ⟨w.heap.size, 4, none⟩ = some (.slice a ma ac) ∧ w'.cell? ⟨w.heap.size, 5, none⟩ = some (.slice q ms qc) ∧ w'.cell? ⟨w.heap.size, 6, none⟩ = some (.slice r mo rc) ∧ w.heap.size < w'.heap.size := fun w' hb => by
    have q := P.below hb
    exact ⟨q.cell rfl, q.cell rfl, q.cell rfl, q.cell rfl, q.cell rfl, q.cell rfl, q.cell rfl, q.lt⟩
  have Bc : Below W.heap.size W W := Below.refl _ _
  have Hne : Hid (C ≠ 0) := hne
  clear hne
  obtain ⟨p0, p1, p2, p3, p4, p5, p6, pl⟩ := keep _ Bc
  cases e2 : F == 0
  · have n7 : (F != 0) = true := by simp only [bne, e2]; rfl
    have HR1 : Hid (C = F) := by show _ = _; rw [HC.out, if_pos e2]
    go_enter Try.func17, Try.ntmps17
    go_upto_region 1 with fail
    rw [← HW.out]
    go_wp2_with fail
    refine (cF _ Bc).mono ?_
    rintro e wn ⟨rfl, kn⟩
    have Bc := Bc.trans (kn.mono Bc.size)
    clear p0 p1 p2 p3 p4 p5 p6 pl
    clear HC HG cN e2
    have R1 := HR.out.below Bc
    obtain ⟨r0, r1, r2, r3, r4, r5, r6, r7, y0, y1, y2, y3, y4, y5, y6, y7, rl⟩ := R1.z8
    have Fz : Blk _ (w.heap.size + 1) (r8 F wpz kz) 36 := set8_blk R1 (.int .i64 F) (.int .i64 0) (.int .i64 0) (.slice none 0 0) (.slice none 0 0) (.slice none 0 0) (.slice none 0 0) (.slice none 0 0)
    have BE := set8_below (B1.trans (Bc.mono hB)) (show w.heap.size ≤ w.heap.size + 1 by omega) (.int .i64 F) (.int .i64 0) (.int .i64 0) (.slice none 0 0) (.slice none 0 0) (.slice none 0 0) (.slice none 0 0) (.slice none 0 0)
    clear R1
    go_wp2_with fail
    rw [HR1.out]
    exact bodyPost_ret (v := .agg (r8 F wpz kz)) (result8 Try.results17 Fz _ rfl) rfl ⟨rfl, BE⟩
  · obtain rfl : F = 0 := by simpa using e2
    have G := HG.out rfl
    have cN := cN G
    replace HC : Hid (C = if (inb ci 0 5 && (inb fj 0 3 && inb mk 0 2047)) = false then 3 else if goneA fa fj = true then 8 else if sTh se ci = false ∧ 6 ≤ ms then 7 else 0) := by show _ = _; rw [HC.out, if_neg (by simp)]
    have h4 : ma = 4 := by rw [← Hma.out]; exact G.a4
    subst h4
    have hm6 : ms ≤ 6 := by rw [← Hms.out]; exact G.s6
    have HS : Hid (ArgS W q se) := HN.out.arg.s
    have cP := fun W' (h : Below W.heap.size W W') => l6Seat_c w.heap.size q ms qc se ci Hms.out (by omega) W' (keep W' h).2.2.2.2.2.1 (keep W' h).2.2.2.2.2.2.2 (HS.out.later h)
    clear HG e2 G
    go_enter Try.func17, Try.ntmps17
    go_upto_region 1 with fail
    rw [← HW.out]
    go_wp2_with fail
    refine (cF _ Bc).mono ?_
    rintro e wn ⟨rfl, kn⟩
    have Bc := Bc.trans (kn.mono Bc.size)
    clear p0 p1 p2 p3 p4 p5 p6 pl
    obtain ⟨p0, p1, p2, p3, p4, p5, p6, pl⟩ := keep _ Bc
    cases i1 : inb ci 0 5
    · have HR1 : Hid (C = 3) := by show _ = _; rw [HC.out, i1]; rfl
      clear cN cP
      have R1 := HR.out.below Bc
      obtain ⟨r0, r1, r2, r3, r4, r5, r6, r7, y0, y1, y2, y3, y4, y5, y6, y7, rl⟩ := R1.z8
      have Fz : Blk _ (w.heap.size + 1) (r8 3 wpz kz) 36 := set8_blk R1 (.int .i64 3) (.int .i64 0) (.int .i64 0) (.slice none 0 0) (.slice none 0 0) (.slice none 0 0) (.slice none 0 0) (.slice none 0 0)
      have BE := set8_below (B1.trans (Bc.mono hB)) (show w.heap.size ≤ w.heap.size + 1 by omega) (.int .i64 3) (.int .i64 0) (.int .i64 0) (.slice none 0 0) (.slice none 0 0) (.slice none 0 0) (.slice none 0 0) (.slice none 0 0)
      clear R1
      go_wp2_with (first | (go_at_call 37; refine (l1In_c _ _ _ _).mono ?_; rintro e w7 ⟨rfl, hw7⟩; obtain rfl := hw7.symm; first | rw [i1] | rw [i3]) | (go_at_call 39; refine (l6Side_s _ _).mono ?_; rintro e w7 ⟨rfl, hw7⟩; obtain rfl := hw7.symm; rw [i2]))
      rw [HR1.out]
      exact bodyPost_ret (v := .agg (r8 3 wpz kz)) (result8 Try.results17 Fz _ rfl) rfl ⟨rfl, BE⟩
    cases i2 : inb fj 0 3
    · have HR1 : Hid (C = 3) := by show _ = _; rw [HC.out, i1, i2]; rfl
      clear cN cP
      have R1 := HR.out.below Bc
      obtain ⟨r0, r1, r2, r3, r4, r5, r6, r7, y0, y1, y2, y3, y4, y5, y6, y7, rl⟩ := R1.z8
      have Fz : Blk _ (w.heap.size + 1) (r8 3 wpz kz) 36 := set8_blk R1 (.int .i64 3) (.int .i64 0) (.int .i64 0) (.slice none 0 0) (.slice none 0 0) (.slice none 0 0) (.slice none 0 0) (.slice none 0 0)
      have BE := set8_below (B1.trans (Bc.mono hB)) (show w.heap.size ≤ w.heap.size + 1 by omega) (.int .i64 3) (.int .i64 0) (.int .i64 0) (.slice none 0 0) (.slice none 0 0) (.slice none 0 0) (.slice none 0 0) (.slice none 0 0)
      clear R1
      go_wp2_with (first | (go_at_call 37; refine (l1In_c _ _ _ _).mono ?_; rintro e w7 ⟨rfl, hw7⟩; obtain rfl := hw7.symm; first | rw [i1] | rw [i3]) | (go_at_call 39; refine (l6Side_s _ _).mono ?_; rintro e w7 ⟨rfl, hw7⟩; obtain rfl := hw7.symm; rw [i2]))
      rw [HR1.out]
      exact bodyPost_ret (v := .agg (r8 3 wpz kz)) (result8 Try.results17 Fz _ rfl) rfl ⟨rfl, BE⟩
    cases i3 : inb mk 0 2047
    · have HR1 : Hid (C = 3) := by show _ = _; rw [HC.out, i1, i2, i3]; rfl
      clear cN cP
      have R1 := HR.out.below Bc
      obtain ⟨r0, r1, r2, r3, r4, r5, r6, r7, y0, y1, y2, y3, y4, y5, y6, y7, rl⟩ := R1.z8
      have Fz : Blk _ (w.heap.size + 1) (r8 3 wpz kz) 36 := set8_blk R1 (.int .i64 3) (.int .i64 0) (.int .i64 0) (.slice none 0 0) (.slice none 0 0) (.slice none 0 0) (.slice none 0 0) (.slice none 0 0)
      have BE := set8_below (B1.trans (Bc.mono hB)) (show w.heap.size ≤ w.heap.size + 1 by omega) (.int .i64 3) (.int .i64 0) (.int .i64 0) (.slice none 0 0) (.slice none 0 0) (.slice none 0 0) (.slice none 0 0) (.slice none 0 0)
      clear R1
      go_wp2_with (first | (go_at_call 37; refine (l1In_c _ _ _ _).mono ?_; rintro e w7 ⟨rfl, hw7⟩; obtain rfl := hw7.symm; first | rw [i1] | rw [i3]) | (go_at_call 39; refine (l6Side_s _ _).mono ?_; rintro e w7 ⟨rfl, hw7⟩; obtain rfl := hw7.symm; rw [i2]))
      rw [HR1.out]
      exact bodyPost_ret (v := .agg (r8 3 wpz kz)) (result8 Try.results17 Fz _ rfl) rfl ⟨rfl, BE⟩
    replace HC : Hid (C = if goneA fa fj = true then 8 else if sTh se ci = false ∧ 6 ≤ ms then 7 else 0) := by show _ = _; rw [HC.out, i1, i2, i3]; rfl
    obtain ⟨j0, j3⟩ := inb_i i2
    obtain ⟨y, hy, hyg, _⟩ := side_at Hma.out j0 j3
    have j4 : fj < 4 := by omega
    have Hy : Hid (fa[fj.toNat]? = some y) := hy
    have keepY : ∀ w', Below W.heap.size W w' → ∃ b o, a = some ⟨b, o, none⟩ ∧ A1 w' b (o + fj.toNat * 3) y := fun w' hb => by
      obtain ⟨b, o, hpa, hbl, hat⟩ := (HN.out.later hb).arg.a.atP Hy.out
      exact ⟨b, o, hpa, hat.one hbl Hy.out⟩
    rw [hyg] at HC
    clear hy hyg
    obtain ⟨b, o, rfl, x0, x1, x2, xl⟩ := keepY _ Bc
    cases eg : y.c1
    case true =>
      rw [eg] at HC x1
      have HR1 : Hid (C = 8) := by show _ = _; rw [HC.out]; rfl
      clear cN cP keepY
      have R1 := HR.out.below Bc
      obtain ⟨r0, r1, r2, r3, r4, r5, r6, r7, y0, y1, y2, y3, y4, y5, y6, y7, rl⟩ := R1.z8
      have Fz : Blk _ (w.heap.size + 1) (r8 8 wpz kz) 36 := set8_blk R1 (.int .i64 8) (.int .i64 0) (.int .i64 0) (.slice none 0 0) (.slice none 0 0) (.slice none 0 0) (.slice none 0 0) (.slice none 0 0)
      have BE := set8_below (B1.trans (Bc.mono hB)) (show w.heap.size ≤ w.heap.size + 1 by omega) (.int .i64 8) (.int .i64 0) (.int .i64 0) (.slice none 0 0) (.slice none 0 0) (.slice none 0 0) (.slice none 0 0) (.slice none 0 0)
      clear R1
      go_wp2_with (first | (go_at_call 37; refine (l1In_c _ _ _ _).mono ?_; rintro e w7 ⟨rfl, hw7⟩; obtain rfl := hw7.symm; first | rw [i1] | rw [i3]) | (go_at_call 39; refine (l6Side_s _ _).mono ?_; rintro e w7 ⟨rfl, hw7⟩; obtain rfl := hw7.symm; rw [i2]))
      rw [HR1.out]
      exact bodyPost_ret (v := .agg (r8 8 wpz kz)) (result8 Try.results17 Fz _ rfl) rfl ⟨rfl, BE⟩
    case false =>
      rw [eg] at HC x1
      replace HC : Hid (C = if sTh se ci = false ∧ 6 ≤ ms then 7 else 0) := by show _ = _; rw [HC.out]; rfl
      have hth : sTh se ci = false ∧ 6 ≤ ms := by
        by_cases hq : sTh se ci = false ∧ 6 ≤ ms
        · exact hq
        · exact absurd (by rw [HC.out, if_neg hq]) Hne.out
      have HR1 : Hid (C = 7) := by show _ = _; rw [HC.out, if_pos hth]
      have h66 : ms = 6 := by omega
      subst h66
      have Hth : Hid (sTh se ci = false) := hth.1
      clear hth
      go_wp2_with (first | (go_at_call 37; refine (l1In_c _ _ _ _).mono ?_; rintro e w7 ⟨rfl, hw7⟩; obtain rfl := hw7.symm; first | rw [i1] | rw [i3]) | (go_at_call 39; refine (l6Side_s _ _).mono ?_; rintro e w7 ⟨rfl, hw7⟩; obtain rfl := hw7.symm; rw [i2]))
      refine (cN _ Bc).mono ?_
      rintro e w4 ⟨p4', rfl, _, k4⟩
      have Bc := Bc.trans (k4.mono Bc.size)
      clear x0 x1 x2 xl keepY k4 cN
      clear p0 p1 p2 p3 p4 p5 p6 pl
      obtain ⟨pu', pcu, pf', pcf, pa', pca, ps', pcs, po', pco⟩ := p4'
      obtain ⟨W9, HW9⟩ : ∃ W9, Hid (W9 = w4.alloc (.cells (wv t s pu' us.length pcu pf' fs.length pcf pa' fa.length pca ps' se.length pcs po' oo.length pco) 32)) := ⟨_, rfl⟩
      have Bc := Bc.alloc Bc.size (.cells (wv t s pu' us.length pcu pf' fs.length pcf pa' fa.length pca ps' se.length pcs po' oo.length pco) 32)
      rw [← HW9.out] at Bc
      go_upto_region 9 with fail
      rw [← HW9.out]
      obtain ⟨p0, p1, p2, p3, p4, p5, p6, pl⟩ := keep _ Bc
      go_wp2_with fail
      refine (cP _ Bc).mono ?_
      rintro e w5 ⟨r9, rfl, ha, k5⟩
      obtain rfl : r9 = -1 := by
        rcases ha with ha | ha
        · rw [Hth.out] at ha; cases ha.1
        · exact ha.2
      have Bc := Bc.trans (k5.mono Bc.size)
      clear k5 cP ha
      clear p0 p1 p2 p3 p4 p5 p6 pl
      obtain ⟨p0, p1, p2, p3, p4, p5, p6, pl⟩ := keep _ Bc
      clear HC
      have R1 := HR.out.below Bc
      obtain ⟨r0, r1, r2, r3, r4, r5, r6, r7, y0, y1, y2, y3, y4, y5, y6, y7, rl⟩ := R1.z8
      have Fz : Blk _ (w.heap.size + 1) (r8 7 wpz kz) 36 := set8_blk R1 (.int .i64 7) (.int .i64 0) (.int .i64 0) (.slice none 0 0) (.slice none 0 0) (.slice none 0 0) (.slice none 0 0) (.slice none 0 0)
      have BE := set8_below (B1.trans (Bc.mono hB)) (show w.heap.size ≤ w.heap.size + 1 by omega) (.int .i64 7) (.int .i64 0) (.int .i64 0) (.slice none 0 0) (.slice none 0 0) (.slice none 0 0) (.slice none 0 0) (.slice none 0 0)
      clear R1
      go_wp2_with fail
      rw [HR1.out]
      exact bodyPost_ret (v := .agg (r8 7 wpz kz)) (result8 Try.results17 Fz _ rfl) rfl ⟨rfl, BE⟩
end Go.Proofs.Ytgfdfpaimlcgaaa
end
