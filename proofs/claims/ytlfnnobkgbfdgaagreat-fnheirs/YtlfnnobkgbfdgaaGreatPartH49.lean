/- Texts of mine put together (a claim holds at most 60 files): LeaveSpec6. -/
import Derived.Test.YtlfnnobkgbfdgaaGreatPartH48

/- LeaveSpec6 -/
/- The contract of LeaveSide of the model. Condition: the world's lists lie in memory as they were laid there. -/
section
namespace Go.Proofs.YtlfnnobkgbfdgaaGreat
open Go.ChangeShapes Go.WideShapes Go.ChangeAt Go.RowKit
open Bd
set_option linter.unusedVariables false

theorem l8Side_c (gW : Nat) (p : WP) (x : KW) (w0 : wf hasS x = 0) (w : World) (hW : Blk w gW (p.v x) 32) (hI : InW w p x) (i : Int) (ib : inb i 0 3 = true) :
    Calls Tryz.prog 26 #[.pointer (some ⟨gW, 0, none⟩), .int .i64 i] w fun e w' => ∃ q, e = .returned (.agg (r8 (leaC hasS x i) q (leaX hasS x i))) ∧ OwW w' w.heap.size q (leaX hasS x i) ∧ Below w.heap.size w w' := by
  have G := (gdW_iff hasS x).1 w0
  obtain ⟨i0, i3⟩ := inb_i ib
  have eC := leaC_l8 hasS x i w0 ib
  by_cases e : l8C x i = 0
  · have eX : leaX hasS x i = ⟨x.t, leaS hasS x i, shU i (heirs hasS x i) 0 x.us, x.fs, leaF hasS x i, seF' i x.se, ooF' i x.oo⟩ := by unfold leaX; rw [eC, e]; rfl
    have hgn : goneA x.fa i = false := by
      cases hg : goneA x.fa i
      · rfl
      · unfold l8C at e; rw [hg] at e; simp at e
    have hfull : x.s + purA x.fa i ≤ 100000000 := by
      unfold l8C at e
      rw [hgn] at e
      by_cases hh : 100000000 < x.s + purA x.fa i
      · simp [hh] at e
      · omega
    rw [eX, eC, e]
    exact l8Side_ok gW p x G w hW hI i i0 i3 hgn hfull
  · have eX : leaX hasS x i = kz := by
      unfold leaX
      rw [eC, if_neg (by simpa using e)]
    refine (l8Side_no hasS gW p x G w hW hI i i0 i3 e).mono ?_
    rintro e' w' ⟨rfl, hb⟩
    rw [eX, eC]
    exact ⟨wpz, rfl, OwW.z _ _, hb⟩
set_option maxRecDepth 20000 in
set_option maxHeartbeats 16000000 in
theorem specLeaveSide (p : WP) (x : KW) (w : World) (h : InW w p x) (i : Int) :
    Calls Tryz.prog 10 #[.agg (p.v x), .int .i64 i] w fun e w' => ∃ q, e = .returned (.agg (r8 (leaC hasS x i) q (leaX hasS x i))) ∧ OwW w' w.heap.size q (leaX hasS x i) ∧ Below w.heap.size w w' := by
  obtain ⟨t, s, us, fs, fa, se, oo⟩ := x
  obtain ⟨u, uc, f, fc, a, ac, q, qc, r, rc⟩ := p
  obtain ⟨W, HW⟩ : ∃ W, Hid (W = (w.alloc (.cells (wv t s u us.length uc f fs.length fc a fa.length ac q se.length qc r oo.length rc) 32)).alloc (.cells z8 36)) := ⟨_, rfl⟩
  have B1 : Below w.heap.size w W := by rw [HW.out]; exact ((Below.refl _ _).alloc (Nat.le_refl _) _).alloc (by rw [size_new]; omega) _
  have P : Bk W w.heap.size (wv t s u us.length uc f fs.length fc a fa.length ac q se.length qc r oo.length rc) 32 := by rw [HW.out]; exact (Bk.new w (wv t s u us.length uc f fs.length fc a fa.length ac q se.length qc r oo.length rc) 32).alloc _
  have R : Blk W (w.heap.size + 1) z8 36 := by rw [HW.out]; have h := Blk.new (w.alloc (.cells (wv t s u us.length uc f fs.length fc a fa.length ac q se.length qc r oo.length rc) 32)) z8 36; rw [size_new] at h; exact h
  have HN : Hid (InW W ⟨u, uc, f, fc, a, ac, q, qc, r, rc⟩ ⟨t, s, us, fs, fa, se, oo⟩) := h.later B1
  have HR : Hid (Blk W (w.heap.size + 1) z8 36) := R
  have hB := B1.size
  have cF := fun W' (h : Below W.heap.size W W') => l6Fault_c w.heap.size t s u us.length uc f fs.length fc a fa.length ac q se.length qc r oo.length rc us fs fa se oo rfl rfl rfl rfl rfl HN.out.o1 HN.out.o2 W' ⟨(P.below h).cell rfl, (P.below h).cell rfl, (P.below h).cell rfl, (P.below h).cell rfl, (P.below h).cell rfl, (P.below h).cell rfl, (P.below h).cell rfl, (P.below h).lt⟩ (HN.out.later h).arg.u (HN.out.later h).arg.f (HN.out.later h).arg.a (HN.out.later h).arg.s (HN.out.later h).arg.o
  have cL := fun (e : wf hasS ⟨t, s, us, fs, fa, se, oo⟩ = 0) (ib : inb i 0 3 = true) W' (h : Below W.heap.size W W') => l8Side_c w.heap.size ⟨u, uc, f, fc, a, ac, q, qc, r, rc⟩ ⟨t, s, us, fs, fa, se, oo⟩ e W' (show Blk W' w.heap.size _ _ from Blk.below (show Blk W w.heap.size (wv t s u us.length uc f fs.length fc a fa.length ac q se.length qc r oo.length rc) 32 from P) h) (HN.out.later h) i ib
  have HC : Hid (leaC hasS ⟨t, s, us, fs, fa, se, oo⟩ i = if (wf hasS ⟨t, s, us, fs, fa, se, oo⟩ == 0) = false then wf hasS ⟨t, s, us, fs, fa, se, oo⟩ else if inb i 0 3 = false then 3 else leaC hasS ⟨t, s, us, fs, fa, se, oo⟩ i) := by
    show _ = _
    unfold leaC
    split
    · rfl
    · split
      · rfl
      · rfl
  have HX : Hid (leaC hasS ⟨t, s, us, fs, fa, se, oo⟩ i ≠ 0 → leaX hasS ⟨t, s, us, fs, fa, se, oo⟩ i = kz) := fun e => by unfold leaX; rw [if_neg (by simpa using e)]
  show Calls Tryz.prog 10 #[.agg (wv t s u us.length uc f fs.length fc a fa.length ac q se.length qc r oo.length rc), .int .i64 i] w _
  generalize leaX hasS ⟨t, s, us, fs, fa, se, oo⟩ i = X at HX cL ⊢
  generalize leaC hasS ⟨t, s, us, fs, fa, se, oo⟩ i = C at HC HX cL ⊢
  generalize wf hasS ⟨t, s, us, fs, fa, se, oo⟩ = F at cF cL HC
  obtain ⟨mu, Hmu⟩ : ∃ m, Hid (us.length = m) := ⟨_, rfl⟩
  obtain ⟨mf, Hmf⟩ : ∃ m, Hid (fs.length = m) := ⟨_, rfl⟩
  obtain ⟨ma, Hma⟩ : ∃ m, Hid (fa.length = m) := ⟨_, rfl⟩
  obtain ⟨ms, Hms⟩ : ∃ m, Hid (se.length = m) := ⟨_, rfl⟩
  obtain ⟨mo, Hmo⟩ : ∃ m, Hid (oo.length = m) := ⟨_, rfl⟩
  rw [Hmu.out, Hmf.out, Hma.out, Hms.out, Hmo.out] at HW ⊢
  have Bc : Below W.heap.size W W := Below.refl _ _
  have qS := fun w => l6Side_s i w
  clear h R P
  cases e2 : F == 0
  · have n7 : (F != 0) = true := by simp only [bne, e2]; rfl
    have e3 : C = F := by rw [HC.out, e2]; rfl
    have HR1 : Hid (C = F ∧ X = kz) := ⟨e3, HX.out (by rw [e3]; simpa using e2)⟩
    clear HC cL e2 HX e3 qS
    go_enter Tryz.func10, Tryz.ntmps10
    go_upto_region 1 with fail
    rw [← HW.out]
    go_wp2_with fail
    refine (cF _ Bc).mono ?_
    rintro e wn ⟨rfl, kn⟩
    have Bc := Bc.trans (kn.mono Bc.size)
    go_wp2_with fail
    refine (l7Bad_c F _).mono ?_
    rintro e wz ⟨rfl, kz'⟩
    have Bc := Bc.trans (kz'.mono Bc.size)
    have R1 := HR.out.below Bc
    obtain ⟨r0, r1, r2, r3, r4, r5, r6, r7, y0, y1, y2, y3, y4, y5, y6, y7, rl⟩ := R1.z8
    have Fz : Blk _ (w.heap.size + 1) (r8 F wpz kz) 36 := set8_blk R1 (.int .i64 F) (.int .i64 0) (.int .i64 0) (.slice none 0 0) (.slice none 0 0) (.slice none 0 0) (.slice none 0 0) (.slice none 0 0)
    have BE := set8_below (B1.trans (Bc.mono hB)) (show w.heap.size ≤ w.heap.size + 1 by omega) (.int .i64 F) (.int .i64 0) (.int .i64 0) (.slice none 0 0) (.slice none 0 0) (.slice none 0 0) (.slice none 0 0) (.slice none 0 0)
    clear R1
    go_wp2_with fail
    rw [HR1.out.1, HR1.out.2]
    exact bodyPost_ret (v := .agg (r8 F wpz kz)) (result8 Tryz.results10 Fz _ rfl) rfl ⟨wpz, rfl, OwW.z _ _, BE⟩
  · obtain rfl : F = 0 := by simpa using e2
    replace HC : Hid (C = if inb i 0 3 = false then 3 else C) := by show _ = _; have := HC.out; simpa using this
    cases ib : inb i 0 3
    · rw [ib] at qS
      have e3 : C = 3 := by rw [HC.out, ib]; rfl
      have HR1 : Hid (C = 3 ∧ X = kz) := ⟨e3, HX.out (by rw [e3]; decide)⟩
      clear HC e2 cL HX e3 ib
      go_enter Tryz.func10, Tryz.ntmps10
      go_upto_region 1 with fail
      rw [← HW.out]
      go_wp2_with fail
      refine (cF _ Bc).mono ?_
      rintro e wn ⟨rfl, kn⟩
      have Bc := Bc.trans (kn.mono Bc.size)
      go_wp2_with (go_at_call 25; refine (qS _).mono ?_; rintro e w1 ⟨rfl, hw1⟩; obtain rfl := hw1.symm)
      refine (l7Bad_c 3 _).mono ?_
      rintro e wz ⟨rfl, kz'⟩
      have Bc := Bc.trans (kz'.mono Bc.size)
      have R1 := HR.out.below Bc
      obtain ⟨r0, r1, r2, r3, r4, r5, r6, r7, y0, y1, y2, y3, y4, y5, y6, y7, rl⟩ := R1.z8
      have Fz : Blk _ (w.heap.size + 1) (r8 3 wpz kz) 36 := set8_blk R1 (.int .i64 3) (.int .i64 0) (.int .i64 0) (.slice none 0 0) (.slice none 0 0) (.slice none 0 0) (.slice none 0 0) (.slice none 0 0)
      have BE := set8_below (B1.trans (Bc.mono hB)) (show w.heap.size ≤ w.heap.size + 1 by omega) (.int .i64 3) (.int .i64 0) (.int .i64 0) (.slice none 0 0) (.slice none 0 0) (.slice none 0 0) (.slice none 0 0) (.slice none 0 0)
      clear R1
      go_wp2_with fail
      rw [HR1.out.1, HR1.out.2]
      exact bodyPost_ret (v := .agg (r8 3 wpz kz)) (result8 Tryz.results10 Fz _ rfl) rfl ⟨wpz, rfl, OwW.z _ _, BE⟩
    · have cL2 := cL rfl ib
      rw [ib] at qS
      clear HC e2 cL HX ib
      obtain ⟨t9, s9, us9, fs9, fa9, se9, oo9⟩ := X
      go_enter Tryz.func10, Tryz.ntmps10
      go_upto_region 1 with fail
      rw [← HW.out]
      go_wp2_with fail
      refine (cF _ Bc).mono ?_
      rintro e wn ⟨rfl, kn⟩
      have Bc := Bc.trans (kn.mono Bc.size)
      go_wp2_with (go_at_call 25; refine (qS _).mono ?_; rintro e w1 ⟨rfl, hw1⟩; obtain rfl := hw1.symm)
      refine (cL2 _ Bc).mono ?_
      rintro e w8 ⟨q9, rfl, O8, k8⟩
      have hz8 := Bc.size
      have Bc := Bc.trans (k8.mono Bc.size)
      obtain ⟨pu9, uc9, pf9, fc9, pa9, ac9, ps9, sc9, po9, oc9⟩ := q9
      have R1 := HR.out.below Bc
      obtain ⟨r0, r1, r2, r3, r4, r5, r6, r7, y0, y1, y2, y3, y4, y5, y6, y7, rl⟩ := R1.z8
      have Fz := set8_blk R1 (.int .i64 C) (.int .i64 t9) (.int .i64 s9) (.slice pu9 us9.length uc9) (.slice pf9 fs9.length fc9) (.slice pa9 fa9.length ac9) (.slice ps9 se9.length sc9) (.slice po9 oo9.length oc9)
      have Fo := (O8.of_block R1 (by decide) (by decide) (by decide) (by decide) (by decide) (set8_other (W := w8) (g := w.heap.size + 1) (.int .i64 C) (.int .i64 t9) (.int .i64 s9) (.slice pu9 us9.length uc9) (.slice pf9 fs9.length fc9) (.slice pa9 fa9.length ac9) (.slice ps9 se9.length sc9) (.slice po9 oo9.length oc9))).mono (show w.heap.size ≤ _ by first | omega | (have := Bc.size; omega))
      have BE := set8_below (B1.trans (Bc.mono hB)) (show w.heap.size ≤ w.heap.size + 1 by omega) (.int .i64 C) (.int .i64 t9) (.int .i64 s9) (.slice pu9 us9.length uc9) (.slice pf9 fs9.length fc9) (.slice pa9 fa9.length ac9) (.slice ps9 se9.length sc9) (.slice po9 oo9.length oc9)
      clear R1 O8
      go_wp2_with fail
      exact bodyPost_ret (v := .agg (r8 C ⟨pu9, uc9, pf9, fc9, pa9, ac9, ps9, sc9, po9, oc9⟩ ⟨t9, s9, us9, fs9, fa9, se9, oo9⟩)) (result8 Tryz.results10 Fz _ rfl) rfl ⟨_, rfl, Fo, BE⟩
end Go.Proofs.YtlfnnobkgbfdgaaGreat
end
