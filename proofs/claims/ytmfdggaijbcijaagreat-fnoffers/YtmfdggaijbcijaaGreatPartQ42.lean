/- Texts of mine put together (a claim holds at most 60 files): BrkSpec. -/
import Derived.Test.YtmfdggaijbcijaaGreatPartQ35
import Derived.Test.YtmfdggaijbcijaaGreatPartQ41

/- BrkSpec -/
/- The contracts of l7Break and BreakPact of the model. Condition: the world's lists lie in memory as they were laid there. -/
section
namespace Go.Proofs.YtmfdggaijbcijaaGreat
open Go.ChangeShapes Go.WideShapes Go.ChangeAt Go.RowKit
open Bd
set_option linter.unusedVariables false

set_option maxRecDepth 20000 in
set_option maxHeartbeats 32000000 in
theorem l7Break_c (gW : Nat) (p : WP) (x : KW) (G : GdW hasS x) (w : World) (hW : Blk w gW (p.v x) 32) (hI : InW w p x) (i j : Int) :
    Calls Tryz.prog 48 #[.pointer (some ⟨gW, 0, none⟩), .int .i64 i, .int .i64 j] w fun e w' => ∃ q, e = .returned (.agg (r8 (brkC hasS x i j) q (brkX hasS x i j))) ∧ (brkC hasS x i j ≠ 0 → q = wpz) ∧ OwW w' w.heap.size q (brkX hasS x i j) ∧ Below w.heap.size w w' := by
  obtain ⟨t, s, us, fs, fa, se, oo⟩ := x
  obtain ⟨u, uc, f, fc, a, ac, q, qc, r, rc⟩ := p
  obtain ⟨W, HW⟩ : ∃ W, Hid (W = w.alloc (.cells z8 36)) := ⟨_, rfl⟩
  have B1 : Below w.heap.size w W := by rw [HW.out]; exact (Below.refl _ _).alloc (Nat.le_refl _) _
  have HR : Hid (Blk W w.heap.size z8 36) := by rw [HW.out]; exact Blk.new w z8 36
  have HN : Hid (InW W ⟨u, uc, f, fc, a, ac, q, qc, r, rc⟩ ⟨t, s, us, fs, fa, se, oo⟩) := hI.later B1
  have P : Blk W gW (wv t s u us.length uc f fs.length fc a fa.length ac q se.length qc r oo.length rc) 32 := hW.below B1
  have hB := B1.size
  have hWz : W.heap.size = w.heap.size + 1 := by rw [HW.out, size_new]
  have h4 : fa.length = 4 := G.a4
  have H4 : Hid (fa.length = 4) := h4
  obtain ⟨mu, Hmu⟩ : ∃ m, Hid (us.length = m) := ⟨_, rfl⟩
  obtain ⟨mf, Hmf⟩ : ∃ m, Hid (fs.length = m) := ⟨_, rfl⟩
  obtain ⟨ms, Hms⟩ : ∃ m, Hid (se.length = m) := ⟨_, rfl⟩
  obtain ⟨mo, Hmo⟩ : ∃ m, Hid (oo.length = m) := ⟨_, rfl⟩
  obtain ⟨ba, oa, rfl, hba, hat⟩ := HN.out.arg.a.four h4
  have keep : ∀ w', Below W.heap.size W w' → w'.cell? ⟨gW, 0, none⟩ = some (.int .i64 t) ∧ w'.cell? ⟨gW, 1, none⟩ = some (.int .i64 s) ∧ w'.cell? ⟨gW, 2, none⟩ = some (.slice u mu uc) ∧ w'.cell? ⟨gW, 3, none⟩ = some (.slice f mf fc) ∧ w'.cell? ⟨gW, 4, none⟩ = some (.slice (some ⟨ba, oa, none⟩) 4 ac) ∧ w'.cell? ⟨gW, 5, none⟩ = some (.slice q ms qc) ∧ w'.cell? ⟨gW, 6, none⟩ = some (.slice r mo rc) ∧ gW < w'.heap.size ∧ ba < w'.heap.size := fun w' h => by
    have c7 := (P.below h).c7
    rw [h4, Hmu.out, Hmf.out, Hms.out, Hmo.out] at c7
    obtain ⟨p0, p1, p2, p3, p4, p5, p6, pl⟩ := c7
    exact ⟨p0, p1, p2, p3, p4, p5, p6, pl, Nat.lt_of_lt_of_le hba h.size⟩
  have Bc : Below W.heap.size W W := Below.refl _ _
  have cS := fun W' (h : Below W.heap.size W W') => l7Sides_c gW t s u mu uc f mf fc (some ⟨ba, oa, none⟩) 4 ac q ms qc r mo rc fa h4 rfl W' ⟨(keep W' h).1, (keep W' h).2.1, (keep W' h).2.2.1, (keep W' h).2.2.2.1, (keep W' h).2.2.2.2.1, (keep W' h).2.2.2.2.2.1, (keep W' h).2.2.2.2.2.2.1, (keep W' h).2.2.2.2.2.2.2.1⟩ (HN.out.later h).arg.a i j
  have cB := fun (c : Int) w => l7Bad_c c w
  have w0 : wf hasS ⟨t, s, us, fs, fa, se, oo⟩ = 0 := (gdW_iff hasS _).2 G
  have HC : Hid (brkC hasS ⟨t, s, us, fs, fa, se, oo⟩ i j = if (sdF fa i j == 0) = false then sdF fa i j else if hasS (allyA fa i) j = false then 4 else 0) := by
    show _ = _
    unfold brkC prF
    rw [w0]
    rfl
  have HX : Hid (brkX hasS ⟨t, s, us, fs, fa, se, oo⟩ i j = if (brkC hasS ⟨t, s, us, fs, fa, se, oo⟩ i j == 0) = true then ⟨t, s, us, fs, two clB fa i j, se, oo⟩ else kz) := rfl
  have HG : Hid (GdW hasS ⟨t, s, us, fs, fa, se, oo⟩) := G
  generalize brkC hasS ⟨t, s, us, fs, fa, se, oo⟩ i j = C at HC HX ⊢
  generalize brkX hasS ⟨t, s, us, fs, fa, se, oo⟩ i j = X at HX ⊢
  have HSD : Hid (sdF fa i j = 0 → inb i 0 3 = true ∧ inb j 0 3 = true ∧ i ≠ j ∧ goneA fa i = false ∧ goneA fa j = false) := fun e => sdF_zero.1 e
  generalize sdF fa i j = F at cS HC HSD
  have HCC : Hid (C ≠ 0 → X = kz) := fun e => by rw [HX.out, if_neg (by simpa using e)]
  clear hI hW G w0 h4
  obtain ⟨p0, p1, p2, p3, p4, p5, p6, pl, pb⟩ := keep _ Bc
  cases e2 : F == 0
  · have n7 : (F != 0) = true := by simp only [bne, e2]; rfl
    have HR1 : Hid (C = F ∧ X = kz) := by
      have e : C = F := by rw [HC.out, e2]; rfl
      exact ⟨e, HCC.out (by rw [e]; simpa using e2)⟩
    have cB := cB F
    clear HC HX HSD e2
    go_enter Tryz.func48, Tryz.ntmps48
    go_upto_region 1 with fail
    rw [← HW.out]
    go_wp2_with fail
    refine (cS _ Bc).mono ?_
    rintro e wn ⟨rfl, hw1⟩
    obtain rfl := hw1.symm
    go_wp2_with fail
    refine (cB _).mono ?_
    rintro e wn ⟨rfl, kn⟩
    have Bc := Bc.trans (kn.mono Bc.size)
    clear p0 p1 p2 p3 p4 p5 p6 pl pb
    have R1 := HR.out.below Bc
    obtain ⟨r0, r1, r2, r3, r4, r5, r6, r7, y0, y1, y2, y3, y4, y5, y6, y7, rl⟩ := R1.z8
    have Fz : Blk _ w.heap.size (r8 F wpz kz) 36 := set8_blk R1 (.int .i64 F) (.int .i64 0) (.int .i64 0) (.slice none 0 0) (.slice none 0 0) (.slice none 0 0) (.slice none 0 0) (.slice none 0 0)
    have BE := set8_below (B1.trans (Bc.mono hB)) (Nat.le_refl w.heap.size) (.int .i64 F) (.int .i64 0) (.int .i64 0) (.slice none 0 0) (.slice none 0 0) (.slice none 0 0) (.slice none 0 0) (.slice none 0 0)
    clear R1
    go_wp2_with fail
    rw [HR1.out.1, HR1.out.2]
    exact bodyPost_ret (v := .agg (r8 F wpz kz)) (result8 Tryz.results48 Fz _ rfl) rfl ⟨wpz, rfl, fun _ => rfl, OwW.z _ _, BE⟩
  obtain rfl : F = 0 := by simpa using e2
  replace HC : Hid (C = if hasS (allyA fa i) j = false then 4 else 0) := HC
  obtain ⟨ia, ja, hij, gi, gj⟩ := HSD.out rfl
  obtain ⟨i0, i3⟩ := inb_i ia
  obtain ⟨j0, j3⟩ := inb_i ja
  have Hij : Hid (i ≠ j) := hij
  obtain ⟨y, hy, _, hya⟩ := side_at H4.out i0 i3
  obtain ⟨z, hz, _, hza⟩ := side_at H4.out j0 j3
  have Hy : Hid (fa[i.toNat]? = some y) := hy
  have Hz : Hid (fa[j.toNat]? = some z) := hz
  have Hya : Hid (allyA fa i = y.c2) := hya
  have Hza : Hid (allyA fa j = z.c2) := hza
  have ym : inb y.c2 0 15 = true := by rw [← hya]; exact (gd_fac HG.out i0 i3).m
  have zm : inb z.c2 0 15 = true := by rw [← hza]; exact (gd_fac HG.out j0 j3).m
  have keepY : ∀ w', Below W.heap.size W w' → A1 w' ba (oa + i.toNat * 3) y := fun w' h => (hat.later hba h).one (Nat.lt_of_lt_of_le hba h.size) Hy.out
  have i4 : i < 4 := by omega
  have j4 : j < 4 := by omega
  have u64j : IntKind.u64.wrap j = j := by simp [IntKind.wrap, IntKind.bits, IntKind.signed]; omega
  have u64i : IntKind.u64.wrap i = i := by simp [IntKind.wrap, IntKind.bits, IntKind.signed]; omega
  rw [hya] at HC
  clear HSD ia ja gi gj hy hz hya hza hij e2
  have qB := fun w => l6Has_c y.c2 j j0 (by omega) w
  have cN := fun W' (h : Below W.heap.size W W') => l6Copy_c ⟨u, uc, f, fc, some ⟨ba, oa, none⟩, ac, q, qc, r, rc⟩ ⟨t, s, us, fs, fa, se, oo⟩ (Gd8 HG.out.b).1 (Gd8 HG.out.b).2 (Nat.le_of_eq H4.out) HG.out.s6 HG.out.o6 W' (HN.out.later h)
  replace cN : ∀ W', Below W.heap.size W W' → Calls Tryz.prog 84 #[.agg (wv t s u mu uc f mf fc (some ⟨ba, oa, none⟩) 4 ac q ms qc r mo rc)] W' fun e w' => ∃ p', e = .returned (.agg (WP.v p' ⟨t, s, us, fs, fa, se, oo⟩)) ∧ OwW w' W'.heap.size p' ⟨t, s, us, fs, fa, se, oo⟩ ∧ Below W'.heap.size W' w' := fun W' h => by
    have := cN W' h
    rw [← H4.out, ← Hmu.out, ← Hmf.out, ← Hms.out, ← Hmo.out]; exact this
  cases eb : hasS y.c2 j
  · rw [eb] at qB HC
    have HR1 : Hid (C = 4 ∧ X = kz) := by
      have e : C = 4 := HC.out
      exact ⟨e, HCC.out (by rw [e]; decide)⟩
    have cB := cB 4
    obtain ⟨y0, y1, y2, yl⟩ := keepY _ Bc
    go_enter Tryz.func48, Tryz.ntmps48
    go_upto_region 1 with fail
    rw [← HW.out]
    go_wp2_with fail
    refine (cS _ Bc).mono ?_
    rintro e wn ⟨rfl, hw1⟩
    obtain rfl := hw1.symm
    go_wp2_with fail
    refine (qB _).mono ?_
    rintro e w1 ⟨rfl, hw1⟩
    obtain rfl := hw1.symm
    go_wp2_with fail
    refine (cB _).mono ?_
    rintro e wn ⟨rfl, kn⟩
    have Bc := Bc.trans (kn.mono Bc.size)
    clear y0 y1 y2 yl
    clear p0 p1 p2 p3 p4 p5 p6 pl pb
    have R1 := HR.out.below Bc
    obtain ⟨r0, r1, r2, r3, r4, r5, r6, r7, y0, y1, y2, y3, y4, y5, y6, y7, rl⟩ := R1.z8
    have Fz : Blk _ w.heap.size (r8 4 wpz kz) 36 := set8_blk R1 (.int .i64 4) (.int .i64 0) (.int .i64 0) (.slice none 0 0) (.slice none 0 0) (.slice none 0 0) (.slice none 0 0) (.slice none 0 0)
    have BE := set8_below (B1.trans (Bc.mono hB)) (Nat.le_refl w.heap.size) (.int .i64 4) (.int .i64 0) (.int .i64 0) (.slice none 0 0) (.slice none 0 0) (.slice none 0 0) (.slice none 0 0) (.slice none 0 0)
    clear R1
    go_wp2_with fail
    rw [HR1.out.1, HR1.out.2]
    exact bodyPost_ret (v := .agg (r8 4 wpz kz)) (result8 Tryz.results48 Fz _ rfl) rfl ⟨wpz, rfl, fun _ => rfl, OwW.z _ _, BE⟩
  · rw [eb] at qB HC
    have HR0 : Hid (C = 0) := HC.out
    have HR2' : Hid (X = ⟨t, s, us, fs, two clB fa i j, se, oo⟩) := by show _ = _; rw [HX.out, HR0.out]; rfl
    obtain ⟨y0, y1, y2, yl⟩ := keepY _ Bc
    go_enter Tryz.func48, Tryz.ntmps48
    go_upto_region 1 with fail
    rw [← HW.out]
    go_wp2_with fail
    refine (cS _ Bc).mono ?_
    rintro e wn ⟨rfl, hw1⟩
    obtain rfl := hw1.symm
    go_wp2_with fail
    refine (qB _).mono ?_
    rintro e w1 ⟨rfl, hw1⟩
    obtain rfl := hw1.symm
    clear y0 y1 y2 yl
    go_wp2_with fail
    refine (cN _ Bc).mono ?_
    rintro e w5 ⟨p5', rfl, O5, k5⟩
    obtain ⟨base, Hbase⟩ : ∃ v, Hid (v = W.heap.size) := ⟨_, rfl⟩
    have hB5 : W.heap.size ≤ base := by rw [Hbase.out]; exact Bc.size
    rw [← Hbase.out] at O5
    have k5b : base ≤ w5.heap.size := by rw [Hbase.out]; exact k5.size
    have Bc := Bc.trans (k5.mono Bc.size)
    obtain ⟨pu9, uc9, pf9, fc9, pa9, ac9, ps9, sc9, po9, oc9⟩ := p5'
    obtain ⟨gz, hgz, hgb, _⟩ := O5.a.blk0 (by dsimp only; rw [H4.out]; omega)
    dsimp only at hgz
    subst hgz
    obtain ⟨ga, hga⟩ : ∃ v, v = gz := ⟨_, rfl⟩
    subst hga
    obtain ⟨g, Hg⟩ : ∃ v, Hid (v = w5.heap.size) := ⟨_, rfl⟩
    obtain ⟨wq1, Hq1⟩ : ∃ v, Hid (v = w5.alloc (.cells (wv t s pu9 us.length uc9 pf9 fs.length fc9 (some ⟨ga, 0, none⟩) fa.length ac9 ps9 se.length sc9 po9 oo.length oc9) 32)) := ⟨_, rfl⟩
    have kA : Below w5.heap.size w5 wq1 := by rw [Hq1.out]; exact (Below.refl _ _).alloc (Nat.le_refl _) _
    have Hw1 : Hid (VS wq1 base g ⟨pu9, uc9, pf9, fc9, some ⟨ga, 0, none⟩, ac9, ps9, sc9, po9, oc9⟩ ⟨t, s, us, fs, fa, se, oo⟩) := ⟨by rw [Hq1.out, Hg.out]; exact Blk.new w5 _ _, O5.later kA, by rw [Hg.out]; exact k5b⟩
    have Bc := Bc.trans (kA.mono Bc.size)
    clear p0 p1 p2 p3 p4 p5 p6 pl pb O5 kA k5
    have Hl1 : Hid (fa.length = 4) := H4.out
    obtain ⟨FA1, HFA1⟩ : ∃ v, Hid (v = setC fa i (clB y.c2 j)) := ⟨_, rfl⟩
    obtain ⟨FA2, HFA2⟩ : ∃ v, Hid (v = setC FA1 j (clB z.c2 i)) := ⟨_, rfl⟩
    have Hl2 : Hid (FA1.length = 4) := by show _ = _; rw [HFA1.out, setC_len]; exact H4.out
    have Hz1 : Hid (FA1[j.toNat]? = some z) := by show _ = _; rw [HFA1.out]; exact setC_at i0 j0 Hij.out Hz.out
    go_upto_region 7 with fail
    try rw [← Hq1.out]
    try rw [← Hg.out]
    obtain ⟨SH_, hsh⟩ : ∃ v, IntKind.i64.wrap (2 ^ j.toNat) = v := ⟨_, rfl⟩
    obtain ⟨RV_, hrv⟩ : ∃ v, bits BinOp.andNot IntKind.i64 y.c2 SH_ = v := ⟨_, rfl⟩
    have HRV : Hid (RV_ = clB y.c2 j) := by show _ = _; rw [← hrv, ← hsh]; exact (bitI_all ym j0 j3).2
    obtain ⟨gb, hgb', _, gbl, hatb, _, frz⟩ := Hw1.out.o.a.blk0 (by dsimp only; rw [Hl1.out]; omega)
    injection hgb' with hgb'
    injection hgb' with hgb'
    subst hgb'
    have cx := (hatb.one gbl Hy.out).3
    rw [Nat.zero_add] at cx
    have fz := frz (i.toNat * 3 + 2)
    have g4 : wq1.cell? ⟨g, 4, none⟩ = some (.slice (some ⟨ga, 0, none⟩) 4 ac9) := by have h9 := Hw1.out.b.cell (i := 4) (v := .slice (some ⟨ga, 0, none⟩) fa.length ac9) rfl; rw [Hl1.out] at h9; exact h9
    have gl := Hw1.out.b.lt
    have Hst : Hid (VS ((wq1.drew).setCell ⟨ga, i.toNat * 3 + 2, none⟩ (.int .i64 RV_)) base g ⟨pu9, uc9, pf9, fc9, some ⟨ga, 0, none⟩, ac9, ps9, sc9, po9, oc9⟩ ⟨t, s, us, fs, FA1, se, oo⟩) := Hw1.out.drew.setA rfl (i.toNat * 3 + 2) (.int .i64 RV_) FA1 (by dsimp only; rw [Hl1.out]; omega) (by rw [setC_flat Hy.out, HRV.out, HFA1.out])
    have BcN : Below W.heap.size W ((wq1.drew).setCell ⟨ga, i.toNat * 3 + 2, none⟩ (.int .i64 RV_)) := bel_set Bc.drew ga _ (by omega) _
    clear hatb frz
    obtain ⟨VV, HVV⟩ : ∃ V : List Value, Hid (V = [.pointer (some ⟨g, 4, none⟩), .slice (some ⟨ga, 0, none⟩) 4 ac9, .int .i64 i, .pointer (some ⟨g, 4, none⟩), .slice (some ⟨ga, 0, none⟩) 4 ac9, .int .i64 i, .pointer (some ⟨ga, i.toNat * 3, none⟩), .pointer (some ⟨ga, i.toNat * 3 + 2, none⟩), .int .i64 y.c2, .int .i64 j, .int .u64 j, .int .i64 SH_, .int .i64 RV_, .pointer (some ⟨ga, i.toNat * 3, none⟩), .pointer (some ⟨ga, i.toNat * 3 + 2, none⟩)]) := ⟨_, rfl⟩
    refine wp_region_slots (by kernel_rfl) 33 (fun d xs W => (∃ x33 x34 x35 x36 x37 x38 x39 x40 x41 x42 x43 x44 x45 x46 x47 : Value, xs = [x33, x34, x35, x36, x37, x38, x39, x40, x41, x42, x43, x44, x45, x46, x47] ∧ SlotsM [0, 1, 2, 3, 4, 5, 6, 7, 8, 9, 10, 11, 12, 13, 14] VV d xs) ∧ ((d 15 = false → W = wq1.drew) ∧ (d 15 = true → W = (wq1.drew).setCell ⟨ga, i.toNat * 3 + 2, none⟩ (.int .i64 RV_)))) (by kernel_rfl) [_, _, _, _, _, _, _, _, _, _, _, _, _, _, _] rfl ?_ ?_ ?_
    · exact ⟨⟨_, _, _, _, _, _, _, _, _, _, _, _, _, _, _, rfl, SlotsM.start (by rw [HVV.out]; rfl)⟩, ⟨fun _ => rfl, fun h => by cases h⟩⟩
    · rintro d xs Wx i K hi hd hdep hcl ⟨⟨x33, x34, x35, x36, x37, x38, x39, x40, x41, x42, x43, x44, x45, x46, x47, rfl, J⟩, J2⟩ hK
      have hi' : i < 16 := hi
      have hdp : ∀ j, (depsOf _ i).contains j = true → d j = true := fun j hj => hdep j (by simpa using hj)
      clear hi hdep
      have h18 : i = 0 ∨ i = 1 ∨ i = 2 ∨ i = 3 ∨ i = 4 ∨ i = 5 ∨ i = 6 ∨ i = 7 ∨ i = 8 ∨ i = 9 ∨ i = 10 ∨ i = 11 ∨ i = 12 ∨ i = 13 ∨ i = 14 ∨ i = 15 := by omega
      rcases h18 with rfl | rfl | rfl | rfl | rfl | rfl | rfl | rfl | rfl | rfl | rfl | rfl | rfl | rfl | rfl | rfl
      · obtain rfl := J2.1 (hcl.no 16 hd (by kernel_rfl))
        refine wpOp_of rfl rfl ?_
        dsimp only [win, List.take_succ_cons, List.take_zero, List.drop_succ_cons, List.drop_zero, List.cons_append, List.nil_append, List.length_cons, List.length_nil, Nat.reduceAdd]
        go_simp
        exact hK [(.pointer (some ⟨g, 4, none⟩)), (x34), (x35), (x36), (x37), (x38), (x39), (x40), (x41), (x42), (x43), (x44), (x45), (x46), (x47)] _ ⟨⟨_, _, _, _, _, _, _, _, _, _, _, _, _, _, _, rfl, J.set (v := .pointer (some ⟨g, 4, none⟩)) 0 (i := 0) (by decide) rfl (by rw [HVV.out]; rfl)⟩, ⟨fun _ => rfl, fun h => by have := hcl.no 16 hd (i := 15) (by kernel_rfl); exact absurd h (by show ¬ (upd d 0 15) = true; simp [upd, this])⟩⟩
      · obtain rfl := J2.1 (hcl.no 16 hd (by kernel_rfl))
        obtain rfl : x33 = .pointer (some ⟨g, 4, none⟩) := J.get 0 (i := 0) rfl (hdp 0 (by kernel_rfl)) (by rw [HVV.out]; rfl) rfl
        refine wpOp_of rfl rfl ?_
        dsimp only [win, List.take_succ_cons, List.take_zero, List.drop_succ_cons, List.drop_zero, List.cons_append, List.nil_append, List.length_cons, List.length_nil, Nat.reduceAdd]
        go_simp
        exact hK [(.pointer (some ⟨g, 4, none⟩)), (.slice (some ⟨ga, 0, none⟩) 4 ac9), (x35), (x36), (x37), (x38), (x39), (x40), (x41), (x42), (x43), (x44), (x45), (x46), (x47)] _ ⟨⟨_, _, _, _, _, _, _, _, _, _, _, _, _, _, _, rfl, J.set (v := .slice (some ⟨ga, 0, none⟩) 4 ac9) 1 (i := 1) (by decide) rfl (by rw [HVV.out]; rfl)⟩, ⟨fun _ => rfl, fun h => by have := hcl.no 16 hd (i := 15) (by kernel_rfl); exact absurd h (by show ¬ (upd d 1 15) = true; simp [upd, this])⟩⟩
      · obtain rfl := J2.1 (hcl.no 16 hd (by kernel_rfl))
        refine wpOp_of rfl rfl ?_
        dsimp only [win, List.take_succ_cons, List.take_zero, List.drop_succ_cons, List.drop_zero, List.cons_append, List.nil_append, List.length_cons, List.length_nil, Nat.reduceAdd]
        go_simp
        exact hK [(x33), (x34), (.int .i64 i), (x36), (x37), (x38), (x39), (x40), (x41), (x42), (x43), (x44), (x45), (x46), (x47)] _ ⟨⟨_, _, _, _, _, _, _, _, _, _, _, _, _, _, _, rfl, J.set (v := .int .i64 i) 2 (i := 2) (by decide) rfl (by rw [HVV.out]; rfl)⟩, ⟨fun _ => rfl, fun h => by have := hcl.no 16 hd (i := 15) (by kernel_rfl); exact absurd h (by show ¬ (upd d 2 15) = true; simp [upd, this])⟩⟩
      · obtain rfl := J2.1 (hcl.no 16 hd (by kernel_rfl))
        refine wpOp_of rfl rfl ?_
        dsimp only [win, List.take_succ_cons, List.take_zero, List.drop_succ_cons, List.drop_zero, List.cons_append, List.nil_append, List.length_cons, List.length_nil, Nat.reduceAdd]
        go_simp
        exact hK [(x33), (x34), (x35), (.pointer (some ⟨g, 4, none⟩)), (x37), (x38), (x39), (x40), (x41), (x42), (x43), (x44), (x45), (x46), (x47)] _ ⟨⟨_, _, _, _, _, _, _, _, _, _, _, _, _, _, _, rfl, J.set (v := .pointer (some ⟨g, 4, none⟩)) 3 (i := 3) (by decide) rfl (by rw [HVV.out]; rfl)⟩, ⟨fun _ => rfl, fun h => by have := hcl.no 16 hd (i := 15) (by kernel_rfl); exact absurd h (by show ¬ (upd d 3 15) = true; simp [upd, this])⟩⟩
      · obtain rfl := J2.1 (hcl.no 16 hd (by kernel_rfl))
        obtain rfl : x36 = .pointer (some ⟨g, 4, none⟩) := J.get 3 (i := 3) rfl (hdp 3 (by kernel_rfl)) (by rw [HVV.out]; rfl) rfl
        refine wpOp_of rfl rfl ?_
        dsimp only [win, List.take_succ_cons, List.take_zero, List.drop_succ_cons, List.drop_zero, List.cons_append, List.nil_append, List.length_cons, List.length_nil, Nat.reduceAdd]
        go_simp
        exact hK [(x33), (x34), (x35), (.pointer (some ⟨g, 4, none⟩)), (.slice (some ⟨ga, 0, none⟩) 4 ac9), (x38), (x39), (x40), (x41), (x42), (x43), (x44), (x45), (x46), (x47)] _ ⟨⟨_, _, _, _, _, _, _, _, _, _, _, _, _, _, _, rfl, J.set (v := .slice (some ⟨ga, 0, none⟩) 4 ac9) 4 (i := 4) (by decide) rfl (by rw [HVV.out]; rfl)⟩, ⟨fun _ => rfl, fun h => by have := hcl.no 16 hd (i := 15) (by kernel_rfl); exact absurd h (by show ¬ (upd d 4 15) = true; simp [upd, this])⟩⟩
      · obtain rfl := J2.1 (hcl.no 16 hd (by kernel_rfl))
        refine wpOp_of rfl rfl ?_
        dsimp only [win, List.take_succ_cons, List.take_zero, List.drop_succ_cons, List.drop_zero, List.cons_append, List.nil_append, List.length_cons, List.length_nil, Nat.reduceAdd]
        go_simp
        exact hK [(x33), (x34), (x35), (x36), (x37), (.int .i64 i), (x39), (x40), (x41), (x42), (x43), (x44), (x45), (x46), (x47)] _ ⟨⟨_, _, _, _, _, _, _, _, _, _, _, _, _, _, _, rfl, J.set (v := .int .i64 i) 5 (i := 5) (by decide) rfl (by rw [HVV.out]; rfl)⟩, ⟨fun _ => rfl, fun h => by have := hcl.no 16 hd (i := 15) (by kernel_rfl); exact absurd h (by show ¬ (upd d 5 15) = true; simp [upd, this])⟩⟩
      · obtain rfl := J2.1 (hcl.no 16 hd (by kernel_rfl))
        obtain rfl : x37 = .slice (some ⟨ga, 0, none⟩) 4 ac9 := J.get 4 (i := 4) rfl (hdp 4 (by kernel_rfl)) (by rw [HVV.out]; rfl) rfl
        obtain rfl : x38 = .int .i64 i := J.get 5 (i := 5) rfl (hdp 5 (by kernel_rfl)) (by rw [HVV.out]; rfl) rfl
        refine wpOp_of rfl rfl ?_
        dsimp only [win, List.take_succ_cons, List.take_zero, List.drop_succ_cons, List.drop_zero, List.cons_append, List.nil_append, List.length_cons, List.length_nil, Nat.reduceAdd]
        go_simp
        exact hK [(x33), (x34), (x35), (x36), (.slice (some ⟨ga, 0, none⟩) 4 ac9), (.int .i64 i), (.pointer (some ⟨ga, i.toNat * 3, none⟩)), (x40), (x41), (x42), (x43), (x44), (x45), (x46), (x47)] _ ⟨⟨_, _, _, _, _, _, _, _, _, _, _, _, _, _, _, rfl, J.set (v := .pointer (some ⟨ga, i.toNat * 3, none⟩)) 6 (i := 6) (by decide) rfl (by rw [HVV.out]; rfl)⟩, ⟨fun _ => rfl, fun h => by have := hcl.no 16 hd (i := 15) (by kernel_rfl); exact absurd h (by show ¬ (upd d 6 15) = true; simp [upd, this])⟩⟩
      · obtain rfl := J2.1 (hcl.no 16 hd (by kernel_rfl))
        obtain rfl : x39 = .pointer (some ⟨ga, i.toNat * 3, none⟩) := J.get 6 (i := 6) rfl (hdp 6 (by kernel_rfl)) (by rw [HVV.out]; rfl) rfl
        refine wpOp_of rfl rfl ?_
        dsimp only [win, List.take_succ_cons, List.take_zero, List.drop_succ_cons, List.drop_zero, List.cons_append, List.nil_append, List.length_cons, List.length_nil, Nat.reduceAdd]
        go_simp
        exact hK [(x33), (x34), (x35), (x36), (x37), (x38), (.pointer (some ⟨ga, i.toNat * 3, none⟩)), (.pointer (some ⟨ga, i.toNat * 3 + 2, none⟩)), (x41), (x42), (x43), (x44), (x45), (x46), (x47)] _ ⟨⟨_, _, _, _, _, _, _, _, _, _, _, _, _, _, _, rfl, J.set (v := .pointer (some ⟨ga, i.toNat * 3 + 2, none⟩)) 7 (i := 7) (by decide) rfl (by rw [HVV.out]; rfl)⟩, ⟨fun _ => rfl, fun h => by have := hcl.no 16 hd (i := 15) (by kernel_rfl); exact absurd h (by show ¬ (upd d 7 15) = true; simp [upd, this])⟩⟩
      · obtain rfl := J2.1 (hcl.no 16 hd (by kernel_rfl))
        obtain rfl : x40 = .pointer (some ⟨ga, i.toNat * 3 + 2, none⟩) := J.get 7 (i := 7) rfl (hdp 7 (by kernel_rfl)) (by rw [HVV.out]; rfl) rfl
        refine wpOp_of rfl rfl ?_
        dsimp only [win, List.take_succ_cons, List.take_zero, List.drop_succ_cons, List.drop_zero, List.cons_append, List.nil_append, List.length_cons, List.length_nil, Nat.reduceAdd]
        go_simp
        exact hK [(x33), (x34), (x35), (x36), (x37), (x38), (x39), (.pointer (some ⟨ga, i.toNat * 3 + 2, none⟩)), (.int .i64 y.c2), (x42), (x43), (x44), (x45), (x46), (x47)] _ ⟨⟨_, _, _, _, _, _, _, _, _, _, _, _, _, _, _, rfl, J.set (v := .int .i64 y.c2) 8 (i := 8) (by decide) rfl (by rw [HVV.out]; rfl)⟩, ⟨fun _ => rfl, fun h => by have := hcl.no 16 hd (i := 15) (by kernel_rfl); exact absurd h (by show ¬ (upd d 8 15) = true; simp [upd, this])⟩⟩
      · obtain rfl := J2.1 (hcl.no 16 hd (by kernel_rfl))
        refine wpOp_of rfl rfl ?_
        dsimp only [win, List.take_succ_cons, List.take_zero, List.drop_succ_cons, List.drop_zero, List.cons_append, List.nil_append, List.length_cons, List.length_nil, Nat.reduceAdd]
        go_simp
        exact hK [(x33), (x34), (x35), (x36), (x37), (x38), (x39), (x40), (x41), (.int .i64 j), (x43), (x44), (x45), (x46), (x47)] _ ⟨⟨_, _, _, _, _, _, _, _, _, _, _, _, _, _, _, rfl, J.set (v := .int .i64 j) 9 (i := 9) (by decide) rfl (by rw [HVV.out]; rfl)⟩, ⟨fun _ => rfl, fun h => by have := hcl.no 16 hd (i := 15) (by kernel_rfl); exact absurd h (by show ¬ (upd d 9 15) = true; simp [upd, this])⟩⟩
      · obtain rfl := J2.1 (hcl.no 16 hd (by kernel_rfl))
        obtain rfl : x42 = .int .i64 j := J.get 9 (i := 9) rfl (hdp 9 (by kernel_rfl)) (by rw [HVV.out]; rfl) rfl
        refine wpOp_of rfl rfl ?_
        dsimp only [win, List.take_succ_cons, List.take_zero, List.drop_succ_cons, List.drop_zero, List.cons_append, List.nil_append, List.length_cons, List.length_nil, Nat.reduceAdd]
        go_simp
        exact hK [(x33), (x34), (x35), (x36), (x37), (x38), (x39), (x40), (x41), (.int .i64 j), (.int .u64 j), (x44), (x45), (x46), (x47)] _ ⟨⟨_, _, _, _, _, _, _, _, _, _, _, _, _, _, _, rfl, J.set (v := .int .u64 j) 10 (i := 10) (by decide) rfl (by rw [HVV.out]; rfl)⟩, ⟨fun _ => rfl, fun h => by have := hcl.no 16 hd (i := 15) (by kernel_rfl); exact absurd h (by show ¬ (upd d 10 15) = true; simp [upd, this])⟩⟩
      · obtain rfl := J2.1 (hcl.no 16 hd (by kernel_rfl))
        obtain rfl : x43 = .int .u64 j := J.get 10 (i := 10) rfl (hdp 10 (by kernel_rfl)) (by rw [HVV.out]; rfl) rfl
        refine wpOp_of rfl rfl ?_
        dsimp only [win, List.take_succ_cons, List.take_zero, List.drop_succ_cons, List.drop_zero, List.cons_append, List.nil_append, List.length_cons, List.length_nil, Nat.reduceAdd]
        go_simp
        exact hK [(x33), (x34), (x35), (x36), (x37), (x38), (x39), (x40), (x41), (x42), (.int .u64 j), (.int .i64 SH_), (x45), (x46), (x47)] _ ⟨⟨_, _, _, _, _, _, _, _, _, _, _, _, _, _, _, rfl, J.set (v := .int .i64 SH_) 11 (i := 11) (by decide) rfl (by rw [HVV.out]; rfl)⟩, ⟨fun _ => rfl, fun h => by have := hcl.no 16 hd (i := 15) (by kernel_rfl); exact absurd h (by show ¬ (upd d 11 15) = true; simp [upd, this])⟩⟩
      · obtain rfl := J2.1 (hcl.no 16 hd (by kernel_rfl))
        obtain rfl : x41 = .int .i64 y.c2 := J.get 8 (i := 8) rfl (hdp 8 (by kernel_rfl)) (by rw [HVV.out]; rfl) rfl
        obtain rfl : x44 = .int .i64 SH_ := J.get 11 (i := 11) rfl (hdp 11 (by kernel_rfl)) (by rw [HVV.out]; rfl) rfl
        refine wpOp_of rfl rfl ?_
        dsimp only [win, List.take_succ_cons, List.take_zero, List.drop_succ_cons, List.drop_zero, List.cons_append, List.nil_append, List.length_cons, List.length_nil, Nat.reduceAdd]
        go_simp
        exact hK [(x33), (x34), (x35), (x36), (x37), (x38), (x39), (x40), (.int .i64 y.c2), (x42), (x43), (.int .i64 SH_), (.int .i64 RV_), (x46), (x47)] _ ⟨⟨_, _, _, _, _, _, _, _, _, _, _, _, _, _, _, rfl, J.set (v := .int .i64 RV_) 12 (i := 12) (by decide) rfl (by rw [HVV.out]; rfl)⟩, ⟨fun _ => rfl, fun h => by have := hcl.no 16 hd (i := 15) (by kernel_rfl); exact absurd h (by show ¬ (upd d 12 15) = true; simp [upd, this])⟩⟩
      · obtain rfl := J2.1 (hcl.no 16 hd (by kernel_rfl))
        obtain rfl : x34 = .slice (some ⟨ga, 0, none⟩) 4 ac9 := J.get 1 (i := 1) rfl (hdp 1 (by kernel_rfl)) (by rw [HVV.out]; rfl) rfl
        obtain rfl : x35 = .int .i64 i := J.get 2 (i := 2) rfl (hdp 2 (by kernel_rfl)) (by rw [HVV.out]; rfl) rfl
        refine wpOp_of rfl rfl ?_
        dsimp only [win, List.take_succ_cons, List.take_zero, List.drop_succ_cons, List.drop_zero, List.cons_append, List.nil_append, List.length_cons, List.length_nil, Nat.reduceAdd]
        go_simp
        exact hK [(x33), (.slice (some ⟨ga, 0, none⟩) 4 ac9), (.int .i64 i), (x36), (x37), (x38), (x39), (x40), (x41), (x42), (x43), (x44), (x45), (.pointer (some ⟨ga, i.toNat * 3, none⟩)), (x47)] _ ⟨⟨_, _, _, _, _, _, _, _, _, _, _, _, _, _, _, rfl, J.set (v := .pointer (some ⟨ga, i.toNat * 3, none⟩)) 13 (i := 13) (by decide) rfl (by rw [HVV.out]; rfl)⟩, ⟨fun _ => rfl, fun h => by have := hcl.no 16 hd (i := 15) (by kernel_rfl); exact absurd h (by show ¬ (upd d 13 15) = true; simp [upd, this])⟩⟩
      · obtain rfl := J2.1 (hcl.no 16 hd (by kernel_rfl))
        obtain rfl : x46 = .pointer (some ⟨ga, i.toNat * 3, none⟩) := J.get 13 (i := 13) rfl (hdp 13 (by kernel_rfl)) (by rw [HVV.out]; rfl) rfl
        refine wpOp_of rfl rfl ?_
        dsimp only [win, List.take_succ_cons, List.take_zero, List.drop_succ_cons, List.drop_zero, List.cons_append, List.nil_append, List.length_cons, List.length_nil, Nat.reduceAdd]
        go_simp
        exact hK [(x33), (x34), (x35), (x36), (x37), (x38), (x39), (x40), (x41), (x42), (x43), (x44), (x45), (.pointer (some ⟨ga, i.toNat * 3, none⟩)), (.pointer (some ⟨ga, i.toNat * 3 + 2, none⟩))] _ ⟨⟨_, _, _, _, _, _, _, _, _, _, _, _, _, _, _, rfl, J.set (v := .pointer (some ⟨ga, i.toNat * 3 + 2, none⟩)) 14 (i := 14) (by decide) rfl (by rw [HVV.out]; rfl)⟩, ⟨fun _ => rfl, fun h => by have := hcl.no 16 hd (i := 15) (by kernel_rfl); exact absurd h (by show ¬ (upd d 14 15) = true; simp [upd, this])⟩⟩
      · obtain rfl := J2.1 hd
        obtain rfl : x47 = .pointer (some ⟨ga, i.toNat * 3 + 2, none⟩) := J.get 14 (i := 14) rfl (hdp 14 (by kernel_rfl)) (by rw [HVV.out]; rfl) rfl
        obtain rfl : x45 = .int .i64 RV_ := J.get 12 (i := 12) rfl (hdp 12 (by kernel_rfl)) (by rw [HVV.out]; rfl) rfl
        refine wpOp_of rfl rfl ?_
        dsimp only [win, List.take_succ_cons, List.take_zero, List.drop_succ_cons, List.drop_zero, List.cons_append, List.nil_append, List.length_cons, List.length_nil, Nat.reduceAdd]
        go_simp
        exact hK [(x33), (x34), (x35), (x36), (x37), (x38), (x39), (x40), (x41), (x42), (x43), (x44), (.int .i64 RV_), (x46), (.pointer (some ⟨ga, i.toNat * 3 + 2, none⟩))] _ ⟨⟨_, _, _, _, _, _, _, _, _, _, _, _, _, _, _, rfl, J.none 15 (by decide)⟩, ⟨fun h => by simp [upd] at h, fun _ => rfl⟩⟩
    · rintro d xs Wx hall ⟨⟨x33, x34, x35, x36, x37, x38, x39, x40, x41, x42, x43, x44, x45, x46, x47, rfl, J⟩, J2⟩
      obtain rfl := J2.2 (hall 15 (by decide))
      clear J J2 hall
      dsimp only [win, List.take_succ_cons, List.take_zero, List.drop_succ_cons, List.drop_zero, List.cons_append, List.nil_append, List.length_cons, List.length_nil, Nat.reduceAdd]
      clear cx fz g4 gl hsh hrv HRV Hw1 Bc
      have Hw2 := Hst
      have Bc := BcN
      clear Hst BcN
      generalize (wq1.drew).setCell ⟨ga, i.toNat * 3 + 2, none⟩ (.int .i64 RV_) = wq2 at Hw2 Bc ⊢
      obtain ⟨SH_, hsh⟩ : ∃ v, IntKind.i64.wrap (2 ^ i.toNat) = v := ⟨_, rfl⟩
      obtain ⟨RV_, hrv⟩ : ∃ v, bits BinOp.andNot IntKind.i64 z.c2 SH_ = v := ⟨_, rfl⟩
      have HRV : Hid (RV_ = clB z.c2 i) := by show _ = _; rw [← hrv, ← hsh]; exact (bitI_all zm i0 i3).2
      obtain ⟨gb, hgb', _, gbl, hatb, _, frz⟩ := Hw2.out.o.a.blk0 (by dsimp only; rw [Hl2.out]; omega)
      injection hgb' with hgb'
      injection hgb' with hgb'
      subst hgb'
      have cx := (hatb.one gbl Hz1.out).3
      rw [Nat.zero_add] at cx
      have fz := frz (j.toNat * 3 + 2)
      have g4 : wq2.cell? ⟨g, 4, none⟩ = some (.slice (some ⟨ga, 0, none⟩) 4 ac9) := by have h9 := Hw2.out.b.cell (i := 4) (v := .slice (some ⟨ga, 0, none⟩) FA1.length ac9) rfl; rw [Hl2.out] at h9; exact h9
      have gl := Hw2.out.b.lt
      have Hst : Hid (VS ((wq2.drew).setCell ⟨ga, j.toNat * 3 + 2, none⟩ (.int .i64 RV_)) base g ⟨pu9, uc9, pf9, fc9, some ⟨ga, 0, none⟩, ac9, ps9, sc9, po9, oc9⟩ ⟨t, s, us, fs, FA2, se, oo⟩) := Hw2.out.drew.setA rfl (j.toNat * 3 + 2) (.int .i64 RV_) FA2 (by dsimp only; rw [Hl2.out]; omega) (by rw [setC_flat Hz1.out, HRV.out, HFA2.out])
      have BcN : Below W.heap.size W ((wq2.drew).setCell ⟨ga, j.toNat * 3 + 2, none⟩ (.int .i64 RV_)) := bel_set Bc.drew ga _ (by omega) _
      clear hatb frz
      go_upto_region 8 with fail
      obtain ⟨VV, HVV⟩ : ∃ V : List Value, Hid (V = [.pointer (some ⟨g, 4, none⟩), .slice (some ⟨ga, 0, none⟩) 4 ac9, .int .i64 j, .pointer (some ⟨g, 4, none⟩), .slice (some ⟨ga, 0, none⟩) 4 ac9, .int .i64 j, .pointer (some ⟨ga, j.toNat * 3, none⟩), .pointer (some ⟨ga, j.toNat * 3 + 2, none⟩), .int .i64 z.c2, .int .i64 i, .int .u64 i, .int .i64 SH_, .int .i64 RV_, .pointer (some ⟨ga, j.toNat * 3, none⟩), .pointer (some ⟨ga, j.toNat * 3 + 2, none⟩)]) := ⟨_, rfl⟩
      refine wp_region_slots (by kernel_rfl) 48 (fun d xs W => (∃ x48 x49 x50 x51 x52 x53 x54 x55 x56 x57 x58 x59 x60 x61 x62 : Value, xs = [x48, x49, x50, x51, x52, x53, x54, x55, x56, x57, x58, x59, x60, x61, x62] ∧ SlotsM [0, 1, 2, 3, 4, 5, 6, 7, 8, 9, 10, 11, 12, 13, 14] VV d xs) ∧ ((d 15 = false → W = wq2.drew) ∧ (d 15 = true → W = (wq2.drew).setCell ⟨ga, j.toNat * 3 + 2, none⟩ (.int .i64 RV_)))) (by kernel_rfl) [_, _, _, _, _, _, _, _, _, _, _, _, _, _, _] rfl ?_ ?_ ?_
      · exact ⟨⟨_, _, _, _, _, _, _, _, _, _, _, _, _, _, _, rfl, SlotsM.start (by rw [HVV.out]; rfl)⟩, ⟨fun _ => rfl, fun h => by cases h⟩⟩
      · rintro d xs Wx i K hi hd hdep hcl ⟨⟨x48, x49, x50, x51, x52, x53, x54, x55, x56, x57, x58, x59, x60, x61, x62, rfl, J⟩, J2⟩ hK
        have hi' : i < 16 := hi
        have hdp : ∀ j, (depsOf _ i).contains j = true → d j = true := fun j hj => hdep j (by simpa using hj)
        clear hi hdep
        have h18 : i = 0 ∨ i = 1 ∨ i = 2 ∨ i = 3 ∨ i = 4 ∨ i = 5 ∨ i = 6 ∨ i = 7 ∨ i = 8 ∨ i = 9 ∨ i = 10 ∨ i = 11 ∨ i = 12 ∨ i = 13 ∨ i = 14 ∨ i = 15 := by omega
        rcases h18 with rfl | rfl | rfl | rfl | rfl | rfl | rfl | rfl | rfl | rfl | rfl | rfl | rfl | rfl | rfl | rfl
        · obtain rfl := J2.1 (hcl.no 16 hd (by kernel_rfl))
          refine wpOp_of rfl rfl ?_
          dsimp only [win, List.take_succ_cons, List.take_zero, List.drop_succ_cons, List.drop_zero, List.cons_append, List.nil_append, List.length_cons, List.length_nil, Nat.reduceAdd]
          go_simp
          exact hK [(.pointer (some ⟨g, 4, none⟩)), (x49), (x50), (x51), (x52), (x53), (x54), (x55), (x56), (x57), (x58), (x59), (x60), (x61), (x62)] _ ⟨⟨_, _, _, _, _, _, _, _, _, _, _, _, _, _, _, rfl, J.set (v := .pointer (some ⟨g, 4, none⟩)) 0 (i := 0) (by decide) rfl (by rw [HVV.out]; rfl)⟩, ⟨fun _ => rfl, fun h => by have := hcl.no 16 hd (i := 15) (by kernel_rfl); exact absurd h (by show ¬ (upd d 0 15) = true; simp [upd, this])⟩⟩
        · obtain rfl := J2.1 (hcl.no 16 hd (by kernel_rfl))
          obtain rfl : x48 = .pointer (some ⟨g, 4, none⟩) := J.get 0 (i := 0) rfl (hdp 0 (by kernel_rfl)) (by rw [HVV.out]; rfl) rfl
          refine wpOp_of rfl rfl ?_
          dsimp only [win, List.take_succ_cons, List.take_zero, List.drop_succ_cons, List.drop_zero, List.cons_append, List.nil_append, List.length_cons, List.length_nil, Nat.reduceAdd]
          go_simp
          exact hK [(.pointer (some ⟨g, 4, none⟩)), (.slice (some ⟨ga, 0, none⟩) 4 ac9), (x50), (x51), (x52), (x53), (x54), (x55), (x56), (x57), (x58), (x59), (x60), (x61), (x62)] _ ⟨⟨_, _, _, _, _, _, _, _, _, _, _, _, _, _, _, rfl, J.set (v := .slice (some ⟨ga, 0, none⟩) 4 ac9) 1 (i := 1) (by decide) rfl (by rw [HVV.out]; rfl)⟩, ⟨fun _ => rfl, fun h => by have := hcl.no 16 hd (i := 15) (by kernel_rfl); exact absurd h (by show ¬ (upd d 1 15) = true; simp [upd, this])⟩⟩
        · obtain rfl := J2.1 (hcl.no 16 hd (by kernel_rfl))
          refine wpOp_of rfl rfl ?_
          dsimp only [win, List.take_succ_cons, List.take_zero, List.drop_succ_cons, List.drop_zero, List.cons_append, List.nil_append, List.length_cons, List.length_nil, Nat.reduceAdd]
          go_simp
          exact hK [(x48), (x49), (.int .i64 j), (x51), (x52), (x53), (x54), (x55), (x56), (x57), (x58), (x59), (x60), (x61), (x62)] _ ⟨⟨_, _, _, _, _, _, _, _, _, _, _, _, _, _, _, rfl, J.set (v := .int .i64 j) 2 (i := 2) (by decide) rfl (by rw [HVV.out]; rfl)⟩, ⟨fun _ => rfl, fun h => by have := hcl.no 16 hd (i := 15) (by kernel_rfl); exact absurd h (by show ¬ (upd d 2 15) = true; simp [upd, this])⟩⟩
        · obtain rfl := J2.1 (hcl.no 16 hd (by kernel_rfl))
          refine wpOp_of rfl rfl ?_
          dsimp only [win, List.take_succ_cons, List.take_zero, List.drop_succ_cons, List.drop_zero, List.cons_append, List.nil_append, List.length_cons, List.length_nil, Nat.reduceAdd]
          go_simp
          exact hK [(x48), (x49), (x50), (.pointer (some ⟨g, 4, none⟩)), (x52), (x53), (x54), (x55), (x56), (x57), (x58), (x59), (x60), (x61), (x62)] _ ⟨⟨_, _, _, _, _, _, _, _, _, _, _, _, _, _, _, rfl, J.set (v := .pointer (some ⟨g, 4, none⟩)) 3 (i := 3) (by decide) rfl (by rw [HVV.out]; rfl)⟩, ⟨fun _ => rfl, fun h => by have := hcl.no 16 hd (i := 15) (by kernel_rfl); exact absurd h (by show ¬ (upd d 3 15) = true; simp [upd, this])⟩⟩
        · obtain rfl := J2.1 (hcl.no 16 hd (by kernel_rfl))
          obtain rfl : x51 = .pointer (some ⟨g, 4, none⟩) := J.get 3 (i := 3) rfl (hdp 3 (by kernel_rfl)) (by rw [HVV.out]; rfl) rfl
          refine wpOp_of rfl rfl ?_
          dsimp only [win, List.take_succ_cons, List.take_zero, List.drop_succ_cons, List.drop_zero, List.cons_append, List.nil_append, List.length_cons, List.length_nil, Nat.reduceAdd]
          go_simp
          exact hK [(x48), (x49), (x50), (.pointer (some ⟨g, 4, none⟩)), (.slice (some ⟨ga, 0, none⟩) 4 ac9), (x53), (x54), (x55), (x56), (x57), (x58), (x59), (x60), (x61), (x62)] _ ⟨⟨_, _, _, _, _, _, _, _, _, _, _, _, _, _, _, rfl, J.set (v := .slice (some ⟨ga, 0, none⟩) 4 ac9) 4 (i := 4) (by decide) rfl (by rw [HVV.out]; rfl)⟩, ⟨fun _ => rfl, fun h => by have := hcl.no 16 hd (i := 15) (by kernel_rfl); exact absurd h (by show ¬ (upd d 4 15) = true; simp [upd, this])⟩⟩
        · obtain rfl := J2.1 (hcl.no 16 hd (by kernel_rfl))
          refine wpOp_of rfl rfl ?_
          dsimp only [win, List.take_succ_cons, List.take_zero, List.drop_succ_cons, List.drop_zero, List.cons_append, List.nil_append, List.length_cons, List.length_nil, Nat.reduceAdd]
          go_simp
          exact hK [(x48), (x49), (x50), (x51), (x52), (.int .i64 j), (x54), (x55), (x56), (x57), (x58), (x59), (x60), (x61), (x62)] _ ⟨⟨_, _, _, _, _, _, _, _, _, _, _, _, _, _, _, rfl, J.set (v := .int .i64 j) 5 (i := 5) (by decide) rfl (by rw [HVV.out]; rfl)⟩, ⟨fun _ => rfl, fun h => by have := hcl.no 16 hd (i := 15) (by kernel_rfl); exact absurd h (by show ¬ (upd d 5 15) = true; simp [upd, this])⟩⟩
        · obtain rfl := J2.1 (hcl.no 16 hd (by kernel_rfl))
          obtain rfl : x52 = .slice (some ⟨ga, 0, none⟩) 4 ac9 := J.get 4 (i := 4) rfl (hdp 4 (by kernel_rfl)) (by rw [HVV.out]; rfl) rfl
          obtain rfl : x53 = .int .i64 j := J.get 5 (i := 5) rfl (hdp 5 (by kernel_rfl)) (by rw [HVV.out]; rfl) rfl
          refine wpOp_of rfl rfl ?_
          dsimp only [win, List.take_succ_cons, List.take_zero, List.drop_succ_cons, List.drop_zero, List.cons_append, List.nil_append, List.length_cons, List.length_nil, Nat.reduceAdd]
          go_simp
          exact hK [(x48), (x49), (x50), (x51), (.slice (some ⟨ga, 0, none⟩) 4 ac9), (.int .i64 j), (.pointer (some ⟨ga, j.toNat * 3, none⟩)), (x55), (x56), (x57), (x58), (x59), (x60), (x61), (x62)] _ ⟨⟨_, _, _, _, _, _, _, _, _, _, _, _, _, _, _, rfl, J.set (v := .pointer (some ⟨ga, j.toNat * 3, none⟩)) 6 (i := 6) (by decide) rfl (by rw [HVV.out]; rfl)⟩, ⟨fun _ => rfl, fun h => by have := hcl.no 16 hd (i := 15) (by kernel_rfl); exact absurd h (by show ¬ (upd d 6 15) = true; simp [upd, this])⟩⟩
        · obtain rfl := J2.1 (hcl.no 16 hd (by kernel_rfl))
          obtain rfl : x54 = .pointer (some ⟨ga, j.toNat * 3, none⟩) := J.get 6 (i := 6) rfl (hdp 6 (by kernel_rfl)) (by rw [HVV.out]; rfl) rfl
          refine wpOp_of rfl rfl ?_
          dsimp only [win, List.take_succ_cons, List.take_zero, List.drop_succ_cons, List.drop_zero, List.cons_append, List.nil_append, List.length_cons, List.length_nil, Nat.reduceAdd]
          go_simp
          exact hK [(x48), (x49), (x50), (x51), (x52), (x53), (.pointer (some ⟨ga, j.toNat * 3, none⟩)), (.pointer (some ⟨ga, j.toNat * 3 + 2, none⟩)), (x56), (x57), (x58), (x59), (x60), (x61), (x62)] _ ⟨⟨_, _, _, _, _, _, _, _, _, _, _, _, _, _, _, rfl, J.set (v := .pointer (some ⟨ga, j.toNat * 3 + 2, none⟩)) 7 (i := 7) (by decide) rfl (by rw [HVV.out]; rfl)⟩, ⟨fun _ => rfl, fun h => by have := hcl.no 16 hd (i := 15) (by kernel_rfl); exact absurd h (by show ¬ (upd d 7 15) = true; simp [upd, this])⟩⟩
        · obtain rfl := J2.1 (hcl.no 16 hd (by kernel_rfl))
          obtain rfl : x55 = .pointer (some ⟨ga, j.toNat * 3 + 2, none⟩) := J.get 7 (i := 7) rfl (hdp 7 (by kernel_rfl)) (by rw [HVV.out]; rfl) rfl
          refine wpOp_of rfl rfl ?_
          dsimp only [win, List.take_succ_cons, List.take_zero, List.drop_succ_cons, List.drop_zero, List.cons_append, List.nil_append, List.length_cons, List.length_nil, Nat.reduceAdd]
          go_simp
          exact hK [(x48), (x49), (x50), (x51), (x52), (x53), (x54), (.pointer (some ⟨ga, j.toNat * 3 + 2, none⟩)), (.int .i64 z.c2), (x57), (x58), (x59), (x60), (x61), (x62)] _ ⟨⟨_, _, _, _, _, _, _, _, _, _, _, _, _, _, _, rfl, J.set (v := .int .i64 z.c2) 8 (i := 8) (by decide) rfl (by rw [HVV.out]; rfl)⟩, ⟨fun _ => rfl, fun h => by have := hcl.no 16 hd (i := 15) (by kernel_rfl); exact absurd h (by show ¬ (upd d 8 15) = true; simp [upd, this])⟩⟩
        · obtain rfl := J2.1 (hcl.no 16 hd (by kernel_rfl))
          refine wpOp_of rfl rfl ?_
          dsimp only [win, List.take_succ_cons, List.take_zero, List.drop_succ_cons, List.drop_zero, List.cons_append, List.nil_append, List.length_cons, List.length_nil, Nat.reduceAdd]
          go_simp
          exact hK [(x48), (x49), (x50), (x51), (x52), (x53), (x54), (x55), (x56), (.int .i64 i), (x58), (x59), (x60), (x61), (x62)] _ ⟨⟨_, _, _, _, _, _, _, _, _, _, _, _, _, _, _, rfl, J.set (v := .int .i64 i) 9 (i := 9) (by decide) rfl (by rw [HVV.out]; rfl)⟩, ⟨fun _ => rfl, fun h => by have := hcl.no 16 hd (i := 15) (by kernel_rfl); exact absurd h (by show ¬ (upd d 9 15) = true; simp [upd, this])⟩⟩
        · obtain rfl := J2.1 (hcl.no 16 hd (by kernel_rfl))
          obtain rfl : x57 = .int .i64 i := J.get 9 (i := 9) rfl (hdp 9 (by kernel_rfl)) (by rw [HVV.out]; rfl) rfl
          refine wpOp_of rfl rfl ?_
          dsimp only [win, List.take_succ_cons, List.take_zero, List.drop_succ_cons, List.drop_zero, List.cons_append, List.nil_append, List.length_cons, List.length_nil, Nat.reduceAdd]
          go_simp
          exact hK [(x48), (x49), (x50), (x51), (x52), (x53), (x54), (x55), (x56), (.int .i64 i), (.int .u64 i), (x59), (x60), (x61), (x62)] _ ⟨⟨_, _, _, _, _, _, _, _, _, _, _, _, _, _, _, rfl, J.set (v := .int .u64 i) 10 (i := 10) (by decide) rfl (by rw [HVV.out]; rfl)⟩, ⟨fun _ => rfl, fun h => by have := hcl.no 16 hd (i := 15) (by kernel_rfl); exact absurd h (by show ¬ (upd d 10 15) = true; simp [upd, this])⟩⟩
        · obtain rfl := J2.1 (hcl.no 16 hd (by kernel_rfl))
          obtain rfl : x58 = .int .u64 i := J.get 10 (i := 10) rfl (hdp 10 (by kernel_rfl)) (by rw [HVV.out]; rfl) rfl
          refine wpOp_of rfl rfl ?_
          dsimp only [win, List.take_succ_cons, List.take_zero, List.drop_succ_cons, List.drop_zero, List.cons_append, List.nil_append, List.length_cons, List.length_nil, Nat.reduceAdd]
          go_simp
          exact hK [(x48), (x49), (x50), (x51), (x52), (x53), (x54), (x55), (x56), (x57), (.int .u64 i), (.int .i64 SH_), (x60), (x61), (x62)] _ ⟨⟨_, _, _, _, _, _, _, _, _, _, _, _, _, _, _, rfl, J.set (v := .int .i64 SH_) 11 (i := 11) (by decide) rfl (by rw [HVV.out]; rfl)⟩, ⟨fun _ => rfl, fun h => by have := hcl.no 16 hd (i := 15) (by kernel_rfl); exact absurd h (by show ¬ (upd d 11 15) = true; simp [upd, this])⟩⟩
        · obtain rfl := J2.1 (hcl.no 16 hd (by kernel_rfl))
          obtain rfl : x56 = .int .i64 z.c2 := J.get 8 (i := 8) rfl (hdp 8 (by kernel_rfl)) (by rw [HVV.out]; rfl) rfl
          obtain rfl : x59 = .int .i64 SH_ := J.get 11 (i := 11) rfl (hdp 11 (by kernel_rfl)) (by rw [HVV.out]; rfl) rfl
          refine wpOp_of rfl rfl ?_
          dsimp only [win, List.take_succ_cons, List.take_zero, List.drop_succ_cons, List.drop_zero, List.cons_append, List.nil_append, List.length_cons, List.length_nil, Nat.reduceAdd]
          go_simp
          exact hK [(x48), (x49), (x50), (x51), (x52), (x53), (x54), (x55), (.int .i64 z.c2), (x57), (x58), (.int .i64 SH_), (.int .i64 RV_), (x61), (x62)] _ ⟨⟨_, _, _, _, _, _, _, _, _, _, _, _, _, _, _, rfl, J.set (v := .int .i64 RV_) 12 (i := 12) (by decide) rfl (by rw [HVV.out]; rfl)⟩, ⟨fun _ => rfl, fun h => by have := hcl.no 16 hd (i := 15) (by kernel_rfl); exact absurd h (by show ¬ (upd d 12 15) = true; simp [upd, this])⟩⟩
        · obtain rfl := J2.1 (hcl.no 16 hd (by kernel_rfl))
          obtain rfl : x49 = .slice (some ⟨ga, 0, none⟩) 4 ac9 := J.get 1 (i := 1) rfl (hdp 1 (by kernel_rfl)) (by rw [HVV.out]; rfl) rfl
          obtain rfl : x50 = .int .i64 j := J.get 2 (i := 2) rfl (hdp 2 (by kernel_rfl)) (by rw [HVV.out]; rfl) rfl
          refine wpOp_of rfl rfl ?_
          dsimp only [win, List.take_succ_cons, List.take_zero, List.drop_succ_cons, List.drop_zero, List.cons_append, List.nil_append, List.length_cons, List.length_nil, Nat.reduceAdd]
          go_simp
          exact hK [(x48), (.slice (some ⟨ga, 0, none⟩) 4 ac9), (.int .i64 j), (x51), (x52), (x53), (x54), (x55), (x56), (x57), (x58), (x59), (x60), (.pointer (some ⟨ga, j.toNat * 3, none⟩)), (x62)] _ ⟨⟨_, _, _, _, _, _, _, _, _, _, _, _, _, _, _, rfl, J.set (v := .pointer (some ⟨ga, j.toNat * 3, none⟩)) 13 (i := 13) (by decide) rfl (by rw [HVV.out]; rfl)⟩, ⟨fun _ => rfl, fun h => by have := hcl.no 16 hd (i := 15) (by kernel_rfl); exact absurd h (by show ¬ (upd d 13 15) = true; simp [upd, this])⟩⟩
        · obtain rfl := J2.1 (hcl.no 16 hd (by kernel_rfl))
          obtain rfl : x61 = .pointer (some ⟨ga, j.toNat * 3, none⟩) := J.get 13 (i := 13) rfl (hdp 13 (by kernel_rfl)) (by rw [HVV.out]; rfl) rfl
          refine wpOp_of rfl rfl ?_
          dsimp only [win, List.take_succ_cons, List.take_zero, List.drop_succ_cons, List.drop_zero, List.cons_append, List.nil_append, List.length_cons, List.length_nil, Nat.reduceAdd]
          go_simp
          exact hK [(x48), (x49), (x50), (x51), (x52), (x53), (x54), (x55), (x56), (x57), (x58), (x59), (x60), (.pointer (some ⟨ga, j.toNat * 3, none⟩)), (.pointer (some ⟨ga, j.toNat * 3 + 2, none⟩))] _ ⟨⟨_, _, _, _, _, _, _, _, _, _, _, _, _, _, _, rfl, J.set (v := .pointer (some ⟨ga, j.toNat * 3 + 2, none⟩)) 14 (i := 14) (by decide) rfl (by rw [HVV.out]; rfl)⟩, ⟨fun _ => rfl, fun h => by have := hcl.no 16 hd (i := 15) (by kernel_rfl); exact absurd h (by show ¬ (upd d 14 15) = true; simp [upd, this])⟩⟩
        · obtain rfl := J2.1 hd
          obtain rfl : x62 = .pointer (some ⟨ga, j.toNat * 3 + 2, none⟩) := J.get 14 (i := 14) rfl (hdp 14 (by kernel_rfl)) (by rw [HVV.out]; rfl) rfl
          obtain rfl : x60 = .int .i64 RV_ := J.get 12 (i := 12) rfl (hdp 12 (by kernel_rfl)) (by rw [HVV.out]; rfl) rfl
          refine wpOp_of rfl rfl ?_
          dsimp only [win, List.take_succ_cons, List.take_zero, List.drop_succ_cons, List.drop_zero, List.cons_append, List.nil_append, List.length_cons, List.length_nil, Nat.reduceAdd]
          go_simp
          exact hK [(x48), (x49), (x50), (x51), (x52), (x53), (x54), (x55), (x56), (x57), (x58), (x59), (.int .i64 RV_), (x61), (.pointer (some ⟨ga, j.toNat * 3 + 2, none⟩))] _ ⟨⟨_, _, _, _, _, _, _, _, _, _, _, _, _, _, _, rfl, J.none 15 (by decide)⟩, ⟨fun h => by simp [upd] at h, fun _ => rfl⟩⟩
      · rintro d xs Wx hall ⟨⟨x48, x49, x50, x51, x52, x53, x54, x55, x56, x57, x58, x59, x60, x61, x62, rfl, J⟩, J2⟩
        obtain rfl := J2.2 (hall 15 (by decide))
        clear J J2 hall
        dsimp only [win, List.take_succ_cons, List.take_zero, List.drop_succ_cons, List.drop_zero, List.cons_append, List.nil_append, List.length_cons, List.length_nil, Nat.reduceAdd]
        clear cx fz g4 gl hsh hrv HRV Hw2 Bc
        have Hw3 := Hst
        have Bc := BcN
        clear Hst BcN
        generalize (wq2.drew).setCell ⟨ga, j.toNat * 3 + 2, none⟩ (.int .i64 RV_) = wq3 at Hw3 Bc ⊢
        have HR2 : Hid (C = 0 ∧ X = ⟨t, s, us, fs, FA2, se, oo⟩) := ⟨HR0.out, by rw [HR2'.out, HFA2.out, HFA1.out]; unfold two; rw [Hya.out, Hza.out]⟩
        have R1 := HR.out.below Bc
        obtain ⟨r0, r1, r2, r3, r4, r5, r6, r7, y0, y1, y2, y3, y4, y5, y6, y7, rl⟩ := R1.z8
        have VB := Hw3.out.b
        have c7 := VB.c7
        obtain ⟨p0, p1, p2, p3, p4, p5, p6, pl⟩ := c7
        have Fz := set8_blk R1 (.int .i64 0) (.int .i64 t) (.int .i64 s) (.slice pu9 us.length uc9) (.slice pf9 fs.length fc9) (.slice (some ⟨ga, 0, none⟩) FA2.length ac9) (.slice ps9 se.length sc9) (.slice po9 oo.length oc9)
        have Fo := (Hw3.out.o.of_block R1 (by decide) (by decide) (by decide) (by decide) (by decide) (set8_other (W := wq3) (g := w.heap.size) (.int .i64 0) (.int .i64 t) (.int .i64 s) (.slice pu9 us.length uc9) (.slice pf9 fs.length fc9) (.slice (some ⟨ga, 0, none⟩) FA2.length ac9) (.slice ps9 se.length sc9) (.slice po9 oo.length oc9))).mono (show w.heap.size ≤ base by omega)
        have BE := set8_below (B1.trans (Bc.mono hB)) (Nat.le_refl w.heap.size) (.int .i64 0) (.int .i64 t) (.int .i64 s) (.slice pu9 us.length uc9) (.slice pf9 fs.length fc9) (.slice (some ⟨ga, 0, none⟩) FA2.length ac9) (.slice ps9 se.length sc9) (.slice po9 oo.length oc9)
        have hne : w.heap.size ≠ g := by have := Hw3.out.bg; omega
        clear R1 VB
        go_wp2_with fail
        rw [HR2.out.1, HR2.out.2]
        exact bodyPost_ret (v := .agg (r8 0 ⟨pu9, uc9, pf9, fc9, some ⟨ga, 0, none⟩, ac9, ps9, sc9, po9, oc9⟩ ⟨t, s, us, fs, FA2, se, oo⟩)) (result8 Tryz.results48 Fz _ rfl) rfl ⟨_, rfl, fun e => absurd rfl e, Fo, BE⟩
set_option maxRecDepth 20000 in
set_option maxHeartbeats 16000000 in
theorem specBreakPact (p : WP) (x : KW) (w : World) (h : InW w p x) (i j : Int) :
    Calls Tryz.prog 13 #[.agg (p.v x), .int .i64 i, .int .i64 j] w fun e w' => ∃ q, e = .returned (.agg (r8 (brkC hasS x i j) q (brkX hasS x i j))) ∧ (brkC hasS x i j ≠ 0 → q = wpz) ∧ OwW w' w.heap.size q (brkX hasS x i j) ∧ Below w.heap.size w w' := by
  obtain ⟨t, s, us, fs, fa, se, oo⟩ := x
  obtain ⟨u, uc, f, fc, a, ac, q, qc, r, rc⟩ := p
  obtain ⟨W, HW⟩ : ∃ W, Hid (W = (w.alloc (.cells (wv t s u us.length uc f fs.length fc a fa.length ac q se.length qc r oo.length rc) 32)).alloc (.cells z8 36)) := ⟨_, rfl⟩
  have B1 : Below w.heap.size w W := by rw [HW.out]; exact ((Below.refl _ _).alloc (Nat.le_refl _) _).alloc (by rw [size_new]; omega) _
  have P : Bk W w.heap.size (wv t s u us.length uc f fs.length fc a fa.length ac q se.length qc r oo.length rc) 32 := by rw [HW.out]; exact (Bk.new w (wv t s u us.length uc f fs.length fc a fa.length ac q se.length qc r oo.length rc) 32).alloc _
  have R : Blk W (w.heap.size + 1) z8 36 := by rw [HW.out]; have h := Blk.new (w.alloc (.cells (wv t s u us.length uc f fs.length fc a fa.length ac q se.length qc r oo.length rc) 32)) z8 36; rw [size_new] at h; exact h
  have HN : Hid (InW W ⟨u, uc, f, fc, a, ac, q, qc, r, rc⟩ ⟨t, s, us, fs, fa, se, oo⟩) := h.later B1
  have HR : Hid (Blk W (w.heap.size + 1) z8 36) := R
  have hB := B1.size
  show Calls Tryz.prog 13 #[.agg (wv t s u us.length uc f fs.length fc a fa.length ac q se.length qc r oo.length rc), .int .i64 i, .int .i64 j] w _
  have cF := fun W' (h : Below W.heap.size W W') => l7Two_c w.heap.size t s u us.length uc f fs.length fc a fa.length ac q se.length qc r oo.length rc us fs fa se oo rfl rfl rfl rfl rfl HN.out.o1 HN.out.o2 W' ⟨(P.below h).cell rfl, (P.below h).cell rfl, (P.below h).cell rfl, (P.below h).cell rfl, (P.below h).cell rfl, (P.below h).cell rfl, (P.below h).cell rfl, (P.below h).lt⟩ (HN.out.later h).arg.u (HN.out.later h).arg.f (HN.out.later h).arg.a (HN.out.later h).arg.s (HN.out.later h).arg.o i j
  have cI := fun (G : GdW hasS ⟨t, s, us, fs, fa, se, oo⟩) W' (h : Below W.heap.size W W') => l7Break_c w.heap.size ⟨u, uc, f, fc, a, ac, q, qc, r, rc⟩ ⟨t, s, us, fs, fa, se, oo⟩ G W' (show Blk W' w.heap.size _ _ from Blk.below (show Blk W w.heap.size (wv t s u us.length uc f fs.length fc a fa.length ac q se.length qc r oo.length rc) 32 from P) h) (HN.out.later h) i j
  have cB := fun (c : Int) w => l7Bad_c c w
  have HC : Hid ((prF hasS ⟨t, s, us, fs, fa, se, oo⟩ i j == 0) = false → brkC hasS ⟨t, s, us, fs, fa, se, oo⟩ i j = prF hasS ⟨t, s, us, fs, fa, se, oo⟩ i j ∧ brkX hasS ⟨t, s, us, fs, fa, se, oo⟩ i j = kz) := fun e => by
    have e1 : brkC hasS ⟨t, s, us, fs, fa, se, oo⟩ i j = prF hasS ⟨t, s, us, fs, fa, se, oo⟩ i j := by unfold brkC; rw [if_pos e]
    exact ⟨e1, by unfold brkX; rw [e1, if_neg (by rw [e]; simp)]⟩
  have HG : Hid (prF hasS ⟨t, s, us, fs, fa, se, oo⟩ i j = 0 → GdW hasS ⟨t, s, us, fs, fa, se, oo⟩) := fun e => (gdW_iff hasS _).1 (prF_zero.1 e).1
  generalize brkC hasS ⟨t, s, us, fs, fa, se, oo⟩ i j = C at HC cI ⊢
  generalize brkX hasS ⟨t, s, us, fs, fa, se, oo⟩ i j = X at HC cI ⊢
  generalize prF hasS ⟨t, s, us, fs, fa, se, oo⟩ i j = F at cF HC HG
  obtain ⟨mu, Hmu⟩ : ∃ m, Hid (us.length = m) := ⟨_, rfl⟩
  obtain ⟨mf, Hmf⟩ : ∃ m, Hid (fs.length = m) := ⟨_, rfl⟩
  obtain ⟨ma, Hma⟩ : ∃ m, Hid (fa.length = m) := ⟨_, rfl⟩
  obtain ⟨ms, Hms⟩ : ∃ m, Hid (se.length = m) := ⟨_, rfl⟩
  obtain ⟨mo, Hmo⟩ : ∃ m, Hid (oo.length = m) := ⟨_, rfl⟩
  rw [Hmu.out, Hmf.out, Hma.out, Hms.out, Hmo.out] at P HW ⊢
  clear h R
  have Bc : Below W.heap.size W W := Below.refl _ _
  cases e2 : F == 0
  · have n7 : (F != 0) = true := by simp only [bne, e2]; rfl
    have HR1 : Hid (C = F ∧ X = kz) := HC.out e2
    have cB := cB F
    clear HC HG cI e2
    go_enter Tryz.func13, Tryz.ntmps13
    go_upto_region 1 with fail
    rw [← HW.out]
    go_wp2_with fail
    refine (cF _ Bc).mono ?_
    rintro e wn ⟨rfl, kn⟩
    have Bc := Bc.trans (kn.mono Bc.size)
    go_wp2_with fail
    refine (cB _).mono ?_
    rintro e wx ⟨rfl, kx⟩
    have Bc := Bc.trans (kx.mono Bc.size)
    have R1 := HR.out.below Bc
    obtain ⟨r0, r1, r2, r3, r4, r5, r6, r7, y0, y1, y2, y3, y4, y5, y6, y7, rl⟩ := R1.z8
    have Fz : Blk _ (w.heap.size + 1) (r8 F wpz kz) 36 := set8_blk R1 (.int .i64 F) (.int .i64 0) (.int .i64 0) (.slice none 0 0) (.slice none 0 0) (.slice none 0 0) (.slice none 0 0) (.slice none 0 0)
    have BE := set8_below (B1.trans (Bc.mono hB)) (show w.heap.size ≤ w.heap.size + 1 by omega) (.int .i64 F) (.int .i64 0) (.int .i64 0) (.slice none 0 0) (.slice none 0 0) (.slice none 0 0) (.slice none 0 0) (.slice none 0 0)
    clear R1
    go_wp2_with fail
    rw [HR1.out.1, HR1.out.2]
    exact bodyPost_ret (v := .agg (r8 F wpz kz)) (result8 Tryz.results13 Fz _ rfl) rfl ⟨wpz, rfl, fun _ => rfl, OwW.z _ _, BE⟩
  obtain rfl : F = 0 := by simpa using e2
  have cI := cI (HG.out rfl)
  obtain ⟨C2, HC2⟩ : ∃ v, Hid (C = v) := ⟨_, rfl⟩
  rw [HC2.out] at cI
  clear HC HG e2
  go_enter Tryz.func13, Tryz.ntmps13
  go_upto_region 1 with fail
  rw [← HW.out]
  go_wp2_with fail
  refine (cF _ Bc).mono ?_
  rintro e wn ⟨rfl, kn⟩
  have Bc := Bc.trans (kn.mono Bc.size)
  go_wp2_with fail
  have hB5 := Bc.size
  refine (cI _ Bc).mono ?_
  rintro e w8 ⟨q9, rfl, Z8, O8, k8⟩
  have HZ8 : Hid (C2 ≠ 0 → q9 = wpz) := Z8
  clear Z8
  have Bc := Bc.trans (k8.mono Bc.size)
  obtain ⟨t9, s9, us9, fs9, fa9, se9, oo9⟩ := X
  obtain ⟨pu9, uc9, pf9, fc9, pa9, ac9, ps9, sc9, po9, oc9⟩ := q9
  have HR2 : Hid (C = C2 ∧ (⟨t9, s9, us9, fs9, fa9, se9, oo9⟩ : KW) = ⟨t9, s9, us9, fs9, fa9, se9, oo9⟩) := ⟨HC2.out, rfl⟩
  have R1 := HR.out.below Bc
  obtain ⟨r0, r1, r2, r3, r4, r5, r6, r7, y0, y1, y2, y3, y4, y5, y6, y7, rl⟩ := R1.z8
  have Fz := set8_blk R1 (.int .i64 C2) (.int .i64 t9) (.int .i64 s9) (.slice pu9 us9.length uc9) (.slice pf9 fs9.length fc9) (.slice pa9 fa9.length ac9) (.slice ps9 se9.length sc9) (.slice po9 oo9.length oc9)
  have Fo := (O8.of_block R1 (by decide) (by decide) (by decide) (by decide) (by decide) (set8_other (W := w8) (g := w.heap.size + 1) (.int .i64 C2) (.int .i64 t9) (.int .i64 s9) (.slice pu9 us9.length uc9) (.slice pf9 fs9.length fc9) (.slice pa9 fa9.length ac9) (.slice ps9 se9.length sc9) (.slice po9 oo9.length oc9))).mono (show w.heap.size ≤ _ by first | omega | (have := Bc.size; omega))
  have BE := set8_below (B1.trans (Bc.mono hB)) (show w.heap.size ≤ w.heap.size + 1 by omega) (.int .i64 C2) (.int .i64 t9) (.int .i64 s9) (.slice pu9 us9.length uc9) (.slice pf9 fs9.length fc9) (.slice pa9 fa9.length ac9) (.slice ps9 se9.length sc9) (.slice po9 oo9.length oc9)
  clear R1 O8
  go_wp2_with fail
  rw [HR2.out.1]
  exact bodyPost_ret (v := .agg (r8 C2 ⟨pu9, uc9, pf9, fc9, pa9, ac9, ps9, sc9, po9, oc9⟩ ⟨t9, s9, us9, fs9, fa9, se9, oo9⟩)) (result8 Tryz.results13 Fz _ rfl) rfl ⟨_, rfl, HZ8.out, Fo, BE⟩
end Go.Proofs.YtmfdggaijbcijaaGreat
end
