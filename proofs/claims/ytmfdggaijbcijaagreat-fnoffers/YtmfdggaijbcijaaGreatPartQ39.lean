/- Texts of mine put together (a claim holds at most 60 files): AccImpl. -/
import Derived.Test.YtmfdggaijbcijaaGreatPartQ35
import Derived.Test.YtmfdggaijbcijaaGreatPartQ38

/- AccImpl -/
/- The contract of AcceptPact. Condition: the world's lists lie in memory as they were laid there. -/
section
namespace Go.Proofs.YtmfdggaijbcijaaGreat
open Go.ChangeShapes Go.WideShapes Go.ChangeAt Go.RowKit
open Bd
set_option linter.unusedVariables false

set_option maxRecDepth 20000 in
set_option maxHeartbeats 16000000 in
theorem implAcceptPact (p : WP) (x : KW) (w : World) (h : InW w p x) (i j : Int) :
    Calls Tryz.prog 7 #[.agg (p.v x), .int .i64 i, .int .i64 j] w fun e w' => ∃ q, e = .returned (.agg (r8 (accC hasI x i j) q (accX hasI x i j))) ∧ OwW w' w.heap.size q (accX hasI x i j) ∧ Below w.heap.size w w' := by
  obtain ⟨t, s, us, fs, fa, se, oo⟩ := x
  obtain ⟨u, uc, f, fc, a, ac, q, qc, r, rc⟩ := p
  obtain ⟨W, HW⟩ : ∃ W, Hid (W = (w.alloc (.cells (wv t s u us.length uc f fs.length fc a fa.length ac q se.length qc r oo.length rc) 32)).alloc (.cells z8 36)) := ⟨_, rfl⟩
  have B1 : Below w.heap.size w W := by rw [HW.out]; exact ((Below.refl _ _).alloc (Nat.le_refl _) _).alloc (by rw [size_new]; omega) _
  have P : Bk W w.heap.size (wv t s u us.length uc f fs.length fc a fa.length ac q se.length qc r oo.length rc) 32 := by rw [HW.out]; exact (Bk.new w (wv t s u us.length uc f fs.length fc a fa.length ac q se.length qc r oo.length rc) 32).alloc _
  have R : Blk W (w.heap.size + 1) z8 36 := by rw [HW.out]; have h := Blk.new (w.alloc (.cells (wv t s u us.length uc f fs.length fc a fa.length ac q se.length qc r oo.length rc) 32)) z8 36; rw [size_new] at h; exact h
  have HN : Hid (InW W ⟨u, uc, f, fc, a, ac, q, qc, r, rc⟩ ⟨t, s, us, fs, fa, se, oo⟩) := h.later B1
  have HR : Hid (Blk W (w.heap.size + 1) z8 36) := R
  have hB := B1.size
  show Calls Tryz.prog 7 #[.agg (wv t s u us.length uc f fs.length fc a fa.length ac q se.length qc r oo.length rc), .int .i64 i, .int .i64 j] w _
  have cF := fun W' (h : Below W.heap.size W W') => implPairFault ⟨u, uc, f, fc, a, ac, q, qc, r, rc⟩ ⟨t, s, us, fs, fa, se, oo⟩ HN.out.o1 HN.out.o2 W' (HN.out.later h).arg i j
  replace cF : ∀ W', Below W.heap.size W W' → Calls Tryz.prog 27 #[.agg (wv t s u us.length uc f fs.length fc a fa.length ac q se.length qc r oo.length rc), .int .i64 i, .int .i64 j] W' fun e w' => e = .returned (.int .i64 (prF hasI ⟨t, s, us, fs, fa, se, oo⟩ i j)) ∧ Below W'.heap.size W' w' := cF
  have cN := fun (e : GdW hasI ⟨t, s, us, fs, fa, se, oo⟩) W' (h : Below W.heap.size W W') => newWorldState_c ⟨u, uc, f, fc, a, ac, q, qc, r, rc⟩ ⟨t, s, us, fs, fa, se, oo⟩ (Gd8 e.b).1 (Gd8 e.b).2 (Nat.le_of_eq e.a4) e.s6 e.o6 W' (HN.out.later h)
  replace cN : GdW hasI ⟨t, s, us, fs, fa, se, oo⟩ → ∀ W', Below W.heap.size W W' → Calls Tryz.prog 32 #[.agg (wv t s u us.length uc f fs.length fc a fa.length ac q se.length qc r oo.length rc)] W' fun e w' => ∃ g p', e = .returned (.pointer (some ⟨g, 0, none⟩)) ∧ WS w' W'.heap.size g p' ⟨t, s, us, fs, fa, se, oo⟩ ∧ Below W'.heap.size W' w' := cN
  have HC : Hid (accC hasI ⟨t, s, us, fs, fa, se, oo⟩ i j = if (prF hasI ⟨t, s, us, fs, fa, se, oo⟩ i j == 0) = false then prF hasI ⟨t, s, us, fs, fa, se, oo⟩ i j else if memO oo ⟨j, i⟩ = false then 4 else 0) := rfl
  have HX : Hid (accX hasI ⟨t, s, us, fs, fa, se, oo⟩ i j = if (accC hasI ⟨t, s, us, fs, fa, se, oo⟩ i j == 0) = true then ⟨t, s, us, fs, two orB fa i j, se, oo.filter (notP i j)⟩ else kz) := rfl
  have HP : Hid (prF hasI ⟨t, s, us, fs, fa, se, oo⟩ i j = 0 → wf hasI ⟨t, s, us, fs, fa, se, oo⟩ = 0 ∧ sdF fa i j = 0) := fun e => prF_zero.1 e
  have HG : Hid (wf hasI ⟨t, s, us, fs, fa, se, oo⟩ = 0 → GdW hasI ⟨t, s, us, fs, fa, se, oo⟩) := (gdW_iff hasI _).1
  generalize accC hasI ⟨t, s, us, fs, fa, se, oo⟩ i j = C at HC HX ⊢
  generalize accX hasI ⟨t, s, us, fs, fa, se, oo⟩ i j = X at HX ⊢
  generalize prF hasI ⟨t, s, us, fs, fa, se, oo⟩ i j = F at cF HC HP
  obtain ⟨mu, Hmu⟩ : ∃ m, Hid (us.length = m) := ⟨_, rfl⟩
  obtain ⟨mf, Hmf⟩ : ∃ m, Hid (fs.length = m) := ⟨_, rfl⟩
  obtain ⟨ma, Hma⟩ : ∃ m, Hid (fa.length = m) := ⟨_, rfl⟩
  obtain ⟨ms, Hms⟩ : ∃ m, Hid (se.length = m) := ⟨_, rfl⟩
  obtain ⟨mo, Hmo⟩ : ∃ m, Hid (oo.length = m) := ⟨_, rfl⟩
  rw [Hmu.out, Hmf.out, Hma.out, Hms.out, Hmo.out] at P HW cF cN ⊢
  clear h R
  have keep : ∀ w', Below W.heap.size W w' → w'.cell? ⟨w.heap.size, 0, none⟩ = some (.int .i64 t) ∧ w'.cell? ⟨w.heap.size, 1, none⟩ = some (.int .i64 s) ∧ w'.cell? ⟨w.heap.size, 2, none⟩ = some (.slice u mu uc) ∧ w'.cell? ⟨w.heap.size, 3, none⟩ = some (.slice f mf fc) ∧ w'.cell? ⟨w.heap.size, 4, none⟩ = some (.slice a ma ac) ∧ w'.cell? ⟨w.heap.size, 5, none⟩ = some (.slice q ms qc) ∧ w'.cell? ⟨w.heap.size, 6, none⟩ = some (.slice r mo rc) ∧ w.heap.size < w'.heap.size := fun w' hb => by
    have q := P.below hb
    exact ⟨q.cell rfl, q.cell rfl, q.cell rfl, q.cell rfl, q.cell rfl, q.cell rfl, q.cell rfl, q.lt⟩
  have Bc : Below W.heap.size W W := Below.refl _ _
  have HCC : Hid (C ≠ 0 → X = kz) := fun e => by rw [HX.out, if_neg (by simpa using e)]
  obtain ⟨p0, p1, p2, p3, p4, p5, p6, pl⟩ := keep _ Bc
  cases e2 : F == 0
  · have n7 : (F != 0) = true := by simp only [bne, e2]; rfl
    have HR1 : Hid (C = F ∧ X = kz) := by
      have e : C = F := by rw [HC.out, e2]; rfl
      exact ⟨e, HCC.out (by rw [e]; simpa using e2)⟩
    clear HC HX HP HG cN e2
    go_enter Tryz.func7, Tryz.ntmps7
    go_upto_region 1 with fail
    rw [← HW.out]
    go_wp2_with fail
    refine (cF _ Bc).mono ?_
    rintro e wn ⟨rfl, kn⟩
    have Bc := Bc.trans (kn.mono Bc.size)
    clear p0 p1 p2 p3 p4 p5 p6 pl
    have R1 := HR.out.below Bc
    obtain ⟨r0, r1, r2, r3, r4, r5, r6, r7, y0, y1, y2, y3, y4, y5, y6, y7, rl⟩ := R1.z8
    have Fz : Blk _ (w.heap.size + 1) (r8 F wpz kz) 36 := set8_blk R1 (.int .i64 F) (.int .i64 0) (.int .i64 0) (.slice none 0 0) (.slice none 0 0) (.slice none 0 0) (.slice none 0 0) (.slice none 0 0)
    have BE := set8_below (B1.trans (Bc.mono hB)) (show w.heap.size ≤ w.heap.size + 1 by omega) (.int .i64 F) (.int .i64 0) (.int .i64 0) (.slice none 0 0) (.slice none 0 0) (.slice none 0 0) (.slice none 0 0) (.slice none 0 0)
    clear R1
    go_wp2_with fail
    rw [HR1.out.1, HR1.out.2]
    exact bodyPost_ret (v := .agg (r8 F wpz kz)) (result8 Tryz.results7 Fz _ rfl) rfl ⟨wpz, rfl, OwW.z _ _, BE⟩
  obtain rfl : F = 0 := by simpa using e2
  replace HC : Hid (C = if memO oo ⟨j, i⟩ = false then 4 else 0) := HC
  obtain ⟨w0, s0⟩ := HP.out rfl
  have G := HG.out w0
  have cN := cN G
  obtain ⟨ia, ja, hij, gi, gj⟩ := sdF_zero.1 s0
  obtain ⟨i0, i3⟩ := inb_i ia
  obtain ⟨j0, j3⟩ := inb_i ja
  have h4 : ma = 4 := by rw [← Hma.out]; exact G.a4
  subst h4
  have Hij : Hid (i ≠ j) := hij
  have HGd : Hid (GdW hasI ⟨t, s, us, fs, fa, se, oo⟩) := G
  obtain ⟨y, hy, _, hya⟩ := side_at Hma.out i0 i3
  obtain ⟨z, hz, _, hza⟩ := side_at Hma.out j0 j3
  have Hy : Hid (fa[i.toNat]? = some y) := hy
  have Hz : Hid (fa[j.toNat]? = some z) := hz
  have Hya : Hid (allyA fa i = y.c2) := hya
  have Hza : Hid (allyA fa j = z.c2) := hza
  have ym : inb y.c2 0 15 = true := by rw [← hya]; exact (gd_fac G i0 i3).m
  have zm : inb z.c2 0 15 = true := by rw [← hza]; exact (gd_fac G j0 j3).m
  have keepY : ∀ w', Below W.heap.size W w' → ∃ b o, a = some ⟨b, o, none⟩ ∧ A1 w' b (o + i.toNat * 3) y := fun w' hb => by
    obtain ⟨b, o, hpa, hbl, hat⟩ := (HN.out.later hb).arg.a.atP Hy.out
    exact ⟨b, o, hpa, hat.one hbl Hy.out⟩
  have i4 : i < 4 := by omega
  have j4 : j < 4 := by omega
  clear HP HG w0 s0 ia ja gi gj hy hz hya hza hij G e2
  have hnd : oo.Nodup := oo_nodup HGd.out
  have hpw : oo.Pairwise (fun a b => b.b a = false) := by
    rw [List.nodup_iff_pairwise_ne] at hnd
    exact hnd.imp (fun h => K2.b_ne h.symm)
  have h6 : mo ≤ 6 := by have := HGd.out.o6; have := Hmo.out; dsimp only at *; omega
  have HGO : Hid (GoodO (entO 0 oo) mo) := by have := GoodO.ent (oo_nodup HGd.out); dsimp only at this; rw [Hmo.out] at this; exact this
  have cM := fun W' (h : Below W.heap.size W W') => offerPlaces_c r mo rc oo Hmo.out (by omega) hpw W' (HN.out.later h).arg.o
  have cP := fun w => pactOf_c i j w
  have cT := fun w => turned_c i j w
  have cF1 := fun w => offer_c j i j0 j3 i0 i3 w
  clear hnd hpw keepY
  go_enter Tryz.func7, Tryz.ntmps7
  go_upto_region 1 with fail
  rw [← HW.out]
  go_wp2_with fail
  refine (cF _ Bc).mono ?_
  rintro e wn ⟨rfl, kn⟩
  have Bc := Bc.trans (kn.mono Bc.size)
  clear p0 p1 p2 p3 p4 p5 p6 pl
  go_wp2_with fail
  refine (cP _).mono ?_
  rintro e w1 ⟨rfl, hw1⟩
  obtain rfl := hw1.symm
  obtain ⟨p0, p1, p2, p3, p4, p5, p6, pl⟩ := keep _ Bc
  go_wp2_with fail
  refine (cM _ Bc).mono ?_
  rintro e wm ⟨rfl, HM, km⟩
  have hmb : W.heap.size ≤ wn.heap.size := Bc.size
  have Bc := Bc.trans (km.mono Bc.size)
  obtain ⟨mb, Hmb⟩ : ∃ v, Hid (v = wn.heap.size) := ⟨_, rfl⟩
  rw [← Hmb.out] at HM hmb ⊢
  have hml := HM.lt
  clear p0 p1 p2 p3 p4 p5 p6 pl
  clear cM cP km
  have hlk0 := run_lookO (HM.alloc (.cells #[.int .i64 j, .int .i64 i] 49)) ⟨j, i⟩
  rw [found_mem] at hlk0
  have hlk := hlk0.trans (congrArg (fun v => Result.ok (Value.tuple #[v, .bool (memO oo ⟨j, i⟩)]) (wm.alloc (.cells #[.int .i64 j, .int .i64 i] 49))) (plcO_fnd ⟨j, i⟩ (entO 0 oo) 0))
  generalize plcO ⟨j, i⟩ (entO 0 oo) = PV at hlk
  clear hlk0
  have Bc := Bc.alloc Bc.size (.cells #[.int .i64 j, .int .i64 i] 49)
  have HM1 := HM.alloc (.cells #[.int .i64 j, .int .i64 i] 49)
  cases eb : memO oo ⟨j, i⟩
  · rw [eb] at hlk HC
    have HR1 : Hid (C = 4 ∧ X = kz) := by
      have e : C = 4 := HC.out
      exact ⟨e, HCC.out (by rw [e]; decide)⟩
    clear HM HM1
    go_wp2_with fail
    refine (cT _).mono ?_
    rintro e w1 ⟨rfl, hw1⟩
    obtain rfl := hw1.symm
    go_wp2_with fail
    refine (cF1 _).mono ?_
    rintro e w1 ⟨rfl, rfl⟩
    have R1 := HR.out.below Bc
    obtain ⟨r0, r1, r2, r3, r4, r5, r6, r7, y0, y1, y2, y3, y4, y5, y6, y7, rl⟩ := R1.z8
    have Fz : Blk _ (w.heap.size + 1) (r8 4 wpz kz) 36 := set8_blk R1 (.int .i64 4) (.int .i64 0) (.int .i64 0) (.slice none 0 0) (.slice none 0 0) (.slice none 0 0) (.slice none 0 0) (.slice none 0 0)
    have BE := set8_below (B1.trans (Bc.mono hB)) (show w.heap.size ≤ w.heap.size + 1 by omega) (.int .i64 4) (.int .i64 0) (.int .i64 0) (.slice none 0 0) (.slice none 0 0) (.slice none 0 0) (.slice none 0 0) (.slice none 0 0)
    clear R1
    go_wp2_with fail
    rw [HR1.out.1, HR1.out.2]
    exact bodyPost_ret (v := .agg (r8 4 wpz kz)) (result8 Tryz.results7 Fz _ rfl) rfl ⟨wpz, rfl, OwW.z _ _, BE⟩
  · rw [eb] at hlk HC
    have HR0 : Hid (C = 0) := HC.out
    have HR2' : Hid (X = ⟨t, s, us, fs, two orB fa i j, se, oo.filter (notP i j)⟩) := by show _ = _; rw [HX.out, HR0.out]; rfl
    go_wp2_with fail
    refine (cT _).mono ?_
    rintro e w1 ⟨rfl, hw1⟩
    obtain rfl := hw1.symm
    go_wp2_with fail
    refine (cF1 _).mono ?_
    rintro e w1 ⟨rfl, rfl⟩
    obtain ⟨p0, p1, p2, p3, p4, p5, p6, pl⟩ := keep _ Bc
    have hml1 := HM1.lt
    go_wp2_with fail
    refine (cN _ Bc).mono ?_
    rintro e w5 ⟨g, p5', rfl, hw5, k5⟩
    have hB5 := Bc.size
    have hmbase : mb < (wm.alloc (.cells #[.int .i64 j, .int .i64 i] 49)).heap.size := HM1.lt
    have HM1 := HM1.below k5
    have Bc := Bc.trans (k5.mono Bc.size)
    clear p0 p1 p2 p3 p4 p5 p6 pl
    clear hlk hml HM cT cF1
    obtain ⟨L1, HL1⟩ : ∃ v, Hid (v = entO 0 oo) := ⟨_, rfl⟩
    rw [← HL1.out] at HM1
    have HG1 : Hid (GoodO L1 mo) := by show GoodO _ _; rw [HL1.out]; exact HGO.out
    obtain ⟨pu9, uc9, pf9, fc9, pa9, ac9, ps9, sc9, po9, oc9⟩ := p5'
    obtain ⟨gz, hgz, hgb, _⟩ := hw5.o.a.blk0 (by dsimp only; rw [Hma.out]; omega)
    dsimp only at hgz
    subst hgz
    obtain ⟨ga, hga⟩ : ∃ v, v = gz := ⟨_, rfl⟩
    subst hga
    obtain ⟨base, Hbase⟩ : ∃ v, Hid (v = (wm.alloc (.cells #[.int .i64 j, .int .i64 i] 49)).heap.size) := ⟨_, rfl⟩
    rw [← Hbase.out] at hw5 hB5 hgb hmbase
    have cW := fun w => bothWays_c i j w
    go_wp2_with fail
    refine (cW _).mono ?_
    rintro e wq1 ⟨rfl, k6⟩
    have Hw1 : Hid (WS wq1 base g ⟨pu9, uc9, pf9, fc9, some ⟨ga, 0, none⟩, ac9, ps9, sc9, po9, oc9⟩ ⟨t, s, us, fs, fa, se, oo⟩) := hw5.later k6
    have Bc := Bc.trans (k6.mono Bc.size)
    have Hl1 : Hid (fa.length = 4) := Hma.out
    have HM := HM1.below k6
    clear hw5 k6 cW k5
    obtain ⟨FA1, HFA1⟩ : ∃ v, Hid (v = setC fa i (orB y.c2 j)) := ⟨_, rfl⟩
    obtain ⟨FA2, HFA2⟩ : ∃ v, Hid (v = setC FA1 j (orB z.c2 i)) := ⟨_, rfl⟩
    have Hl2 : Hid (FA1.length = 4) := by show _ = _; rw [HFA1.out, setC_len]; exact Hma.out
    have Hz1 : Hid (FA1[j.toNat]? = some z) := by show _ = _; rw [HFA1.out]; exact setC_at i0 j0 Hij.out Hz.out
    go_wp2_with fail
    refine wp_loop_rounds 3 ?_
    rw [rounds_succ]
    have hix : ∀ w, (Instr.index 61 (.agg #[pcv i j, pcv j i]) (.int .i64 0)).run Tryz.prog w = .ok (pcv i j) w := fun w => idx0 _ _ _ _ w
    have cS := fun w => speaker_c i j i0 i3 w
    have cO := fun w => other_c i j j0 j3 w
    obtain ⟨SH_, hsh⟩ : ∃ v, IntKind.i64.wrap (2 ^ j.toNat) = v := ⟨_, rfl⟩
    obtain ⟨RV_, hrv⟩ : ∃ v, bits BinOp.or IntKind.i64 y.c2 SH_ = v := ⟨_, rfl⟩
    have HRV : Hid (RV_ = orB y.c2 j) := by show _ = _; rw [← hrv, ← hsh]; exact (bitI_all ym j0 j3).1
    obtain ⟨gb, hgb', _, gbl, hatb, _, frz⟩ := Hw1.out.o.a.blk0 (by dsimp only; rw [Hl1.out]; omega)
    injection hgb' with hgb'
    injection hgb' with hgb'
    subst hgb'
    have cx := (hatb.one gbl Hy.out).3
    rw [Nat.zero_add] at cx
    have fz := frz (i.toNat * 3 + 2)
    have g4 : wq1.cell? ⟨g, 4, none⟩ = some (.slice (some ⟨ga, 0, none⟩) 4 ac9) := by have := Hw1.out.b.cell (i := 4) rfl; dsimp only at this; rw [Hl1.out] at this; exact this
    have gl := Hw1.out.b.lt
    have Hst : Hid (WS ((wq1.drew).setCell ⟨ga, i.toNat * 3 + 2, none⟩ (.int .i64 RV_)) base g ⟨pu9, uc9, pf9, fc9, some ⟨ga, 0, none⟩, ac9, ps9, sc9, po9, oc9⟩ ⟨t, s, us, fs, FA1, se, oo⟩) := Hw1.out.drew.setA rfl (i.toNat * 3 + 2) (.int .i64 RV_) FA1 (by dsimp only; rw [Hl1.out]; omega) (by rw [setC_flat Hy.out, HRV.out, HFA1.out])
    have BcN : Below W.heap.size W ((wq1.drew).setCell ⟨ga, i.toNat * 3 + 2, none⟩ (.int .i64 RV_)) := bel_set Bc.drew ga _ (by omega) _
    clear hatb frz
    have HMN : MapO ((wq1.drew).setCell ⟨ga, i.toNat * 3 + 2, none⟩ (.int .i64 RV_)) mb L1 mo := MapO.setCell (w := wq1.drew) HM (by show mb ≠ ga; omega) _
    go_upto_region 13 with fail
    obtain ⟨VV, HVV⟩ : ∃ V : List Value, Hid (V = [.pointer (some ⟨g, 0, none⟩), .pointer (some ⟨g, 0, none⟩), .pointer (some ⟨g, 4, none⟩), .slice (some ⟨ga, 0, none⟩) 4 ac9, pcv i j, .int .i64 i, .pointer (some ⟨ga, i.toNat * 3, none⟩), .pointer (some ⟨ga, i.toNat * 3 + 2, none⟩), .int .i64 y.c2, pcv i j, .int .i64 j, .int .i64 SH_, .int .i64 RV_, .pointer (some ⟨ga, i.toNat * 3, none⟩), .pointer (some ⟨ga, i.toNat * 3 + 2, none⟩)]) := ⟨_, rfl⟩
    refine wp_region_slots (by kernel_rfl) 47 (fun d xs W => (∃ x47 x48 x49 x50 x51 x52 x53 x54 x55 x56 x57 x58 x59 x60 x61 : Value, xs = [x47, x48, x49, x50, x51, x52, x53, x54, x55, x56, x57, x58, x59, x60, x61] ∧ SlotsM [0, 1, 2, 3, 4, 5, 6, 7, 8, 9, 10, 11, 12, 13, 14] VV d xs) ∧ ((d 15 = false → W = wq1.drew) ∧ (d 15 = true → W = (wq1.drew).setCell ⟨ga, i.toNat * 3 + 2, none⟩ (.int .i64 RV_)))) (by kernel_rfl) [_, _, _, _, _, _, _, _, _, _, _, _, _, _, _] rfl ?_ ?_ ?_
    · exact ⟨⟨_, _, _, _, _, _, _, _, _, _, _, _, _, _, _, rfl, SlotsM.start (by rw [HVV.out]; rfl)⟩, ⟨fun _ => rfl, fun h => by cases h⟩⟩
    · rintro d xs Wx i K hi hd hdep hcl ⟨⟨x47, x48, x49, x50, x51, x52, x53, x54, x55, x56, x57, x58, x59, x60, x61, rfl, J⟩, J2⟩ hK
      have hi' : i < 16 := hi
      have hdp : ∀ j, (depsOf _ i).contains j = true → d j = true := fun j hj => hdep j (by simpa using hj)
      clear hi hdep
      have h18 : i = 0 ∨ i = 1 ∨ i = 2 ∨ i = 3 ∨ i = 4 ∨ i = 5 ∨ i = 6 ∨ i = 7 ∨ i = 8 ∨ i = 9 ∨ i = 10 ∨ i = 11 ∨ i = 12 ∨ i = 13 ∨ i = 14 ∨ i = 15 := by omega
      rcases h18 with rfl | rfl | rfl | rfl | rfl | rfl | rfl | rfl | rfl | rfl | rfl | rfl | rfl | rfl | rfl | rfl
      · obtain rfl := J2.1 (hcl.no 16 hd (by kernel_rfl))
        refine wpOp_of rfl rfl ?_
        dsimp only [win, List.take_succ_cons, List.take_zero, List.drop_succ_cons, List.drop_zero, List.cons_append, List.nil_append, List.length_cons, List.length_nil, Nat.reduceAdd]
        go_simp
        exact hK [(.pointer (some ⟨g, 0, none⟩)), (x48), (x49), (x50), (x51), (x52), (x53), (x54), (x55), (x56), (x57), (x58), (x59), (x60), (x61)] _ ⟨⟨_, _, _, _, _, _, _, _, _, _, _, _, _, _, _, rfl, J.set (v := .pointer (some ⟨g, 0, none⟩)) 0 (i := 0) (by decide) rfl (by rw [HVV.out]; rfl)⟩, ⟨fun _ => rfl, fun h => by have := hcl.no 16 hd (i := 15) (by kernel_rfl); exact absurd h (by show ¬ (upd d 0 15) = true; simp [upd, this])⟩⟩
      · obtain rfl := J2.1 (hcl.no 16 hd (by kernel_rfl))
        obtain rfl : x47 = .pointer (some ⟨g, 0, none⟩) := J.get 0 (i := 0) rfl (hdp 0 (by kernel_rfl)) (by rw [HVV.out]; rfl) rfl
        refine wpOp_of rfl rfl ?_
        dsimp only [win, List.take_succ_cons, List.take_zero, List.drop_succ_cons, List.drop_zero, List.cons_append, List.nil_append, List.length_cons, List.length_nil, Nat.reduceAdd]
        go_simp
        exact hK [(.pointer (some ⟨g, 0, none⟩)), (.pointer (some ⟨g, 0, none⟩)), (x49), (x50), (x51), (x52), (x53), (x54), (x55), (x56), (x57), (x58), (x59), (x60), (x61)] _ ⟨⟨_, _, _, _, _, _, _, _, _, _, _, _, _, _, _, rfl, J.set (v := .pointer (some ⟨g, 0, none⟩)) 1 (i := 1) (by decide) rfl (by rw [HVV.out]; rfl)⟩, ⟨fun _ => rfl, fun h => by have := hcl.no 16 hd (i := 15) (by kernel_rfl); exact absurd h (by show ¬ (upd d 1 15) = true; simp [upd, this])⟩⟩
      · obtain rfl := J2.1 (hcl.no 16 hd (by kernel_rfl))
        obtain rfl : x48 = .pointer (some ⟨g, 0, none⟩) := J.get 1 (i := 1) rfl (hdp 1 (by kernel_rfl)) (by rw [HVV.out]; rfl) rfl
        refine wpOp_of rfl rfl ?_
        dsimp only [win, List.take_succ_cons, List.take_zero, List.drop_succ_cons, List.drop_zero, List.cons_append, List.nil_append, List.length_cons, List.length_nil, Nat.reduceAdd]
        go_simp
        exact hK [(x47), (.pointer (some ⟨g, 0, none⟩)), (.pointer (some ⟨g, 4, none⟩)), (x50), (x51), (x52), (x53), (x54), (x55), (x56), (x57), (x58), (x59), (x60), (x61)] _ ⟨⟨_, _, _, _, _, _, _, _, _, _, _, _, _, _, _, rfl, J.set (v := .pointer (some ⟨g, 4, none⟩)) 2 (i := 2) (by decide) rfl (by rw [HVV.out]; rfl)⟩, ⟨fun _ => rfl, fun h => by have := hcl.no 16 hd (i := 15) (by kernel_rfl); exact absurd h (by show ¬ (upd d 2 15) = true; simp [upd, this])⟩⟩
      · obtain rfl := J2.1 (hcl.no 16 hd (by kernel_rfl))
        obtain rfl : x49 = .pointer (some ⟨g, 4, none⟩) := J.get 2 (i := 2) rfl (hdp 2 (by kernel_rfl)) (by rw [HVV.out]; rfl) rfl
        refine wpOp_of rfl rfl ?_
        dsimp only [win, List.take_succ_cons, List.take_zero, List.drop_succ_cons, List.drop_zero, List.cons_append, List.nil_append, List.length_cons, List.length_nil, Nat.reduceAdd]
        go_simp
        exact hK [(x47), (x48), (.pointer (some ⟨g, 4, none⟩)), (.slice (some ⟨ga, 0, none⟩) 4 ac9), (x51), (x52), (x53), (x54), (x55), (x56), (x57), (x58), (x59), (x60), (x61)] _ ⟨⟨_, _, _, _, _, _, _, _, _, _, _, _, _, _, _, rfl, J.set (v := .slice (some ⟨ga, 0, none⟩) 4 ac9) 3 (i := 3) (by decide) rfl (by rw [HVV.out]; rfl)⟩, ⟨fun _ => rfl, fun h => by have := hcl.no 16 hd (i := 15) (by kernel_rfl); exact absurd h (by show ¬ (upd d 3 15) = true; simp [upd, this])⟩⟩
      · obtain rfl := J2.1 (hcl.no 16 hd (by kernel_rfl))
        refine wpOp_of rfl rfl ?_
        dsimp only [win, List.take_succ_cons, List.take_zero, List.drop_succ_cons, List.drop_zero, List.cons_append, List.nil_append, List.length_cons, List.length_nil, Nat.reduceAdd]
        go_simp
        exact hK [(x47), (x48), (x49), (x50), (pcv i j), (x52), (x53), (x54), (x55), (x56), (x57), (x58), (x59), (x60), (x61)] _ ⟨⟨_, _, _, _, _, _, _, _, _, _, _, _, _, _, _, rfl, J.set (v := pcv i j) 4 (i := 4) (by decide) rfl (by rw [HVV.out]; rfl)⟩, ⟨fun _ => rfl, fun h => by have := hcl.no 16 hd (i := 15) (by kernel_rfl); exact absurd h (by show ¬ (upd d 4 15) = true; simp [upd, this])⟩⟩
      · obtain rfl := J2.1 (hcl.no 16 hd (by kernel_rfl))
        obtain rfl : x51 = pcv i j := J.get 4 (i := 4) rfl (hdp 4 (by kernel_rfl)) (by rw [HVV.out]; rfl) rfl
        refine wpOp_of rfl rfl ?_
        dsimp only [win, List.take_succ_cons, List.take_zero, List.drop_succ_cons, List.drop_zero, List.cons_append, List.nil_append, List.length_cons, List.length_nil, Nat.reduceAdd]
        refine call_wp 34 #[pcv i j] (by kernel_rfl) _ (cS _) ?_
        rintro e w' ⟨rfl, rfl⟩
        refine ⟨_, rfl, ?_⟩
        exact hK [(x47), (x48), (x49), (x50), (pcv i j), (.int .i64 i), (x53), (x54), (x55), (x56), (x57), (x58), (x59), (x60), (x61)] _ ⟨⟨_, _, _, _, _, _, _, _, _, _, _, _, _, _, _, rfl, J.set (v := .int .i64 i) 5 (i := 5) (by decide) rfl (by rw [HVV.out]; rfl)⟩, ⟨fun _ => rfl, fun h => by have := hcl.no 16 hd (i := 15) (by kernel_rfl); exact absurd h (by show ¬ (upd d 5 15) = true; simp [upd, this])⟩⟩
      · obtain rfl := J2.1 (hcl.no 16 hd (by kernel_rfl))
        obtain rfl : x50 = .slice (some ⟨ga, 0, none⟩) 4 ac9 := J.get 3 (i := 3) rfl (hdp 3 (by kernel_rfl)) (by rw [HVV.out]; rfl) rfl
        obtain rfl : x52 = .int .i64 i := J.get 5 (i := 5) rfl (hdp 5 (by kernel_rfl)) (by rw [HVV.out]; rfl) rfl
        refine wpOp_of rfl rfl ?_
        dsimp only [win, List.take_succ_cons, List.take_zero, List.drop_succ_cons, List.drop_zero, List.cons_append, List.nil_append, List.length_cons, List.length_nil, Nat.reduceAdd]
        go_simp
        exact hK [(x47), (x48), (x49), (.slice (some ⟨ga, 0, none⟩) 4 ac9), (x51), (.int .i64 i), (.pointer (some ⟨ga, i.toNat * 3, none⟩)), (x54), (x55), (x56), (x57), (x58), (x59), (x60), (x61)] _ ⟨⟨_, _, _, _, _, _, _, _, _, _, _, _, _, _, _, rfl, J.set (v := .pointer (some ⟨ga, i.toNat * 3, none⟩)) 6 (i := 6) (by decide) rfl (by rw [HVV.out]; rfl)⟩, ⟨fun _ => rfl, fun h => by have := hcl.no 16 hd (i := 15) (by kernel_rfl); exact absurd h (by show ¬ (upd d 6 15) = true; simp [upd, this])⟩⟩
      · obtain rfl := J2.1 (hcl.no 16 hd (by kernel_rfl))
        obtain rfl : x53 = .pointer (some ⟨ga, i.toNat * 3, none⟩) := J.get 6 (i := 6) rfl (hdp 6 (by kernel_rfl)) (by rw [HVV.out]; rfl) rfl
        refine wpOp_of rfl rfl ?_
        dsimp only [win, List.take_succ_cons, List.take_zero, List.drop_succ_cons, List.drop_zero, List.cons_append, List.nil_append, List.length_cons, List.length_nil, Nat.reduceAdd]
        go_simp
        exact hK [(x47), (x48), (x49), (x50), (x51), (x52), (.pointer (some ⟨ga, i.toNat * 3, none⟩)), (.pointer (some ⟨ga, i.toNat * 3 + 2, none⟩)), (x55), (x56), (x57), (x58), (x59), (x60), (x61)] _ ⟨⟨_, _, _, _, _, _, _, _, _, _, _, _, _, _, _, rfl, J.set (v := .pointer (some ⟨ga, i.toNat * 3 + 2, none⟩)) 7 (i := 7) (by decide) rfl (by rw [HVV.out]; rfl)⟩, ⟨fun _ => rfl, fun h => by have := hcl.no 16 hd (i := 15) (by kernel_rfl); exact absurd h (by show ¬ (upd d 7 15) = true; simp [upd, this])⟩⟩
      · obtain rfl := J2.1 (hcl.no 16 hd (by kernel_rfl))
        obtain rfl : x54 = .pointer (some ⟨ga, i.toNat * 3 + 2, none⟩) := J.get 7 (i := 7) rfl (hdp 7 (by kernel_rfl)) (by rw [HVV.out]; rfl) rfl
        refine wpOp_of rfl rfl ?_
        dsimp only [win, List.take_succ_cons, List.take_zero, List.drop_succ_cons, List.drop_zero, List.cons_append, List.nil_append, List.length_cons, List.length_nil, Nat.reduceAdd]
        go_simp
        exact hK [(x47), (x48), (x49), (x50), (x51), (x52), (x53), (.pointer (some ⟨ga, i.toNat * 3 + 2, none⟩)), (.int .i64 y.c2), (x56), (x57), (x58), (x59), (x60), (x61)] _ ⟨⟨_, _, _, _, _, _, _, _, _, _, _, _, _, _, _, rfl, J.set (v := .int .i64 y.c2) 8 (i := 8) (by decide) rfl (by rw [HVV.out]; rfl)⟩, ⟨fun _ => rfl, fun h => by have := hcl.no 16 hd (i := 15) (by kernel_rfl); exact absurd h (by show ¬ (upd d 8 15) = true; simp [upd, this])⟩⟩
      · obtain rfl := J2.1 (hcl.no 16 hd (by kernel_rfl))
        refine wpOp_of rfl rfl ?_
        dsimp only [win, List.take_succ_cons, List.take_zero, List.drop_succ_cons, List.drop_zero, List.cons_append, List.nil_append, List.length_cons, List.length_nil, Nat.reduceAdd]
        go_simp
        exact hK [(x47), (x48), (x49), (x50), (x51), (x52), (x53), (x54), (x55), (pcv i j), (x57), (x58), (x59), (x60), (x61)] _ ⟨⟨_, _, _, _, _, _, _, _, _, _, _, _, _, _, _, rfl, J.set (v := pcv i j) 9 (i := 9) (by decide) rfl (by rw [HVV.out]; rfl)⟩, ⟨fun _ => rfl, fun h => by have := hcl.no 16 hd (i := 15) (by kernel_rfl); exact absurd h (by show ¬ (upd d 9 15) = true; simp [upd, this])⟩⟩
      · obtain rfl := J2.1 (hcl.no 16 hd (by kernel_rfl))
        obtain rfl : x56 = pcv i j := J.get 9 (i := 9) rfl (hdp 9 (by kernel_rfl)) (by rw [HVV.out]; rfl) rfl
        refine wpOp_of rfl rfl ?_
        dsimp only [win, List.take_succ_cons, List.take_zero, List.drop_succ_cons, List.drop_zero, List.cons_append, List.nil_append, List.length_cons, List.length_nil, Nat.reduceAdd]
        refine call_wp 35 #[pcv i j] (by kernel_rfl) _ (cO _) ?_
        rintro e w' ⟨rfl, rfl⟩
        refine ⟨_, rfl, ?_⟩
        exact hK [(x47), (x48), (x49), (x50), (x51), (x52), (x53), (x54), (x55), (pcv i j), (.int .i64 j), (x58), (x59), (x60), (x61)] _ ⟨⟨_, _, _, _, _, _, _, _, _, _, _, _, _, _, _, rfl, J.set (v := .int .i64 j) 10 (i := 10) (by decide) rfl (by rw [HVV.out]; rfl)⟩, ⟨fun _ => rfl, fun h => by have := hcl.no 16 hd (i := 15) (by kernel_rfl); exact absurd h (by show ¬ (upd d 10 15) = true; simp [upd, this])⟩⟩
      · obtain rfl := J2.1 (hcl.no 16 hd (by kernel_rfl))
        obtain rfl : x57 = .int .i64 j := J.get 10 (i := 10) rfl (hdp 10 (by kernel_rfl)) (by rw [HVV.out]; rfl) rfl
        refine wpOp_of rfl rfl ?_
        dsimp only [win, List.take_succ_cons, List.take_zero, List.drop_succ_cons, List.drop_zero, List.cons_append, List.nil_append, List.length_cons, List.length_nil, Nat.reduceAdd]
        go_simp
        exact hK [(x47), (x48), (x49), (x50), (x51), (x52), (x53), (x54), (x55), (x56), (.int .i64 j), (.int .i64 SH_), (x59), (x60), (x61)] _ ⟨⟨_, _, _, _, _, _, _, _, _, _, _, _, _, _, _, rfl, J.set (v := .int .i64 SH_) 11 (i := 11) (by decide) rfl (by rw [HVV.out]; rfl)⟩, ⟨fun _ => rfl, fun h => by have := hcl.no 16 hd (i := 15) (by kernel_rfl); exact absurd h (by show ¬ (upd d 11 15) = true; simp [upd, this])⟩⟩
      · obtain rfl := J2.1 (hcl.no 16 hd (by kernel_rfl))
        obtain rfl : x55 = .int .i64 y.c2 := J.get 8 (i := 8) rfl (hdp 8 (by kernel_rfl)) (by rw [HVV.out]; rfl) rfl
        obtain rfl : x58 = .int .i64 SH_ := J.get 11 (i := 11) rfl (hdp 11 (by kernel_rfl)) (by rw [HVV.out]; rfl) rfl
        refine wpOp_of rfl rfl ?_
        dsimp only [win, List.take_succ_cons, List.take_zero, List.drop_succ_cons, List.drop_zero, List.cons_append, List.nil_append, List.length_cons, List.length_nil, Nat.reduceAdd]
        go_simp
        exact hK [(x47), (x48), (x49), (x50), (x51), (x52), (x53), (x54), (.int .i64 y.c2), (x56), (x57), (.int .i64 SH_), (.int .i64 RV_), (x60), (x61)] _ ⟨⟨_, _, _, _, _, _, _, _, _, _, _, _, _, _, _, rfl, J.set (v := .int .i64 RV_) 12 (i := 12) (by decide) rfl (by rw [HVV.out]; rfl)⟩, ⟨fun _ => rfl, fun h => by have := hcl.no 16 hd (i := 15) (by kernel_rfl); exact absurd h (by show ¬ (upd d 12 15) = true; simp [upd, this])⟩⟩
      · obtain rfl := J2.1 (hcl.no 16 hd (by kernel_rfl))
        obtain rfl : x50 = .slice (some ⟨ga, 0, none⟩) 4 ac9 := J.get 3 (i := 3) rfl (hdp 3 (by kernel_rfl)) (by rw [HVV.out]; rfl) rfl
        obtain rfl : x52 = .int .i64 i := J.get 5 (i := 5) rfl (hdp 5 (by kernel_rfl)) (by rw [HVV.out]; rfl) rfl
        refine wpOp_of rfl rfl ?_
        dsimp only [win, List.take_succ_cons, List.take_zero, List.drop_succ_cons, List.drop_zero, List.cons_append, List.nil_append, List.length_cons, List.length_nil, Nat.reduceAdd]
        go_simp
        exact hK [(x47), (x48), (x49), (.slice (some ⟨ga, 0, none⟩) 4 ac9), (x51), (.int .i64 i), (x53), (x54), (x55), (x56), (x57), (x58), (x59), (.pointer (some ⟨ga, i.toNat * 3, none⟩)), (x61)] _ ⟨⟨_, _, _, _, _, _, _, _, _, _, _, _, _, _, _, rfl, J.set (v := .pointer (some ⟨ga, i.toNat * 3, none⟩)) 13 (i := 13) (by decide) rfl (by rw [HVV.out]; rfl)⟩, ⟨fun _ => rfl, fun h => by have := hcl.no 16 hd (i := 15) (by kernel_rfl); exact absurd h (by show ¬ (upd d 13 15) = true; simp [upd, this])⟩⟩
      · obtain rfl := J2.1 (hcl.no 16 hd (by kernel_rfl))
        obtain rfl : x60 = .pointer (some ⟨ga, i.toNat * 3, none⟩) := J.get 13 (i := 13) rfl (hdp 13 (by kernel_rfl)) (by rw [HVV.out]; rfl) rfl
        refine wpOp_of rfl rfl ?_
        dsimp only [win, List.take_succ_cons, List.take_zero, List.drop_succ_cons, List.drop_zero, List.cons_append, List.nil_append, List.length_cons, List.length_nil, Nat.reduceAdd]
        go_simp
        exact hK [(x47), (x48), (x49), (x50), (x51), (x52), (x53), (x54), (x55), (x56), (x57), (x58), (x59), (.pointer (some ⟨ga, i.toNat * 3, none⟩)), (.pointer (some ⟨ga, i.toNat * 3 + 2, none⟩))] _ ⟨⟨_, _, _, _, _, _, _, _, _, _, _, _, _, _, _, rfl, J.set (v := .pointer (some ⟨ga, i.toNat * 3 + 2, none⟩)) 14 (i := 14) (by decide) rfl (by rw [HVV.out]; rfl)⟩, ⟨fun _ => rfl, fun h => by have := hcl.no 16 hd (i := 15) (by kernel_rfl); exact absurd h (by show ¬ (upd d 14 15) = true; simp [upd, this])⟩⟩
      · obtain rfl := J2.1 hd
        obtain rfl : x61 = .pointer (some ⟨ga, i.toNat * 3 + 2, none⟩) := J.get 14 (i := 14) rfl (hdp 14 (by kernel_rfl)) (by rw [HVV.out]; rfl) rfl
        obtain rfl : x59 = .int .i64 RV_ := J.get 12 (i := 12) rfl (hdp 12 (by kernel_rfl)) (by rw [HVV.out]; rfl) rfl
        refine wpOp_of rfl rfl ?_
        dsimp only [win, List.take_succ_cons, List.take_zero, List.drop_succ_cons, List.drop_zero, List.cons_append, List.nil_append, List.length_cons, List.length_nil, Nat.reduceAdd]
        go_simp
        exact hK [(x47), (x48), (x49), (x50), (x51), (x52), (x53), (x54), (x55), (x56), (x57), (x58), (.int .i64 RV_), (x60), (.pointer (some ⟨ga, i.toNat * 3 + 2, none⟩))] _ ⟨⟨_, _, _, _, _, _, _, _, _, _, _, _, _, _, _, rfl, J.none 15 (by decide)⟩, ⟨fun h => by simp [upd] at h, fun _ => rfl⟩⟩
    · rintro d xs Wx hall ⟨⟨x47, x48, x49, x50, x51, x52, x53, x54, x55, x56, x57, x58, x59, x60, x61, rfl, J⟩, J2⟩
      obtain rfl := J2.2 (hall 15 (by decide))
      clear J J2 hall
      dsimp only [win, List.take_succ_cons, List.take_zero, List.drop_succ_cons, List.drop_zero, List.cons_append, List.nil_append, List.length_cons, List.length_nil, Nat.reduceAdd]
      clear cx fz g4 gl cS cO hsh hrv HRV Hw1 Bc hix
      have Hw2 := Hst
      have Bc := BcN
      clear Hst BcN
      clear HM
      generalize (wq1.drew).setCell ⟨ga, i.toNat * 3 + 2, none⟩ (.int .i64 RV_) = wx2 at Hw2 Bc HMN ⊢
      have cF2 := fun w => offer_c i j i0 i3 j0 j3 w
      have HML := HMN.alloc (.cells #[.int .i64 i, .int .i64 j] 49)
      have hdl := fun ty => run_delO' HML ⟨i, j⟩ ty HG1.out
      obtain ⟨L2, HL2⟩ : ∃ v, Hid (v = L1.filter (kx ⟨i, j⟩)) := ⟨_, rfl⟩
      have HG2 : Hid (GoodO L2 mo) := by show GoodO _ _; rw [HL2.out]; exact HG1.out.filter _
      rw [← HL2.out] at hdl
      have hml := HML.lt
      have HMP := HML.putSame L2 mo
      have Hw2 := (Hw2.later ((Below.refl _ _).alloc (Nat.le_refl _) (.cells #[.int .i64 i, .int .i64 j] 49))).putObj hmbase (.map (L2.map EO.m).toArray mo)
      have Bc := (Bc.alloc Bc.size (.cells #[.int .i64 i, .int .i64 j] 49)).trans (below_putObj (o := .map (L2.map EO.m).toArray mo) hmb)
      clear HMN HML
      go_wp2_with fail
      refine (cF2 _).mono ?_
      rintro e w1 ⟨rfl, rfl⟩
      obtain ⟨wq2, Hwq2⟩ : ∃ v, Hid (v = (wx2.alloc (.cells #[.int .i64 i, .int .i64 j] 49)).putObj mb (.map (L2.map EO.m).toArray mo)) := ⟨_, rfl⟩
      rw [← Hwq2.out] at hdl Hw2 Bc HMP
      have Hw2 := (show Hid (WS wq2 base g ⟨pu9, uc9, pf9, fc9, some ⟨ga, 0, none⟩, ac9, ps9, sc9, po9, oc9⟩ ⟨t, s, us, fs, FA1, se, oo⟩) from Hw2)
      have HM := HMP
      clear cF2 HMP
      go_wp2_with fail
      try rw [← Hwq2.out]
      rw [rounds_succ]
      have hix : ∀ w, (Instr.index 61 (.agg #[pcv i j, pcv j i]) (.int .i64 1)).run Tryz.prog w = .ok (pcv j i) w := fun w => idx1 _ _ _ _ w
      have cS := fun w => speaker_c j i j0 j3 w
      have cO := fun w => other_c j i i0 i3 w
      obtain ⟨SH_, hsh⟩ : ∃ v, IntKind.i64.wrap (2 ^ i.toNat) = v := ⟨_, rfl⟩
      obtain ⟨RV_, hrv⟩ : ∃ v, bits BinOp.or IntKind.i64 z.c2 SH_ = v := ⟨_, rfl⟩
      have HRV : Hid (RV_ = orB z.c2 i) := by show _ = _; rw [← hrv, ← hsh]; exact (bitI_all zm i0 i3).1
      obtain ⟨gb, hgb', _, gbl, hatb, _, frz⟩ := Hw2.out.o.a.blk0 (by dsimp only; rw [Hl2.out]; omega)
      injection hgb' with hgb'
      injection hgb' with hgb'
      subst hgb'
      have cx := (hatb.one gbl Hz1.out).3
      rw [Nat.zero_add] at cx
      have fz := frz (j.toNat * 3 + 2)
      have g4 : wq2.cell? ⟨g, 4, none⟩ = some (.slice (some ⟨ga, 0, none⟩) 4 ac9) := by have := Hw2.out.b.cell (i := 4) rfl; dsimp only at this; rw [Hl2.out] at this; exact this
      have gl := Hw2.out.b.lt
      have Hst : Hid (WS ((wq2.drew).setCell ⟨ga, j.toNat * 3 + 2, none⟩ (.int .i64 RV_)) base g ⟨pu9, uc9, pf9, fc9, some ⟨ga, 0, none⟩, ac9, ps9, sc9, po9, oc9⟩ ⟨t, s, us, fs, FA2, se, oo⟩) := Hw2.out.drew.setA rfl (j.toNat * 3 + 2) (.int .i64 RV_) FA2 (by dsimp only; rw [Hl2.out]; omega) (by rw [setC_flat Hz1.out, HRV.out, HFA2.out])
      have BcN : Below W.heap.size W ((wq2.drew).setCell ⟨ga, j.toNat * 3 + 2, none⟩ (.int .i64 RV_)) := bel_set Bc.drew ga _ (by omega) _
      clear hatb frz
      have HMN : MapO ((wq2.drew).setCell ⟨ga, j.toNat * 3 + 2, none⟩ (.int .i64 RV_)) mb L2 mo := MapO.setCell (w := wq2.drew) HM (by show mb ≠ ga; omega) _
      go_upto_region 13 with fail
      obtain ⟨VV, HVV⟩ : ∃ V : List Value, Hid (V = [.pointer (some ⟨g, 0, none⟩), .pointer (some ⟨g, 0, none⟩), .pointer (some ⟨g, 4, none⟩), .slice (some ⟨ga, 0, none⟩) 4 ac9, pcv j i, .int .i64 j, .pointer (some ⟨ga, j.toNat * 3, none⟩), .pointer (some ⟨ga, j.toNat * 3 + 2, none⟩), .int .i64 z.c2, pcv j i, .int .i64 i, .int .i64 SH_, .int .i64 RV_, .pointer (some ⟨ga, j.toNat * 3, none⟩), .pointer (some ⟨ga, j.toNat * 3 + 2, none⟩)]) := ⟨_, rfl⟩
      refine wp_region_slots (by kernel_rfl) 47 (fun d xs W => (∃ x47 x48 x49 x50 x51 x52 x53 x54 x55 x56 x57 x58 x59 x60 x61 : Value, xs = [x47, x48, x49, x50, x51, x52, x53, x54, x55, x56, x57, x58, x59, x60, x61] ∧ SlotsM [0, 1, 2, 3, 4, 5, 6, 7, 8, 9, 10, 11, 12, 13, 14] VV d xs) ∧ ((d 15 = false → W = wq2.drew) ∧ (d 15 = true → W = (wq2.drew).setCell ⟨ga, j.toNat * 3 + 2, none⟩ (.int .i64 RV_)))) (by kernel_rfl) [_, _, _, _, _, _, _, _, _, _, _, _, _, _, _] rfl ?_ ?_ ?_
      · exact ⟨⟨_, _, _, _, _, _, _, _, _, _, _, _, _, _, _, rfl, SlotsM.start (by rw [HVV.out]; rfl)⟩, ⟨fun _ => rfl, fun h => by cases h⟩⟩
      · rintro d xs Wx i K hi hd hdep hcl ⟨⟨x47, x48, x49, x50, x51, x52, x53, x54, x55, x56, x57, x58, x59, x60, x61, rfl, J⟩, J2⟩ hK
        have hi' : i < 16 := hi
        have hdp : ∀ j, (depsOf _ i).contains j = true → d j = true := fun j hj => hdep j (by simpa using hj)
        clear hi hdep
        have h18 : i = 0 ∨ i = 1 ∨ i = 2 ∨ i = 3 ∨ i = 4 ∨ i = 5 ∨ i = 6 ∨ i = 7 ∨ i = 8 ∨ i = 9 ∨ i = 10 ∨ i = 11 ∨ i = 12 ∨ i = 13 ∨ i = 14 ∨ i = 15 := by omega
        rcases h18 with rfl | rfl | rfl | rfl | rfl | rfl | rfl | rfl | rfl | rfl | rfl | rfl | rfl | rfl | rfl | rfl
        · obtain rfl := J2.1 (hcl.no 16 hd (by kernel_rfl))
          refine wpOp_of rfl rfl ?_
          dsimp only [win, List.take_succ_cons, List.take_zero, List.drop_succ_cons, List.drop_zero, List.cons_append, List.nil_append, List.length_cons, List.length_nil, Nat.reduceAdd]
          go_simp
          exact hK [(.pointer (some ⟨g, 0, none⟩)), (x48), (x49), (x50), (x51), (x52), (x53), (x54), (x55), (x56), (x57), (x58), (x59), (x60), (x61)] _ ⟨⟨_, _, _, _, _, _, _, _, _, _, _, _, _, _, _, rfl, J.set (v := .pointer (some ⟨g, 0, none⟩)) 0 (i := 0) (by decide) rfl (by rw [HVV.out]; rfl)⟩, ⟨fun _ => rfl, fun h => by have := hcl.no 16 hd (i := 15) (by kernel_rfl); exact absurd h (by show ¬ (upd d 0 15) = true; simp [upd, this])⟩⟩
        · obtain rfl := J2.1 (hcl.no 16 hd (by kernel_rfl))
          obtain rfl : x47 = .pointer (some ⟨g, 0, none⟩) := J.get 0 (i := 0) rfl (hdp 0 (by kernel_rfl)) (by rw [HVV.out]; rfl) rfl
          refine wpOp_of rfl rfl ?_
          dsimp only [win, List.take_succ_cons, List.take_zero, List.drop_succ_cons, List.drop_zero, List.cons_append, List.nil_append, List.length_cons, List.length_nil, Nat.reduceAdd]
          go_simp
          exact hK [(.pointer (some ⟨g, 0, none⟩)), (.pointer (some ⟨g, 0, none⟩)), (x49), (x50), (x51), (x52), (x53), (x54), (x55), (x56), (x57), (x58), (x59), (x60), (x61)] _ ⟨⟨_, _, _, _, _, _, _, _, _, _, _, _, _, _, _, rfl, J.set (v := .pointer (some ⟨g, 0, none⟩)) 1 (i := 1) (by decide) rfl (by rw [HVV.out]; rfl)⟩, ⟨fun _ => rfl, fun h => by have := hcl.no 16 hd (i := 15) (by kernel_rfl); exact absurd h (by show ¬ (upd d 1 15) = true; simp [upd, this])⟩⟩
        · obtain rfl := J2.1 (hcl.no 16 hd (by kernel_rfl))
          obtain rfl : x48 = .pointer (some ⟨g, 0, none⟩) := J.get 1 (i := 1) rfl (hdp 1 (by kernel_rfl)) (by rw [HVV.out]; rfl) rfl
          refine wpOp_of rfl rfl ?_
          dsimp only [win, List.take_succ_cons, List.take_zero, List.drop_succ_cons, List.drop_zero, List.cons_append, List.nil_append, List.length_cons, List.length_nil, Nat.reduceAdd]
          go_simp
          exact hK [(x47), (.pointer (some ⟨g, 0, none⟩)), (.pointer (some ⟨g, 4, none⟩)), (x50), (x51), (x52), (x53), (x54), (x55), (x56), (x57), (x58), (x59), (x60), (x61)] _ ⟨⟨_, _, _, _, _, _, _, _, _, _, _, _, _, _, _, rfl, J.set (v := .pointer (some ⟨g, 4, none⟩)) 2 (i := 2) (by decide) rfl (by rw [HVV.out]; rfl)⟩, ⟨fun _ => rfl, fun h => by have := hcl.no 16 hd (i := 15) (by kernel_rfl); exact absurd h (by show ¬ (upd d 2 15) = true; simp [upd, this])⟩⟩
        · obtain rfl := J2.1 (hcl.no 16 hd (by kernel_rfl))
          obtain rfl : x49 = .pointer (some ⟨g, 4, none⟩) := J.get 2 (i := 2) rfl (hdp 2 (by kernel_rfl)) (by rw [HVV.out]; rfl) rfl
          refine wpOp_of rfl rfl ?_
          dsimp only [win, List.take_succ_cons, List.take_zero, List.drop_succ_cons, List.drop_zero, List.cons_append, List.nil_append, List.length_cons, List.length_nil, Nat.reduceAdd]
          go_simp
          exact hK [(x47), (x48), (.pointer (some ⟨g, 4, none⟩)), (.slice (some ⟨ga, 0, none⟩) 4 ac9), (x51), (x52), (x53), (x54), (x55), (x56), (x57), (x58), (x59), (x60), (x61)] _ ⟨⟨_, _, _, _, _, _, _, _, _, _, _, _, _, _, _, rfl, J.set (v := .slice (some ⟨ga, 0, none⟩) 4 ac9) 3 (i := 3) (by decide) rfl (by rw [HVV.out]; rfl)⟩, ⟨fun _ => rfl, fun h => by have := hcl.no 16 hd (i := 15) (by kernel_rfl); exact absurd h (by show ¬ (upd d 3 15) = true; simp [upd, this])⟩⟩
        · obtain rfl := J2.1 (hcl.no 16 hd (by kernel_rfl))
          refine wpOp_of rfl rfl ?_
          dsimp only [win, List.take_succ_cons, List.take_zero, List.drop_succ_cons, List.drop_zero, List.cons_append, List.nil_append, List.length_cons, List.length_nil, Nat.reduceAdd]
          go_simp
          exact hK [(x47), (x48), (x49), (x50), (pcv j i), (x52), (x53), (x54), (x55), (x56), (x57), (x58), (x59), (x60), (x61)] _ ⟨⟨_, _, _, _, _, _, _, _, _, _, _, _, _, _, _, rfl, J.set (v := pcv j i) 4 (i := 4) (by decide) rfl (by rw [HVV.out]; rfl)⟩, ⟨fun _ => rfl, fun h => by have := hcl.no 16 hd (i := 15) (by kernel_rfl); exact absurd h (by show ¬ (upd d 4 15) = true; simp [upd, this])⟩⟩
        · obtain rfl := J2.1 (hcl.no 16 hd (by kernel_rfl))
          obtain rfl : x51 = pcv j i := J.get 4 (i := 4) rfl (hdp 4 (by kernel_rfl)) (by rw [HVV.out]; rfl) rfl
          refine wpOp_of rfl rfl ?_
          dsimp only [win, List.take_succ_cons, List.take_zero, List.drop_succ_cons, List.drop_zero, List.cons_append, List.nil_append, List.length_cons, List.length_nil, Nat.reduceAdd]
          refine call_wp 34 #[pcv j i] (by kernel_rfl) _ (cS _) ?_
          rintro e w' ⟨rfl, rfl⟩
          refine ⟨_, rfl, ?_⟩
          exact hK [(x47), (x48), (x49), (x50), (pcv j i), (.int .i64 j), (x53), (x54), (x55), (x56), (x57), (x58), (x59), (x60), (x61)] _ ⟨⟨_, _, _, _, _, _, _, _, _, _, _, _, _, _, _, rfl, J.set (v := .int .i64 j) 5 (i := 5) (by decide) rfl (by rw [HVV.out]; rfl)⟩, ⟨fun _ => rfl, fun h => by have := hcl.no 16 hd (i := 15) (by kernel_rfl); exact absurd h (by show ¬ (upd d 5 15) = true; simp [upd, this])⟩⟩
        · obtain rfl := J2.1 (hcl.no 16 hd (by kernel_rfl))
          obtain rfl : x50 = .slice (some ⟨ga, 0, none⟩) 4 ac9 := J.get 3 (i := 3) rfl (hdp 3 (by kernel_rfl)) (by rw [HVV.out]; rfl) rfl
          obtain rfl : x52 = .int .i64 j := J.get 5 (i := 5) rfl (hdp 5 (by kernel_rfl)) (by rw [HVV.out]; rfl) rfl
          refine wpOp_of rfl rfl ?_
          dsimp only [win, List.take_succ_cons, List.take_zero, List.drop_succ_cons, List.drop_zero, List.cons_append, List.nil_append, List.length_cons, List.length_nil, Nat.reduceAdd]
          go_simp
          exact hK [(x47), (x48), (x49), (.slice (some ⟨ga, 0, none⟩) 4 ac9), (x51), (.int .i64 j), (.pointer (some ⟨ga, j.toNat * 3, none⟩)), (x54), (x55), (x56), (x57), (x58), (x59), (x60), (x61)] _ ⟨⟨_, _, _, _, _, _, _, _, _, _, _, _, _, _, _, rfl, J.set (v := .pointer (some ⟨ga, j.toNat * 3, none⟩)) 6 (i := 6) (by decide) rfl (by rw [HVV.out]; rfl)⟩, ⟨fun _ => rfl, fun h => by have := hcl.no 16 hd (i := 15) (by kernel_rfl); exact absurd h (by show ¬ (upd d 6 15) = true; simp [upd, this])⟩⟩
        · obtain rfl := J2.1 (hcl.no 16 hd (by kernel_rfl))
          obtain rfl : x53 = .pointer (some ⟨ga, j.toNat * 3, none⟩) := J.get 6 (i := 6) rfl (hdp 6 (by kernel_rfl)) (by rw [HVV.out]; rfl) rfl
          refine wpOp_of rfl rfl ?_
          dsimp only [win, List.take_succ_cons, List.take_zero, List.drop_succ_cons, List.drop_zero, List.cons_append, List.nil_append, List.length_cons, List.length_nil, Nat.reduceAdd]
          go_simp
          exact hK [(x47), (x48), (x49), (x50), (x51), (x52), (.pointer (some ⟨ga, j.toNat * 3, none⟩)), (.pointer (some ⟨ga, j.toNat * 3 + 2, none⟩)), (x55), (x56), (x57), (x58), (x59), (x60), (x61)] _ ⟨⟨_, _, _, _, _, _, _, _, _, _, _, _, _, _, _, rfl, J.set (v := .pointer (some ⟨ga, j.toNat * 3 + 2, none⟩)) 7 (i := 7) (by decide) rfl (by rw [HVV.out]; rfl)⟩, ⟨fun _ => rfl, fun h => by have := hcl.no 16 hd (i := 15) (by kernel_rfl); exact absurd h (by show ¬ (upd d 7 15) = true; simp [upd, this])⟩⟩
        · obtain rfl := J2.1 (hcl.no 16 hd (by kernel_rfl))
          obtain rfl : x54 = .pointer (some ⟨ga, j.toNat * 3 + 2, none⟩) := J.get 7 (i := 7) rfl (hdp 7 (by kernel_rfl)) (by rw [HVV.out]; rfl) rfl
          refine wpOp_of rfl rfl ?_
          dsimp only [win, List.take_succ_cons, List.take_zero, List.drop_succ_cons, List.drop_zero, List.cons_append, List.nil_append, List.length_cons, List.length_nil, Nat.reduceAdd]
          go_simp
          exact hK [(x47), (x48), (x49), (x50), (x51), (x52), (x53), (.pointer (some ⟨ga, j.toNat * 3 + 2, none⟩)), (.int .i64 z.c2), (x56), (x57), (x58), (x59), (x60), (x61)] _ ⟨⟨_, _, _, _, _, _, _, _, _, _, _, _, _, _, _, rfl, J.set (v := .int .i64 z.c2) 8 (i := 8) (by decide) rfl (by rw [HVV.out]; rfl)⟩, ⟨fun _ => rfl, fun h => by have := hcl.no 16 hd (i := 15) (by kernel_rfl); exact absurd h (by show ¬ (upd d 8 15) = true; simp [upd, this])⟩⟩
        · obtain rfl := J2.1 (hcl.no 16 hd (by kernel_rfl))
          refine wpOp_of rfl rfl ?_
          dsimp only [win, List.take_succ_cons, List.take_zero, List.drop_succ_cons, List.drop_zero, List.cons_append, List.nil_append, List.length_cons, List.length_nil, Nat.reduceAdd]
          go_simp
          exact hK [(x47), (x48), (x49), (x50), (x51), (x52), (x53), (x54), (x55), (pcv j i), (x57), (x58), (x59), (x60), (x61)] _ ⟨⟨_, _, _, _, _, _, _, _, _, _, _, _, _, _, _, rfl, J.set (v := pcv j i) 9 (i := 9) (by decide) rfl (by rw [HVV.out]; rfl)⟩, ⟨fun _ => rfl, fun h => by have := hcl.no 16 hd (i := 15) (by kernel_rfl); exact absurd h (by show ¬ (upd d 9 15) = true; simp [upd, this])⟩⟩
        · obtain rfl := J2.1 (hcl.no 16 hd (by kernel_rfl))
          obtain rfl : x56 = pcv j i := J.get 9 (i := 9) rfl (hdp 9 (by kernel_rfl)) (by rw [HVV.out]; rfl) rfl
          refine wpOp_of rfl rfl ?_
          dsimp only [win, List.take_succ_cons, List.take_zero, List.drop_succ_cons, List.drop_zero, List.cons_append, List.nil_append, List.length_cons, List.length_nil, Nat.reduceAdd]
          refine call_wp 35 #[pcv j i] (by kernel_rfl) _ (cO _) ?_
          rintro e w' ⟨rfl, rfl⟩
          refine ⟨_, rfl, ?_⟩
          exact hK [(x47), (x48), (x49), (x50), (x51), (x52), (x53), (x54), (x55), (pcv j i), (.int .i64 i), (x58), (x59), (x60), (x61)] _ ⟨⟨_, _, _, _, _, _, _, _, _, _, _, _, _, _, _, rfl, J.set (v := .int .i64 i) 10 (i := 10) (by decide) rfl (by rw [HVV.out]; rfl)⟩, ⟨fun _ => rfl, fun h => by have := hcl.no 16 hd (i := 15) (by kernel_rfl); exact absurd h (by show ¬ (upd d 10 15) = true; simp [upd, this])⟩⟩
        · obtain rfl := J2.1 (hcl.no 16 hd (by kernel_rfl))
          obtain rfl : x57 = .int .i64 i := J.get 10 (i := 10) rfl (hdp 10 (by kernel_rfl)) (by rw [HVV.out]; rfl) rfl
          refine wpOp_of rfl rfl ?_
          dsimp only [win, List.take_succ_cons, List.take_zero, List.drop_succ_cons, List.drop_zero, List.cons_append, List.nil_append, List.length_cons, List.length_nil, Nat.reduceAdd]
          go_simp
          exact hK [(x47), (x48), (x49), (x50), (x51), (x52), (x53), (x54), (x55), (x56), (.int .i64 i), (.int .i64 SH_), (x59), (x60), (x61)] _ ⟨⟨_, _, _, _, _, _, _, _, _, _, _, _, _, _, _, rfl, J.set (v := .int .i64 SH_) 11 (i := 11) (by decide) rfl (by rw [HVV.out]; rfl)⟩, ⟨fun _ => rfl, fun h => by have := hcl.no 16 hd (i := 15) (by kernel_rfl); exact absurd h (by show ¬ (upd d 11 15) = true; simp [upd, this])⟩⟩
        · obtain rfl := J2.1 (hcl.no 16 hd (by kernel_rfl))
          obtain rfl : x55 = .int .i64 z.c2 := J.get 8 (i := 8) rfl (hdp 8 (by kernel_rfl)) (by rw [HVV.out]; rfl) rfl
          obtain rfl : x58 = .int .i64 SH_ := J.get 11 (i := 11) rfl (hdp 11 (by kernel_rfl)) (by rw [HVV.out]; rfl) rfl
          refine wpOp_of rfl rfl ?_
          dsimp only [win, List.take_succ_cons, List.take_zero, List.drop_succ_cons, List.drop_zero, List.cons_append, List.nil_append, List.length_cons, List.length_nil, Nat.reduceAdd]
          go_simp
          exact hK [(x47), (x48), (x49), (x50), (x51), (x52), (x53), (x54), (.int .i64 z.c2), (x56), (x57), (.int .i64 SH_), (.int .i64 RV_), (x60), (x61)] _ ⟨⟨_, _, _, _, _, _, _, _, _, _, _, _, _, _, _, rfl, J.set (v := .int .i64 RV_) 12 (i := 12) (by decide) rfl (by rw [HVV.out]; rfl)⟩, ⟨fun _ => rfl, fun h => by have := hcl.no 16 hd (i := 15) (by kernel_rfl); exact absurd h (by show ¬ (upd d 12 15) = true; simp [upd, this])⟩⟩
        · obtain rfl := J2.1 (hcl.no 16 hd (by kernel_rfl))
          obtain rfl : x50 = .slice (some ⟨ga, 0, none⟩) 4 ac9 := J.get 3 (i := 3) rfl (hdp 3 (by kernel_rfl)) (by rw [HVV.out]; rfl) rfl
          obtain rfl : x52 = .int .i64 j := J.get 5 (i := 5) rfl (hdp 5 (by kernel_rfl)) (by rw [HVV.out]; rfl) rfl
          refine wpOp_of rfl rfl ?_
          dsimp only [win, List.take_succ_cons, List.take_zero, List.drop_succ_cons, List.drop_zero, List.cons_append, List.nil_append, List.length_cons, List.length_nil, Nat.reduceAdd]
          go_simp
          exact hK [(x47), (x48), (x49), (.slice (some ⟨ga, 0, none⟩) 4 ac9), (x51), (.int .i64 j), (x53), (x54), (x55), (x56), (x57), (x58), (x59), (.pointer (some ⟨ga, j.toNat * 3, none⟩)), (x61)] _ ⟨⟨_, _, _, _, _, _, _, _, _, _, _, _, _, _, _, rfl, J.set (v := .pointer (some ⟨ga, j.toNat * 3, none⟩)) 13 (i := 13) (by decide) rfl (by rw [HVV.out]; rfl)⟩, ⟨fun _ => rfl, fun h => by have := hcl.no 16 hd (i := 15) (by kernel_rfl); exact absurd h (by show ¬ (upd d 13 15) = true; simp [upd, this])⟩⟩
        · obtain rfl := J2.1 (hcl.no 16 hd (by kernel_rfl))
          obtain rfl : x60 = .pointer (some ⟨ga, j.toNat * 3, none⟩) := J.get 13 (i := 13) rfl (hdp 13 (by kernel_rfl)) (by rw [HVV.out]; rfl) rfl
          refine wpOp_of rfl rfl ?_
          dsimp only [win, List.take_succ_cons, List.take_zero, List.drop_succ_cons, List.drop_zero, List.cons_append, List.nil_append, List.length_cons, List.length_nil, Nat.reduceAdd]
          go_simp
          exact hK [(x47), (x48), (x49), (x50), (x51), (x52), (x53), (x54), (x55), (x56), (x57), (x58), (x59), (.pointer (some ⟨ga, j.toNat * 3, none⟩)), (.pointer (some ⟨ga, j.toNat * 3 + 2, none⟩))] _ ⟨⟨_, _, _, _, _, _, _, _, _, _, _, _, _, _, _, rfl, J.set (v := .pointer (some ⟨ga, j.toNat * 3 + 2, none⟩)) 14 (i := 14) (by decide) rfl (by rw [HVV.out]; rfl)⟩, ⟨fun _ => rfl, fun h => by have := hcl.no 16 hd (i := 15) (by kernel_rfl); exact absurd h (by show ¬ (upd d 14 15) = true; simp [upd, this])⟩⟩
        · obtain rfl := J2.1 hd
          obtain rfl : x61 = .pointer (some ⟨ga, j.toNat * 3 + 2, none⟩) := J.get 14 (i := 14) rfl (hdp 14 (by kernel_rfl)) (by rw [HVV.out]; rfl) rfl
          obtain rfl : x59 = .int .i64 RV_ := J.get 12 (i := 12) rfl (hdp 12 (by kernel_rfl)) (by rw [HVV.out]; rfl) rfl
          refine wpOp_of rfl rfl ?_
          dsimp only [win, List.take_succ_cons, List.take_zero, List.drop_succ_cons, List.drop_zero, List.cons_append, List.nil_append, List.length_cons, List.length_nil, Nat.reduceAdd]
          go_simp
          exact hK [(x47), (x48), (x49), (x50), (x51), (x52), (x53), (x54), (x55), (x56), (x57), (x58), (.int .i64 RV_), (x60), (.pointer (some ⟨ga, j.toNat * 3 + 2, none⟩))] _ ⟨⟨_, _, _, _, _, _, _, _, _, _, _, _, _, _, _, rfl, J.none 15 (by decide)⟩, ⟨fun h => by simp [upd] at h, fun _ => rfl⟩⟩
      · rintro d xs Wx hall ⟨⟨x47, x48, x49, x50, x51, x52, x53, x54, x55, x56, x57, x58, x59, x60, x61, rfl, J⟩, J2⟩
        obtain rfl := J2.2 (hall 15 (by decide))
        clear J J2 hall
        dsimp only [win, List.take_succ_cons, List.take_zero, List.drop_succ_cons, List.drop_zero, List.cons_append, List.nil_append, List.length_cons, List.length_nil, Nat.reduceAdd]
        clear cx fz g4 gl cS cO hsh hrv HRV Hw2 Bc hix
        have Hw3 := Hst
        have Bc := BcN
        clear Hst BcN
        clear HM
        generalize (wq2.drew).setCell ⟨ga, j.toNat * 3 + 2, none⟩ (.int .i64 RV_) = wx3 at Hw3 Bc HMN ⊢
        have cF2 := fun w => offer_c j i j0 j3 i0 i3 w
        have HML := HMN.alloc (.cells #[.int .i64 j, .int .i64 i] 49)
        have hdl := fun ty => run_delO' HML ⟨j, i⟩ ty HG2.out
        obtain ⟨L3, HL3⟩ : ∃ v, Hid (v = L2.filter (kx ⟨j, i⟩)) := ⟨_, rfl⟩
        have HG3 : Hid (GoodO L3 mo) := by show GoodO _ _; rw [HL3.out]; exact HG2.out.filter _
        rw [← HL3.out] at hdl
        have hml := HML.lt
        have HMP := HML.putSame L3 mo
        have Hw3 := (Hw3.later ((Below.refl _ _).alloc (Nat.le_refl _) (.cells #[.int .i64 j, .int .i64 i] 49))).putObj hmbase (.map (L3.map EO.m).toArray mo)
        have Bc := (Bc.alloc Bc.size (.cells #[.int .i64 j, .int .i64 i] 49)).trans (below_putObj (o := .map (L3.map EO.m).toArray mo) hmb)
        clear HMN HML
        go_wp2_with fail
        refine (cF2 _).mono ?_
        rintro e w1 ⟨rfl, rfl⟩
        obtain ⟨wq3, Hwq3⟩ : ∃ v, Hid (v = (wx3.alloc (.cells #[.int .i64 j, .int .i64 i] 49)).putObj mb (.map (L3.map EO.m).toArray mo)) := ⟨_, rfl⟩
        rw [← Hwq3.out] at hdl Hw3 Bc HMP
        have Hw3 := (show Hid (WS wq3 base g ⟨pu9, uc9, pf9, fc9, some ⟨ga, 0, none⟩, ac9, ps9, sc9, po9, oc9⟩ ⟨t, s, us, fs, FA2, se, oo⟩) from Hw3)
        have HM := HMP
        clear cF2 HMP
        go_wp2_with fail
        try rw [← Hwq3.out]
        rw [rounds_succ]
        have hL3 : L3.length ≤ 12 := by
          rw [HL3.out, HL2.out, HL1.out]
          refine Nat.le_trans (List.length_filter_le _ _) (Nat.le_trans (List.length_filter_le _ _) ?_)
          have h := congrArg List.length (entO_keys oo 0)
          rw [List.length_map] at h
          rw [h, Hmo.out]; omega
        have cB := offersByPlace_c mb mo L3 hL3 wq3 HM HG3.out.nb HG3.out.lt HG3.out.nk HG3.out.rv
        obtain ⟨OO, HOO⟩ : ∃ v, Hid (v = oo.filter (notP i j)) := ⟨_, rfl⟩
        have hLO : L3.map EO.k = OO := by rw [HL3.out, HL2.out, HL1.out, HOO.out]; exact keys_left oo i j
        rw [hLO] at cB
        clear hLO hL3 HM hml
        go_wp2_with fail
        refine cB.mono ?_
        rintro e wb ⟨v, rfl, hO, kb⟩
        clear cB
        obtain ⟨po8, oc8, rfl⟩ := hO.fm
        have hw4 := Hw3.out.later kb
        have hgs : base ≤ wq3.heap.size := Nat.le_trans Hw3.out.bg (Nat.le_of_lt Hw3.out.b.lt)
        have hw6 := hw4.putO (hO.mono hgs)
        have e6 : wb.cell? ⟨g, 6, none⟩ = some (.slice po9 oo.length oc9) := hw4.b.cell (i := 6) rfl
        have f6 := hw4.b.frozen 6
        have l6 := hw4.b.lt
        have hbg := hw4.bg
        have Bc := Bc.trans (kb.mono Bc.size)
        have Bc := bel_set Bc g 6 (by omega) (.slice po8 OO.length oc8)
        obtain ⟨W7, HW7⟩ : ∃ v, Hid (v = wb.setCell ⟨g, 6, none⟩ (.slice po8 OO.length oc8)) := ⟨_, rfl⟩
        rw [← HW7.out] at hw6 Bc
        have Hw6 := (show Hid (WS W7 base g ⟨pu9, uc9, pf9, fc9, some ⟨ga, 0, none⟩, ac9, ps9, sc9, po8, oc8⟩ ⟨t, s, us, fs, FA2, se, OO⟩) from hw6)
        clear hw6 hw4 hO kb Hw3
        go_upto_region 17 with fail
        try rw [← HW7.out]
        clear e6 f6 l6
        go_wp2_with fail
        refine (result_c g _ _ _ _ Hw6.out).mono ?_
        rintro e w8 ⟨rfl, O8, k8⟩
        have Bc := Bc.trans (k8.mono Bc.size)
        have HR2 : Hid (C = 0 ∧ X = ⟨t, s, us, fs, FA2, se, OO⟩) := ⟨HR0.out, by rw [HR2'.out, HFA2.out, HFA1.out, HOO.out]; unfold two; rw [Hya.out, Hza.out]⟩
        clear Hw6
        have R1 := HR.out.below Bc
        obtain ⟨r0, r1, r2, r3, r4, r5, r6, r7, y0, y1, y2, y3, y4, y5, y6, y7, rl⟩ := R1.z8
        have Fz := set8_blk R1 (.int .i64 0) (.int .i64 t) (.int .i64 s) (.slice pu9 us.length uc9) (.slice pf9 fs.length fc9) (.slice (some ⟨ga, 0, none⟩) FA2.length ac9) (.slice ps9 se.length sc9) (.slice po8 OO.length oc8)
        have Fo := (O8.of_block R1 (by decide) (by decide) (by decide) (by decide) (by decide) (set8_other (W := w8) (g := w.heap.size + 1) (.int .i64 0) (.int .i64 t) (.int .i64 s) (.slice pu9 us.length uc9) (.slice pf9 fs.length fc9) (.slice (some ⟨ga, 0, none⟩) FA2.length ac9) (.slice ps9 se.length sc9) (.slice po8 OO.length oc8))).mono (show w.heap.size ≤ _ by first | omega | (have := Bc.size; omega))
        have BE := set8_below (B1.trans (Bc.mono hB)) (show w.heap.size ≤ w.heap.size + 1 by omega) (.int .i64 0) (.int .i64 t) (.int .i64 s) (.slice pu9 us.length uc9) (.slice pf9 fs.length fc9) (.slice (some ⟨ga, 0, none⟩) FA2.length ac9) (.slice ps9 se.length sc9) (.slice po8 OO.length oc8)
        clear R1 O8
        go_wp2_with fail
        rw [HR2.out.1, HR2.out.2]
        exact bodyPost_ret (v := .agg (r8 0 ⟨pu9, uc9, pf9, fc9, (some ⟨ga, 0, none⟩), ac9, ps9, sc9, po8, oc8⟩ ⟨t, s, us, fs, FA2, se, OO⟩)) (result8 Tryz.results7 Fz _ rfl) rfl ⟨_, rfl, Fo, BE⟩
end Go.Proofs.YtmfdggaijbcijaaGreat
end
