/- Texts of mine put together (a claim holds at most 60 files): OffImpl. -/
import Derived.Test.YtmfdggaijbcijaaGreatPartQ39
import Derived.Test.YtmfdggaijbcijaaGreatPartQ40
import Derived.Test.YtmfdggaijbcijaaGreatPartQ11
import Derived.Deep.RegionLaw

/- OffImpl -/
/- The contract of OfferPact. Condition: the world's lists lie in memory as they were laid there. -/
section
namespace Go.Proofs.YtmfdggaijbcijaaGreat
open Go.ChangeShapes Go.WideShapes Go.ChangeAt Go.RowKit
open Bd
set_option linter.unusedVariables false

/- offers of one's own, pushed: what else a state has is as it was -/
theorem WS.rowT {w : World} {base g : Nat} {p : WP} {x : KW} (h : WS w base g p x) : RowT w (Value.slice p.o x.oo.length p.oc).ownBlock 49 := by
  cases hb : (Value.slice p.o x.oo.length p.oc).ownBlock with
  | none => exact .inl rfl
  | some q => obtain ⟨cs, hc⟩ := h.o.o.blk hb; exact .inr ⟨q, cs, rfl, hc⟩
theorem WS.pushB {w w' : World} {base g : Nat} {p : WP} {x : KW} (h : WS w base g p x) (hg : w.grownBy w' (Value.slice p.o x.oo.length p.oc).ownBlock) : Blk w' g #[.slice p.u x.us.length p.uc, .slice p.f x.fs.length p.fc, .int .i64 x.t, .int .i64 x.s, .slice p.a x.fa.length p.ac, .slice p.s x.se.length p.sc, .slice p.o x.oo.length p.oc] 66 := h.b.grw hg h.rowT (by decide)
theorem WS.pushed {w w' : World} {base g : Nat} {p : WP} {x : KW} (h : WS w base g p x) (hg : w.grownBy w' (Value.slice p.o x.oo.length p.oc).ownBlock) {a : Option Addr} {c : Nat} {l : List K2} (hO : SlO w' base (.slice a l.length c) l) :
    WS (w'.setCell ⟨g, 6, none⟩ (.slice a l.length c)) base g ⟨p.u, p.uc, p.f, p.fc, p.a, p.ac, p.s, p.sc, a, c⟩ ⟨x.t, x.s, x.us, x.fs, x.fa, x.se, l⟩ := by
  have hb := h.pushB hg
  exact ⟨hb.set 6 (.slice a l.length c), ⟨(h.o.u.grw hg h.rowT (by decide)).setB hb (by decide) _, (h.o.f.grw hg h.rowT (by decide)).setB hb (by decide) _, (h.o.a.grw hg h.rowT (by decide)).setB hb (by decide) _, (h.o.s.grw hg h.rowT (by decide)).setB hb (by decide) _, hO.setB hb (by decide) _⟩, h.bg⟩
set_option maxRecDepth 20000 in
set_option maxHeartbeats 16000000 in
theorem implOfferPact (p : WP) (x : KW) (w : World) (h : InW w p x) (i j : Int) :
    Calls Tryz.prog 18 #[.agg (p.v x), .int .i64 i, .int .i64 j] w fun e w' => ∃ q, e = .returned (.agg (r8 (offC hasI x i j) q (offX hasI x i j))) ∧ OwW w' w.heap.size q (offX hasI x i j) ∧ Below w.heap.size w w' := by
  obtain ⟨t, s, us, fs, fa, se, oo⟩ := x
  obtain ⟨u, uc, f, fc, a, ac, q, qc, r, rc⟩ := p
  obtain ⟨W, HW⟩ : ∃ W, Hid (W = (w.alloc (.cells (wv t s u us.length uc f fs.length fc a fa.length ac q se.length qc r oo.length rc) 32)).alloc (.cells z8 36)) := ⟨_, rfl⟩
  have B1 : Below w.heap.size w W := by rw [HW.out]; exact ((Below.refl _ _).alloc (Nat.le_refl _) _).alloc (by rw [size_new]; omega) _
  have P : Bk W w.heap.size (wv t s u us.length uc f fs.length fc a fa.length ac q se.length qc r oo.length rc) 32 := by rw [HW.out]; exact (Bk.new w (wv t s u us.length uc f fs.length fc a fa.length ac q se.length qc r oo.length rc) 32).alloc _
  have R : Blk W (w.heap.size + 1) z8 36 := by rw [HW.out]; have h := Blk.new (w.alloc (.cells (wv t s u us.length uc f fs.length fc a fa.length ac q se.length qc r oo.length rc) 32)) z8 36; rw [size_new] at h; exact h
  have HN : Hid (InW W ⟨u, uc, f, fc, a, ac, q, qc, r, rc⟩ ⟨t, s, us, fs, fa, se, oo⟩) := h.later B1
  have HR : Hid (Blk W (w.heap.size + 1) z8 36) := R
  have hB := B1.size
  show Calls Tryz.prog 18 #[.agg (wv t s u us.length uc f fs.length fc a fa.length ac q se.length qc r oo.length rc), .int .i64 i, .int .i64 j] w _
  have cF := fun W' (h : Below W.heap.size W W') => implPairFault ⟨u, uc, f, fc, a, ac, q, qc, r, rc⟩ ⟨t, s, us, fs, fa, se, oo⟩ HN.out.o1 HN.out.o2 W' (HN.out.later h).arg i j
  replace cF : ∀ W', Below W.heap.size W W' → Calls Tryz.prog 27 #[.agg (wv t s u us.length uc f fs.length fc a fa.length ac q se.length qc r oo.length rc), .int .i64 i, .int .i64 j] W' fun e w' => e = .returned (.int .i64 (prF hasI ⟨t, s, us, fs, fa, se, oo⟩ i j)) ∧ Below W'.heap.size W' w' := cF
  have cN := fun (e : GdW hasI ⟨t, s, us, fs, fa, se, oo⟩) W' (h : Below W.heap.size W W') => newWorldState_c ⟨u, uc, f, fc, a, ac, q, qc, r, rc⟩ ⟨t, s, us, fs, fa, se, oo⟩ (Gd8 e.b).1 (Gd8 e.b).2 (Nat.le_of_eq e.a4) e.s6 e.o6 W' (HN.out.later h)
  replace cN : GdW hasI ⟨t, s, us, fs, fa, se, oo⟩ → ∀ W', Below W.heap.size W W' → Calls Tryz.prog 32 #[.agg (wv t s u us.length uc f fs.length fc a fa.length ac q se.length qc r oo.length rc)] W' fun e w' => ∃ g p', e = .returned (.pointer (some ⟨g, 0, none⟩)) ∧ WS w' W'.heap.size g p' ⟨t, s, us, fs, fa, se, oo⟩ ∧ Below W'.heap.size W' w' := cN
  have HC : Hid (offC hasI ⟨t, s, us, fs, fa, se, oo⟩ i j = if (prF hasI ⟨t, s, us, fs, fa, se, oo⟩ i j == 0) = false then prF hasI ⟨t, s, us, fs, fa, se, oo⟩ i j else if (hasI (allyA fa i) j || memO oo ⟨i, j⟩) = true then 6 else if 6 ≤ oo.length then 7 else 0) := rfl
  have HX : Hid (offX hasI ⟨t, s, us, fs, fa, se, oo⟩ i j = if (offC hasI ⟨t, s, us, fs, fa, se, oo⟩ i j == 0) = true then ⟨t, s, us, fs, fa, se, oo ++ [⟨i, j⟩]⟩ else kz) := rfl
  have HP : Hid (prF hasI ⟨t, s, us, fs, fa, se, oo⟩ i j = 0 → wf hasI ⟨t, s, us, fs, fa, se, oo⟩ = 0 ∧ sdF fa i j = 0) := fun e => prF_zero.1 e
  have HG : Hid (wf hasI ⟨t, s, us, fs, fa, se, oo⟩ = 0 → GdW hasI ⟨t, s, us, fs, fa, se, oo⟩) := (gdW_iff hasI _).1
  generalize offC hasI ⟨t, s, us, fs, fa, se, oo⟩ i j = C at HC HX ⊢
  generalize offX hasI ⟨t, s, us, fs, fa, se, oo⟩ i j = X at HX ⊢
  generalize prF hasI ⟨t, s, us, fs, fa, se, oo⟩ i j = F at cF HC HP
  obtain ⟨mu, Hmu⟩ : ∃ m, Hid (us.length = m) := ⟨_, rfl⟩
  obtain ⟨mf, Hmf⟩ : ∃ m, Hid (fs.length = m) := ⟨_, rfl⟩
  obtain ⟨ma, Hma⟩ : ∃ m, Hid (fa.length = m) := ⟨_, rfl⟩
  obtain ⟨ms, Hms⟩ : ∃ m, Hid (se.length = m) := ⟨_, rfl⟩
  obtain ⟨mo, Hmo⟩ : ∃ m, Hid (oo.length = m) := ⟨_, rfl⟩
  rw [Hmu.out, Hmf.out, Hma.out, Hms.out, Hmo.out] at P HW cF cN ⊢
  clear h R
  have keep : ∀ w', Below W.heap.size W w' → w'.cell? ⟨w.heap.size, 0, none⟩ = some (.int .i64 t) ∧ w'.cell? ⟨w.heap.size, 1, none⟩ = some (.int .i64 s) ∧ w'.cell? ⟨w.heap.size, 2, none⟩ = some (.slice u mu uc) ∧ w'.cell? ⟨w.heap.size, 3, none⟩ = some (.slice f mf fc) ∧ w'.cell? ⟨w.heap.size, 4, none⟩ = some (.slice a ma ac) ∧ w'.cell? ⟨w.heap.size, 5, none⟩ = some (.slice q ms qc) ∧ w'.cell? ⟨w.heap.size, 6, none⟩ = some (.slice r mo rc) ∧ w.heap.size < w'.heap.size := fun w' hb => by
    have q := P.below hb
    exact ⟨q.cell rfl, q.cell rfl, q.cell rfl, q.cell rfl, q.cell rfl, q.cell rfl, q.cell rfl, q.lt⟩
  have Bc : Below W.heap.size W W := Below.refl _ _
  have HCC : Hid (C ≠ 0 → X = kz) := fun e => by rw [HX.out, if_neg (by simpa using e)]
  obtain ⟨p0, p1, p2, p3, p4, p5, p6, pl⟩ := keep _ Bc
  cases e2 : F == 0
  · have n7 : (F != 0) = true := by simp only [bne, e2]; rfl
    have HR1 : Hid (C = F ∧ X = kz) := by
      have e : C = F := by rw [HC.out, e2]; rfl
      exact ⟨e, HCC.out (by rw [e]; simpa using e2)⟩
    clear HC HX HP HG cN e2
    go_enter Tryz.func18, Tryz.ntmps18
    go_upto_region 1 with fail
    rw [← HW.out]
    go_wp2_with fail
    refine (cF _ Bc).mono ?_
    rintro e wn ⟨rfl, kn⟩
    have Bc := Bc.trans (kn.mono Bc.size)
    clear p0 p1 p2 p3 p4 p5 p6 pl
    have R1 := HR.out.below Bc
    obtain ⟨r0, r1, r2, r3, r4, r5, r6, r7, y0, y1, y2, y3, y4, y5, y6, y7, rl⟩ := R1.z8
    have Fz : Blk _ (w.heap.size + 1) (r8 F wpz kz) 36 := set8_blk R1 (.int .i64 F) (.int .i64 0) (.int .i64 0) (.slice none 0 0) (.slice none 0 0) (.slice none 0 0) (.slice none 0 0) (.slice none 0 0)
    have BE := set8_below (B1.trans (Bc.mono hB)) (show w.heap.size ≤ w.heap.size + 1 by omega) (.int .i64 F) (.int .i64 0) (.int .i64 0) (.slice none 0 0) (.slice none 0 0) (.slice none 0 0) (.slice none 0 0) (.slice none 0 0)
    clear R1
    go_wp2_with fail
    rw [HR1.out.1, HR1.out.2]
    exact bodyPost_ret (v := .agg (r8 F wpz kz)) (result8 Tryz.results18 Fz _ rfl) rfl ⟨wpz, rfl, OwW.z _ _, BE⟩
  obtain rfl : F = 0 := by simpa using e2
  replace HC : Hid (C = if (hasI (allyA fa i) j || memO oo ⟨i, j⟩) = true then 6 else if 6 ≤ oo.length then 7 else 0) := HC
  obtain ⟨w0, s0⟩ := HP.out rfl
  have G := HG.out w0
  have cN := cN G
  obtain ⟨ia, ja, hij, gi, gj⟩ := sdF_zero.1 s0
  obtain ⟨i0, i3⟩ := inb_i ia
  obtain ⟨j0, j3⟩ := inb_i ja
  have h4 : ma = 4 := by rw [← Hma.out]; exact G.a4
  subst h4
  have Hij : Hid (i ≠ j) := hij
  have HGd : Hid (GdW hasI ⟨t, s, us, fs, fa, se, oo⟩) := G
  obtain ⟨y, hy, _, hya⟩ := side_at Hma.out i0 i3
  obtain ⟨z, hz, _, hza⟩ := side_at Hma.out j0 j3
  have Hy : Hid (fa[i.toNat]? = some y) := hy
  have Hz : Hid (fa[j.toNat]? = some z) := hz
  have Hya : Hid (allyA fa i = y.c2) := hya
  have Hza : Hid (allyA fa j = z.c2) := hza
  have ym : inb y.c2 0 15 = true := by rw [← hya]; exact (gd_fac G i0 i3).m
  have zm : inb z.c2 0 15 = true := by rw [← hza]; exact (gd_fac G j0 j3).m
  have keepY : ∀ w', Below W.heap.size W w' → ∃ b o, a = some ⟨b, o, none⟩ ∧ A1 w' b (o + i.toNat * 3) y := fun w' hb => by
    obtain ⟨b, o, hpa, hbl, hat⟩ := (HN.out.later hb).arg.a.atP Hy.out
    exact ⟨b, o, hpa, hat.one hbl Hy.out⟩
  have i4 : i < 4 := by omega
  have j4 : j < 4 := by omega
  rw [hya] at HC
  clear HP HG w0 s0 ia ja gi gj hy hz hya hza hij G e2
  have hnd : oo.Nodup := oo_nodup HGd.out
  have hpw : oo.Pairwise (fun a b => b.b a = false) := by
    rw [List.nodup_iff_pairwise_ne] at hnd
    exact hnd.imp (fun h => K2.b_ne h.symm)
  have h6 : mo ≤ 6 := by have := HGd.out.o6; have := Hmo.out; dsimp only at *; omega
  have cM := fun W' (h : Below W.heap.size W W') => offerPlaces_c r mo rc oo Hmo.out (by omega) hpw W' (HN.out.later h).arg.o
  have cP := fun w => pactOf_c i j w
  have cF1 := fun w => offer_c i j i0 i3 j0 j3 w
  have qB := fun w => hasBit_c y.c2 j j0 (by omega) w
  clear hnd hpw
  go_enter Tryz.func18, Tryz.ntmps18
  go_upto_region 1 with fail
  rw [← HW.out]
  go_wp2_with fail
  refine (cF _ Bc).mono ?_
  rintro e wn ⟨rfl, kn⟩
  have Bc := Bc.trans (kn.mono Bc.size)
  clear p0 p1 p2 p3 p4 p5 p6 pl
  go_wp2_with fail
  refine (cP _).mono ?_
  rintro e w1 ⟨rfl, hw1⟩
  obtain rfl := hw1.symm
  obtain ⟨p0, p1, p2, p3, p4, p5, p6, pl⟩ := keep _ Bc
  go_wp2_with fail
  refine (cM _ Bc).mono ?_
  rintro e wm ⟨rfl, HM, km⟩
  have hmb : W.heap.size ≤ wn.heap.size := Bc.size
  have Bc := Bc.trans (km.mono Bc.size)
  obtain ⟨mb, Hmb⟩ : ∃ v, Hid (v = wn.heap.size) := ⟨_, rfl⟩
  rw [← Hmb.out] at HM hmb ⊢
  have hml := HM.lt
  clear p0 p1 p2 p3 p4 p5 p6 pl
  clear cM cP km
  have hlk0 := run_lookO (HM.alloc (.cells #[.int .i64 i, .int .i64 j] 49)) ⟨i, j⟩
  rw [found_mem] at hlk0
  have hlk := hlk0.trans (congrArg (fun v => Result.ok (Value.tuple #[v, .bool (memO oo ⟨i, j⟩)]) (wm.alloc (.cells #[.int .i64 i, .int .i64 j] 49))) (plcO_fnd ⟨i, j⟩ (entO 0 oo) 0))
  generalize plcO ⟨i, j⟩ (entO 0 oo) = PV at hlk
  clear hlk0
  have Bc := Bc.alloc Bc.size (.cells #[.int .i64 i, .int .i64 j] 49)
  cases eb : memO oo ⟨i, j⟩
  case true =>
    rw [eb] at hlk HC
    have HR1 : Hid (C = 6 ∧ X = kz) := by
      have e : C = 6 := by rw [HC.out]; simp
      exact ⟨e, HCC.out (by rw [e]; decide)⟩
    clear HM
    go_wp2_with fail
    refine (cF1 _).mono ?_
    rintro e w1 ⟨rfl, rfl⟩
    have R1 := HR.out.below Bc
    obtain ⟨r0, r1, r2, r3, r4, r5, r6, r7, y0, y1, y2, y3, y4, y5, y6, y7, rl⟩ := R1.z8
    have Fz : Blk _ (w.heap.size + 1) (r8 6 wpz kz) 36 := set8_blk R1 (.int .i64 6) (.int .i64 0) (.int .i64 0) (.slice none 0 0) (.slice none 0 0) (.slice none 0 0) (.slice none 0 0) (.slice none 0 0)
    have BE := set8_below (B1.trans (Bc.mono hB)) (show w.heap.size ≤ w.heap.size + 1 by omega) (.int .i64 6) (.int .i64 0) (.int .i64 0) (.slice none 0 0) (.slice none 0 0) (.slice none 0 0) (.slice none 0 0) (.slice none 0 0)
    clear R1
    go_wp2_with fail
    rw [HR1.out.1, HR1.out.2]
    exact bodyPost_ret (v := .agg (r8 6 wpz kz)) (result8 Tryz.results18 Fz _ rfl) rfl ⟨wpz, rfl, OwW.z _ _, BE⟩
  case false =>
    rw [eb] at hlk HC
    cases eh : hasI y.c2 j
    case true =>
      rw [eh] at qB HC
      have HR1 : Hid (C = 6 ∧ X = kz) := by
        have e : C = 6 := by rw [HC.out]; simp
        exact ⟨e, HCC.out (by rw [e]; decide)⟩
      clear HM
      go_wp2_with fail
      refine (cF1 _).mono ?_
      rintro e w1 ⟨rfl, rfl⟩
      obtain ⟨p0, p1, p2, p3, p4, p5, p6, pl⟩ := keep _ Bc
      obtain ⟨ba, oa, rfl, ⟨y0, y1, y2, yl⟩⟩ := keepY _ Bc
      go_wp2_with fail
      refine (qB _).mono ?_
      rintro e w1 ⟨rfl, hw1⟩
      obtain rfl := hw1.symm
      clear y0 y1 y2 yl
      clear p0 p1 p2 p3 p4 p5 p6 pl
      have R1 := HR.out.below Bc
      obtain ⟨r0, r1, r2, r3, r4, r5, r6, r7, y0, y1, y2, y3, y4, y5, y6, y7, rl⟩ := R1.z8
      have Fz : Blk _ (w.heap.size + 1) (r8 6 wpz kz) 36 := set8_blk R1 (.int .i64 6) (.int .i64 0) (.int .i64 0) (.slice none 0 0) (.slice none 0 0) (.slice none 0 0) (.slice none 0 0) (.slice none 0 0)
      have BE := set8_below (B1.trans (Bc.mono hB)) (show w.heap.size ≤ w.heap.size + 1 by omega) (.int .i64 6) (.int .i64 0) (.int .i64 0) (.slice none 0 0) (.slice none 0 0) (.slice none 0 0) (.slice none 0 0) (.slice none 0 0)
      clear R1
      go_wp2_with fail
      rw [HR1.out.1, HR1.out.2]
      exact bodyPost_ret (v := .agg (r8 6 wpz kz)) (result8 Tryz.results18 Fz _ rfl) rfl ⟨wpz, rfl, OwW.z _ _, BE⟩
    case false =>
      rw [eh] at qB HC
      replace HC : Hid (C = if 6 ≤ oo.length then 7 else 0) := HC
      clear HM
      go_wp2_with fail
      refine (cF1 _).mono ?_
      rintro e w1 ⟨rfl, rfl⟩
      obtain ⟨p0, p1, p2, p3, p4, p5, p6, pl⟩ := keep _ Bc
      obtain ⟨ba, oa, rfl, ⟨y0, y1, y2, yl⟩⟩ := keepY _ Bc
      go_wp2_with fail
      refine (qB _).mono ?_
      rintro e w1 ⟨rfl, hw1⟩
      obtain rfl := hw1.symm
      clear y0 y1 y2 yl hlk
      by_cases hf : mo = 6
      · subst hf
        have HR1 : Hid (C = 7 ∧ X = kz) := by
          have e : C = 7 := by rw [HC.out, Hmo.out, if_pos (Nat.le_refl _)]
          exact ⟨e, HCC.out (by rw [e]; decide)⟩
        have R1 := HR.out.below Bc
        obtain ⟨r0, r1, r2, r3, r4, r5, r6, r7, y0, y1, y2, y3, y4, y5, y6, y7, rl⟩ := R1.z8
        have Fz : Blk _ (w.heap.size + 1) (r8 7 wpz kz) 36 := set8_blk R1 (.int .i64 7) (.int .i64 0) (.int .i64 0) (.slice none 0 0) (.slice none 0 0) (.slice none 0 0) (.slice none 0 0) (.slice none 0 0)
        have BE := set8_below (B1.trans (Bc.mono hB)) (show w.heap.size ≤ w.heap.size + 1 by omega) (.int .i64 7) (.int .i64 0) (.int .i64 0) (.slice none 0 0) (.slice none 0 0) (.slice none 0 0) (.slice none 0 0) (.slice none 0 0)
        clear R1
        go_wp2_with fail
        rw [HR1.out.1, HR1.out.2]
        exact bodyPost_ret (v := .agg (r8 7 wpz kz)) (result8 Tryz.results18 Fz _ rfl) rfl ⟨wpz, rfl, OwW.z _ _, BE⟩
      · have hf6 : ((mo : Int) == 6) = false := by simp; omega
        have HR0 : Hid (C = 0) := by show _ = _; rw [HC.out, Hmo.out, if_neg (by omega)]
        have HR2' : Hid (X = ⟨t, s, us, fs, fa, se, oo ++ [⟨i, j⟩]⟩) := by show _ = _; rw [HX.out, HR0.out]; rfl
        go_wp2_with fail
        refine (cN _ Bc).mono ?_
        rintro e w5 ⟨g, p5', rfl, hw5, k5⟩
        have hB5 := Bc.size
        have Bc := Bc.trans (k5.mono Bc.size)
        clear p0 p1 p2 p3 p4 p5 p6 pl
        obtain ⟨pu9, uc9, pf9, fc9, pa9, ac9, ps9, sc9, po8, oc8⟩ := p5'
        obtain ⟨base, Hbase⟩ : ∃ v, Hid (v = (wm.alloc (.cells #[.int .i64 i, .int .i64 j] 49)).heap.size) := ⟨_, rfl⟩
        rw [← Hbase.out] at hw5 hB5
        have e6 : w5.cell? ⟨g, 6, none⟩ = some (.slice po8 oo.length oc8) := hw5.b.cell (i := 6) rfl
        rw [Hmo.out] at e6
        have l6 := hw5.b.lt
        have cF2 := fun w => (offer_c i j i0 i3 j0 j3 w).mono (R' := fun e w' => e = .returned (.agg #[.int .i64 i, .int .i64 j]) ∧ Below w.heap.size w w') (fun e w' h => ⟨h.1, by rw [h.2]; exact (Below.refl _ _).alloc (Nat.le_refl _) _⟩)
        have Hw5 : Hid (WS w5.drew base g ⟨pu9, uc9, pf9, fc9, pa9, ac9, ps9, sc9, po8, oc8⟩ ⟨t, s, us, fs, fa, se, oo⟩) := hw5.drew
        clear hw5
        go_upto_region 11 with fail
        go_region_law (first
          | (refine step_call rfl 31 #[pcv i j] (by kernel_rfl) _ (cF2 _) ?_; rintro e w6 ⟨rfl, k6⟩; refine ⟨_, rfl, ?_⟩; have Hw6 := Hw5.out.later k6; have e6 : w6.cell? ⟨g, 6, none⟩ = some (.slice po8 oo.length oc8) := Hw6.b.cell (i := 6) rfl; rw [Hmo.out] at e6; have l6 := Hw6.b.lt; have hO6 : SlO (w6.alloc (.cells #[.int .i64 i, .int .i64 j] 49)) base (.slice po8 oo.length oc8) oo := Hw6.o.o.alloc _; rw [Hmo.out] at hO6)
          | (refine step_pushO rfl (.tmp 55) (.tmp 58) rfl w6.heap.size ⟨i, j⟩ base _ oo (by simp [Act.eval]; done) hO6 (by simp [Act.eval]; done) (Blk.new w6 #[.int .i64 i, .int .i64 j] _) (by have := Hmo.out; omega) (by have := Hw6.bg; rw [size_new]; omega) ?_; intro v7 w7 S7 g7; obtain ⟨po7, oc7, rfl⟩ := S7.fm; have Hw6a := Hw6.later ((Below.refl _ _).alloc (Nat.le_refl _) (.cells #[.int .i64 i, .int .i64 j] 49)); have hb7 := Hw6a.pushB (by dsimp only; rw [Hmo.out]; exact g7); have Hw7 := Hw6a.pushed (by dsimp only; rw [Hmo.out]; exact g7) S7; have e7 : w7.cell? ⟨g, 6, none⟩ = some (.slice po8 oo.length oc8) := hb7.cell (i := 6) rfl; have f7 := hb7.frozen 6; have l7 := hb7.lt)
          | (trace_state; fail))
        all_goals
          have hw5s : W.heap.size ≤ base := hB5
          have Bc := ((Bc.drew.trans (k6.mono Bc.size)).alloc (Bc.drew.trans (k6.mono Bc.size)).size (.cells #[.int .i64 i, .int .i64 j] 49)).grown g7 ((Bc.drew.trans (k6.mono Bc.size)).alloc (Bc.drew.trans (k6.mono Bc.size)).size (.cells #[.int .i64 i, .int .i64 j] 49)).size (fun k hk => Nat.le_trans hw5s (hO6.lt k hk).1)
          have hbg := Hw6.bg
          obtain ⟨OO, HOO⟩ : ∃ v : List K2, Hid (v = oo ++ [K2.mk i j]) := ⟨_, rfl⟩
          have hlO : OO.length = oo.length + 1 := by rw [HOO.out]; simp
          have Bc := bel_set Bc g 6 (by omega) (.slice po7 OO.length oc7)
          have Hw7 := (show Hid (WS (w7.setCell ⟨g, 6, none⟩ (.slice po7 (oo ++ [K2.mk i j]).length oc7)) base g ⟨pu9, uc9, pf9, fc9, pa9, ac9, ps9, sc9, po7, oc7⟩ ⟨t, s, us, fs, fa, se, oo ++ [K2.mk i j]⟩) from Hw7)
          rw [← HOO.out] at Hw7
          rw [← hlO]
          generalize w7.setCell ⟨g, 6, none⟩ (.slice po7 OO.length oc7) = W9 at Hw7 Bc ⊢
          clear hb7 e7 f7 l7 S7 g7 Hw6a hO6 e6 l6 Hw6 k6 Hw5 cF2
          go_wp2_with fail
          refine (result_c g _ _ _ _ Hw7.out).mono ?_
          rintro e w8 ⟨rfl, O8, k8⟩
          have Bc := Bc.trans (k8.mono Bc.size)
          have HR2 : Hid (C = 0 ∧ X = ⟨t, s, us, fs, fa, se, OO⟩) := ⟨HR0.out, by rw [HR2'.out, HOO.out]⟩
          clear Hw7 hlO
          have R1 := HR.out.below Bc
          obtain ⟨r0, r1, r2, r3, r4, r5, r6, r7, y0, y1, y2, y3, y4, y5, y6, y7, rl⟩ := R1.z8
          have Fz := set8_blk R1 (.int .i64 0) (.int .i64 t) (.int .i64 s) (.slice pu9 us.length uc9) (.slice pf9 fs.length fc9) (.slice pa9 fa.length ac9) (.slice ps9 se.length sc9) (.slice po7 OO.length oc7)
          have Fo := (O8.of_block R1 (by decide) (by decide) (by decide) (by decide) (by decide) (set8_other (W := w8) (g := w.heap.size + 1) (.int .i64 0) (.int .i64 t) (.int .i64 s) (.slice pu9 us.length uc9) (.slice pf9 fs.length fc9) (.slice pa9 fa.length ac9) (.slice ps9 se.length sc9) (.slice po7 OO.length oc7))).mono (show w.heap.size ≤ _ by first | omega | (have := Bc.size; omega))
          have BE := set8_below (B1.trans (Bc.mono hB)) (show w.heap.size ≤ w.heap.size + 1 by omega) (.int .i64 0) (.int .i64 t) (.int .i64 s) (.slice pu9 us.length uc9) (.slice pf9 fs.length fc9) (.slice pa9 fa.length ac9) (.slice ps9 se.length sc9) (.slice po7 OO.length oc7)
          clear R1 O8
          go_wp2_with fail
          rw [HR2.out.1, HR2.out.2]
          exact bodyPost_ret (v := .agg (r8 0 ⟨pu9, uc9, pf9, fc9, pa9, ac9, ps9, sc9, po7, oc7⟩ ⟨t, s, us, fs, fa, se, OO⟩)) (result8 Tryz.results18 Fz _ rfl) rfl ⟨_, rfl, Fo, BE⟩
end Go.Proofs.YtmfdggaijbcijaaGreat
end
