/- Texts of mine put together (a claim holds at most 60 files): GiveImpl2. -/
import Derived.Test.YtaeeahgibifkjaaGreatPartG39
import Derived.Test.YtaeeahgibifkjaaGreatPartG32
import Derived.Test.YtaeeahgibifkjaaGreatPartG22
import Derived.Deep.CutRange
import Derived.Deep.RegionHeld3

/- GiveImpl2 -/
/- The contract of GiveUnit, the program's. Condition: the world's lists lie in memory as they were laid there; the id of the unit is an int64. -/
section
namespace Go.Proofs.YtaeeahgibifkjaaGreat
open Go.ChangeShapes Go.WideShapes Go.ChangeAt Go.RowKit
open Bd
set_option linter.unusedVariables false

theorem Below2.thenG {w W W' : World} {g : Nat} (h : Below2 w g W) (hb : Below W.heap.size W W') : Below2 w g W' := ⟨hb.os.trans h.os, hb.tape.trans h.tape, hb.output.trans h.output, Nat.le_trans h.size hb.size, fun k hk hne => (hb.block k (Nat.lt_of_lt_of_le hk h.size)).trans (h.block k hk hne)⟩
theorem give_put {us : List K10} {fs : List K3} {u : K10} {b : Int} (G : Gd us fs) (hm : u ∈ us) (hb : 0 ≤ b ∧ b ≤ 3) : puU us fs (handed u b) = putU (handed u b) us ∧ puF us fs (handed u b) = fs := by
  have G2 : Gd (putU (handed u b) us) fs := G.put (u := u) (u' := handed u b) hm rfl ((G.gu hm).handed (.inl hb))
  have h1 : puB us fs (handed u b) = true := by
    unfold puB
    rw [G.bf, G2.u _ (putU_self _ _)]
    simpa using G2.n8
  unfold puU puF
  rw [h1]
  exact ⟨rfl, rfl⟩
theorem WS.setBoard {w : World} {base g : Nat} {p : WP} {x : KW} {q1 q2 : Option Addr} {c1 c2 : Nat} {us' : List K10} {fs' : List K3} (h : WS w base g p x) (hu : SlU w base (.slice q1 us'.length c1) us') (hf : SlF w base (.slice q2 fs'.length c2) fs') :
    WS ((w.setCell ⟨g, 0, none⟩ (.slice q1 us'.length c1)).setCell ⟨g, 1, none⟩ (.slice q2 fs'.length c2)) base g ⟨q1, c1, q2, c2, p.a, p.ac, p.s, p.sc, p.o, p.oc⟩ ⟨x.t, x.s, us', fs', x.fa, x.se, x.oo⟩ := by
  have b0 : Blk _ g #[.slice q1 us'.length c1, .slice p.f x.fs.length p.fc, .int .i64 x.t, .int .i64 x.s, .slice p.a x.fa.length p.ac, .slice p.s x.se.length p.sc, .slice p.o x.oo.length p.oc] 84 := h.b.set 0 (.slice q1 us'.length c1)
  have b1 : Blk _ g #[.slice q1 us'.length c1, .slice q2 fs'.length c2, .int .i64 x.t, .int .i64 x.s, .slice p.a x.fa.length p.ac, .slice p.s x.se.length p.sc, .slice p.o x.oo.length p.oc] 84 := b0.set 1 (.slice q2 fs'.length c2)
  exact ⟨b1, ⟨(hu.setB h.b (by decide) _).setB b0 (by decide) _, (hf.setB h.b (by decide) _).setB b0 (by decide) _, (h.o.a.setB h.b (by decide) _).setB b0 (by decide) _, (h.o.s.setB h.b (by decide) _).setB b0 (by decide) _, (h.o.o.setB h.b (by decide) _).setB b0 (by decide) _⟩, h.bg⟩
structure JGv (W6 : World) (g base ub : Nat) (p : WP) (x : KW) (j : Int) (u0 : K10) (us' : List K10) (d : Nat → Bool) (x38 x39 x40 x41 x42 x43 x44 x45 x46 x47 x48 x49 x50 : Value) (W : World) : Prop where
  f0 : d 0 = true → x38 = .pointer (some ⟨g, 0, none⟩)
  f1 : d 1 = true → x39 = .pointer (some ⟨g, 0, none⟩)
  f2 : d 2 = true → x40 = .pointer (some ⟨g, 0, none⟩)
  f3 : d 3 = true → x41 = .pointer (some ⟨g, 0, none⟩)
  f4 : d 4 = true → x42 = .agg #[.slice p.u x.us.length p.uc, .slice p.f x.fs.length p.fc]
  f5 : d 5 = true → x43 = .int .i64 j
  f6 : d 6 = true → x44 = .pointer (some ⟨ub, 1, none⟩)
  f7 : d 7 = true → x45 = .agg u0.v
  f8 : d 8 = true → x46 = .agg (handed u0 j).v
  f9 : d 9 = true → d 13 = false → ∃ (cc : Int) (v f : Value), x47 = .agg #[.int .i64 cc, v, f] ∧ SlU W base v us' ∧ SlF W base f x.fs
  f10 : d 10 = true → d 13 = false → ∃ v f : Value, x48 = .agg #[v, f] ∧ SlU W base v us' ∧ SlF W base f x.fs
  f11 : d 11 = true → x49 = .pointer (some ⟨g, 0, none⟩)
  f12 : d 12 = true → x50 = .pointer (some ⟨g, 0, none⟩)
  A : d 13 = false → WS W base g p x ∧ Blk W ub (elevenV 0 u0) 56
  A1 : d 13 = true → ∃ q, WS W base g q ⟨x.t, x.s, us', x.fs, x.fa, x.se, x.oo⟩
  B : Below2 W6 g W
set_option maxRecDepth 20000 in
set_option maxHeartbeats 32000000 in
theorem implGiveUnit (p : WP) (x : KW) (w : World) (h : InW w p x) (i id j : Int) (hw : wf hasI x = 0 → (Lit.int .i64 id).wf = true) :
    Calls Tryz.prog 30 #[.agg (p.v x), .int .i64 i, .int .i64 id, .int .i64 j] w fun e w' => ∃ q, e = .returned (.agg (r8 (givC hasI x i id j) q (givX hasI x i id j))) ∧ OwW w' w.heap.size q (givX hasI x i id j) ∧ Below w.heap.size w w' := by
  obtain ⟨t, s, us, fs, fa, se, oo⟩ := x
  obtain ⟨u, uc, f, fc, a, ac, q, qc, r, rc⟩ := p
  obtain ⟨W, HW⟩ : ∃ W, Hid (W = (w.alloc (.cells (wv t s u us.length uc f fs.length fc a fa.length ac q se.length qc r oo.length rc) 32)).alloc (.cells z8 36)) := ⟨_, rfl⟩
  have B1 : Below w.heap.size w W := by rw [HW.out]; exact ((Below.refl _ _).alloc (Nat.le_refl _) _).alloc (by rw [size_new]; omega) _
  have P : Bk W w.heap.size (wv t s u us.length uc f fs.length fc a fa.length ac q se.length qc r oo.length rc) 32 := by rw [HW.out]; exact (Bk.new w (wv t s u us.length uc f fs.length fc a fa.length ac q se.length qc r oo.length rc) 32).alloc _
  have R : Blk W (w.heap.size + 1) z8 36 := by rw [HW.out]; have h := Blk.new (w.alloc (.cells (wv t s u us.length uc f fs.length fc a fa.length ac q se.length qc r oo.length rc) 32)) z8 36; rw [size_new] at h; exact h
  have HN : Hid (InW W ⟨u, uc, f, fc, a, ac, q, qc, r, rc⟩ ⟨t, s, us, fs, fa, se, oo⟩) := h.later B1
  have HR : Hid (Blk W (w.heap.size + 1) z8 36) := R
  have hB := B1.size
  have cP := fun W' (h : Below W.heap.size W W') => implPairFault ⟨u, uc, f, fc, a, ac, q, qc, r, rc⟩ ⟨t, s, us, fs, fa, se, oo⟩ HN.out.o1 HN.out.o2 W' (HN.out.later h).arg i j
  show Calls Tryz.prog 30 #[.agg (wv t s u us.length uc f fs.length fc a fa.length ac q se.length qc r oo.length rc), .int .i64 i, .int .i64 id, .int .i64 j] w _
  replace cP : ∀ W', Below W.heap.size W W' → Calls Tryz.prog 45 #[.agg (wv t s u us.length uc f fs.length fc a fa.length ac q se.length qc r oo.length rc), .int .i64 i, .int .i64 j] W' fun e w' => e = .returned (.int .i64 (prF hasI ⟨t, s, us, fs, fa, se, oo⟩ i j)) ∧ Below W'.heap.size W' w' := cP
  have cN := fun (e : GdW hasI ⟨t, s, us, fs, fa, se, oo⟩) W' (h : Below W.heap.size W W') => newWorldState_c ⟨u, uc, f, fc, a, ac, q, qc, r, rc⟩ ⟨t, s, us, fs, fa, se, oo⟩ (Gd8 e.b).1 (Gd8 e.b).2 (Nat.le_of_eq e.a4) e.s6 e.o6 W' (HN.out.later h)
  replace cN : GdW hasI ⟨t, s, us, fs, fa, se, oo⟩ → ∀ W', Below W.heap.size W W' → Calls Tryz.prog 50 #[.agg (wv t s u us.length uc f fs.length fc a fa.length ac q se.length qc r oo.length rc)] W' fun e w' => ∃ g p', e = .returned (.pointer (some ⟨g, 0, none⟩)) ∧ WS w' W'.heap.size g p' ⟨t, s, us, fs, fa, se, oo⟩ ∧ Below W'.heap.size W' w' := cN
  have HC : Hid (givC hasI ⟨t, s, us, fs, fa, se, oo⟩ i id j = if (prF hasI ⟨t, s, us, fs, fa, se, oo⟩ i j == 0) = false then prF hasI ⟨t, s, us, fs, fa, se, oo⟩ i j else match findU us id with | none => 4 | some u => if (u.c1 == i) = true then 0 else 9) := rfl
  have HX : Hid (givX hasI ⟨t, s, us, fs, fa, se, oo⟩ i id j = if (givC hasI ⟨t, s, us, fs, fa, se, oo⟩ i id j == 0) = true then ⟨t, s, (match findU us id with | none => us | some u => putU (handed u j) us), fs, fa, se, oo⟩ else kz) := rfl
  have HP : Hid (prF hasI ⟨t, s, us, fs, fa, se, oo⟩ i j = 0 → wf hasI ⟨t, s, us, fs, fa, se, oo⟩ = 0 ∧ sdF fa i j = 0) := fun e => prF_zero.1 e
  have HG : Hid (wf hasI ⟨t, s, us, fs, fa, se, oo⟩ = 0 → GdW hasI ⟨t, s, us, fs, fa, se, oo⟩) := (gdW_iff hasI _).1
  generalize givC hasI ⟨t, s, us, fs, fa, se, oo⟩ i id j = C at HC HX ⊢
  generalize givX hasI ⟨t, s, us, fs, fa, se, oo⟩ i id j = X at HX ⊢
  generalize prF hasI ⟨t, s, us, fs, fa, se, oo⟩ i j = F at cP HC HP
  obtain ⟨mu, Hmu⟩ : ∃ m, Hid (us.length = m) := ⟨_, rfl⟩
  obtain ⟨mf, Hmf⟩ : ∃ m, Hid (fs.length = m) := ⟨_, rfl⟩
  obtain ⟨ma, Hma⟩ : ∃ m, Hid (fa.length = m) := ⟨_, rfl⟩
  obtain ⟨ms, Hms⟩ : ∃ m, Hid (se.length = m) := ⟨_, rfl⟩
  obtain ⟨mo, Hmo⟩ : ∃ m, Hid (oo.length = m) := ⟨_, rfl⟩
  rw [Hmu.out, Hmf.out, Hma.out, Hms.out, Hmo.out] at P HW cP cN ⊢
  clear h R
  have keep : ∀ w', Below W.heap.size W w' → w'.cell? ⟨w.heap.size, 0, none⟩ = some (.int .i64 t) ∧ w'.cell? ⟨w.heap.size, 1, none⟩ = some (.int .i64 s) ∧ w'.cell? ⟨w.heap.size, 2, none⟩ = some (.slice u mu uc) ∧ w'.cell? ⟨w.heap.size, 3, none⟩ = some (.slice f mf fc) ∧ w'.cell? ⟨w.heap.size, 4, none⟩ = some (.slice a ma ac) ∧ w'.cell? ⟨w.heap.size, 5, none⟩ = some (.slice q ms qc) ∧ w'.cell? ⟨w.heap.size, 6, none⟩ = some (.slice r mo rc) ∧ w.heap.size < w'.heap.size := fun w' hb => by
    have q := P.below hb
    exact ⟨q.cell rfl, q.cell rfl, q.cell rfl, q.cell rfl, q.cell rfl, q.cell rfl, q.cell rfl, q.lt⟩
  have Bc : Below W.heap.size W W := Below.refl _ _
  have HCC : Hid (C ≠ 0 → X = kz) := fun e => by rw [HX.out, if_neg (by simpa using e)]
  obtain ⟨p0, p1, p2, p3, p4, p5, p6, pl⟩ := keep _ Bc
  cases e2 : F == 0
  · have n7 : (F != 0) = true := by simp only [bne, e2]; rfl
    have HR1 : Hid (C = F ∧ X = kz) := by
      have e : C = F := by rw [HC.out, e2]; rfl
      exact ⟨e, HCC.out (by rw [e]; simpa using e2)⟩
    clear HC HX HP HG cN e2
    go_enter Tryz.func30, Tryz.ntmps30
    go_upto_region 1 with fail
    rw [← HW.out]
    go_wp2_with fail
    refine (cP _ Bc).mono ?_
    rintro e wn ⟨rfl, kn⟩
    have Bc := Bc.trans (kn.mono Bc.size)
    clear p0 p1 p2 p3 p4 p5 p6 pl
    have R1 := HR.out.below Bc
    obtain ⟨r0, r1, r2, r3, r4, r5, r6, r7, y0, y1, y2, y3, y4, y5, y6, y7, rl⟩ := R1.z8
    have Fz : Blk _ (w.heap.size + 1) (r8 F wpz kz) 36 := set8_blk R1 (.int .i64 F) (.int .i64 0) (.int .i64 0) (.slice none 0 0) (.slice none 0 0) (.slice none 0 0) (.slice none 0 0) (.slice none 0 0)
    have BE := set8_below (B1.trans (Bc.mono hB)) (show w.heap.size ≤ w.heap.size + 1 by omega) (.int .i64 F) (.int .i64 0) (.int .i64 0) (.slice none 0 0) (.slice none 0 0) (.slice none 0 0) (.slice none 0 0) (.slice none 0 0)
    clear R1
    go_wp2_with fail
    rw [HR1.out.1, HR1.out.2]
    exact bodyPost_ret (v := .agg (r8 F wpz kz)) (result8 Tryz.results30 Fz _ rfl) rfl ⟨wpz, rfl, OwW.z _ _, BE⟩
  obtain rfl : F = 0 := by simpa using e2
  replace HC : Hid (C = match findU us id with | none => 4 | some u => if (u.c1 == i) = true then 0 else 9) := HC
  obtain ⟨w0, s0⟩ := HP.out rfl
  have G := HG.out w0
  have cN := cN G
  have hw := hw w0
  have bz : bf us fs = 0 := G.b
  have GB := Gd.of bz
  obtain ⟨ia, ja, hij, gi, gj⟩ := sdF_zero.1 s0
  have Hj : Hid (0 ≤ j ∧ j ≤ 3) := inb_i ja
  have cU := fun W' (h : Below W.heap.size W W') => implUnitOf u mu uc f mf fc us fs id hw Hmu.out Hmf.out W' (HN.out.later h).u.arg (HN.out.later h).f.arg
  clear HP HG w0 s0 ia ja gi gj hij G e2 hw
  cases hf : findU us id with
  | none =>
    have eC : uoC us fs id = 4 := by unfold uoC; rw [bz, hf]; rfl
    have eU : uoU us fs id = K10.z := by unfold uoU; rw [bz, hf]; rfl
    rw [eC, eU] at cU
    have HR1 : Hid (C = 4 ∧ X = kz) := by
      have e : C = 4 := by rw [HC.out, hf]
      exact ⟨e, HCC.out (by rw [e]; decide)⟩
    clear cN HX HC hf eC eU GB bz
    go_enter Tryz.func30, Tryz.ntmps30
    go_upto_region 1 with fail
    rw [← HW.out]
    go_wp2_with fail
    refine (cP _ Bc).mono ?_
    rintro e wn ⟨rfl, kn⟩
    have Bc := Bc.trans (kn.mono Bc.size)
    clear p0 p1 p2 p3 p4 p5 p6 pl cP kn
    obtain ⟨p0, p1, p2, p3, p4, p5, p6, pl⟩ := keep _ Bc
    go_wp2_with fail
    refine (cU _ Bc).mono ?_
    rintro e w2 ⟨rfl, k2⟩
    have Bc := Bc.trans (k2.mono Bc.size)
    clear k2 p0 p1 p2 p3 p4 p5 p6 pl cU
    obtain ⟨w3, Hw3⟩ : ∃ w3, Hid (w3 = w2.alloc (.cells (elevenV 4 K10.z) 56)) := ⟨_, rfl⟩
    have k3 : Below w2.heap.size w2 w3 := by rw [Hw3.out]; exact (Below.refl _ _).alloc (Nat.le_refl _) _
    have tb : Blk w3 w2.heap.size (elevenV 4 K10.z) 56 := by rw [Hw3.out]; exact Blk.new _ _ _
    have Bc := Bc.trans (k3.mono Bc.size)
    clear k3
    go_upto_region 5 with fail
    rw [← Hw3.out]
    have tb0 := tb.cell (i := 0) rfl
    have R1 := HR.out.below Bc
    obtain ⟨r0, r1, r2, r3, r4, r5, r6, r7, y0, y1, y2, y3, y4, y5, y6, y7, rl⟩ := R1.z8
    have Fz : Blk _ (w.heap.size + 1) (r8 4 wpz kz) 36 := set8_blk R1 (.int .i64 4) (.int .i64 0) (.int .i64 0) (.slice none 0 0) (.slice none 0 0) (.slice none 0 0) (.slice none 0 0) (.slice none 0 0)
    have BE := set8_below (B1.trans (Bc.mono hB)) (show w.heap.size ≤ w.heap.size + 1 by omega) (.int .i64 4) (.int .i64 0) (.int .i64 0) (.slice none 0 0) (.slice none 0 0) (.slice none 0 0) (.slice none 0 0) (.slice none 0 0)
    clear R1
    go_wp2_with fail
    rw [HR1.out.1, HR1.out.2]
    exact bodyPost_ret (v := .agg (r8 4 wpz kz)) (result8 Tryz.results30 Fz _ rfl) rfl ⟨wpz, rfl, OwW.z _ _, BE⟩
  | some u0 =>
    have hm := (find_id hf).1
    have eC : uoC us fs id = 0 := by unfold uoC; rw [bz, hf]; rfl
    have eU : uoU us fs id = u0 := by unfold uoU; rw [bz, hf]; rfl
    rw [eC, eU] at cU
    replace HC : Hid (C = if (u0.c1 == i) = true then 0 else 9) := by show _ = _; rw [HC.out, hf]
    replace HX : Hid (X = if (C == 0) = true then ⟨t, s, putU (handed u0 j) us, fs, fa, se, oo⟩ else kz) := by show _ = _; rw [HX.out, hf]
    have Hput : Hid (puU us fs (handed u0 j) = putU (handed u0 j) us ∧ puF us fs (handed u0 j) = fs) := give_put GB hm Hj.out
    clear hf eC eU GB bz hm
    go_enter Tryz.func30, Tryz.ntmps30
    go_upto_region 1 with fail
    rw [← HW.out]
    go_wp2_with fail
    refine (cP _ Bc).mono ?_
    rintro e wn ⟨rfl, kn⟩
    have Bc := Bc.trans (kn.mono Bc.size)
    clear p0 p1 p2 p3 p4 p5 p6 pl cP kn
    obtain ⟨p0, p1, p2, p3, p4, p5, p6, pl⟩ := keep _ Bc
    go_wp2_with fail
    refine (cU _ Bc).mono ?_
    rintro e w2 ⟨rfl, k2⟩
    have Bc := Bc.trans (k2.mono Bc.size)
    clear k2 p0 p1 p2 p3 p4 p5 p6 pl cU
    obtain ⟨w3, Hw3⟩ : ∃ w3, Hid (w3 = w2.alloc (.cells (elevenV 0 u0) 56)) := ⟨_, rfl⟩
    have k3 : Below w2.heap.size w2 w3 := by rw [Hw3.out]; exact (Below.refl _ _).alloc (Nat.le_refl _) _
    have tb : Blk w3 w2.heap.size (elevenV 0 u0) 56 := by rw [Hw3.out]; exact Blk.new _ _ _
    have Bc := Bc.trans (k3.mono Bc.size)
    clear k3
    go_upto_region 5 with fail
    rw [← Hw3.out]
    have tb0 := tb.cell (i := 0) rfl
    have tb2 := tb.cell (i := 2) rfl
    by_cases hu : u0.c1 = i
    · subst hu
      have HR1 : Hid (C = 0 ∧ X = ⟨t, s, putU (handed u0 j) us, fs, fa, se, oo⟩) := by
        have e : C = 0 := by rw [HC.out]; simp
        exact ⟨e, by rw [HX.out, e]; rfl⟩
      clear HC HX
      obtain ⟨p0, p1, p2, p3, p4, p5, p6, pl⟩ := keep _ Bc
      go_wp2_with fail
      refine (cN _ Bc).mono ?_
      rintro e w6 ⟨g, p', rfl, ws, k6⟩
      have Bc5 := Bc
      have Bc := Bc.trans (k6.mono Bc.size)
      have h5 := k6.size
      have HWS : Hid (WS w6 w3.heap.size g p' ⟨t, s, us, fs, fa, se, oo⟩) := ws
      have HT6 : Hid (Blk w6 w2.heap.size (elevenV 0 u0) 56) := tb.below k6
      have hgb := ws.bg
      have hgl := ws.b.lt
      have h23 := tb.lt
      have hB5 := Bc5.size
      clear p0 p1 p2 p3 p4 p5 p6 pl ws k6 tb tb0 tb2 cN
      go_upto_region 10 with fail
      refine wp_region_slots (by kernel_rfl) 38 (fun d xs W => ∃ x38 x39 x40 x41 x42 x43 x44 x45 x46 x47 x48 x49 x50, xs = [x38, x39, x40, x41, x42, x43, x44, x45, x46, x47, x48, x49, x50] ∧ JGv w6 g w3.heap.size w2.heap.size p' ⟨t, s, us, fs, fa, se, oo⟩ j u0 (putU (handed u0 j) us) d x38 x39 x40 x41 x42 x43 x44 x45 x46 x47 x48 x49 x50 W) (by kernel_rfl) [_, _, _, _, _, _, _, _, _, _, _, _, _] rfl ?_ ?_ ?_
      · exact ⟨_, _, _, _, _, _, _, _, _, _, _, _, _, rfl, ⟨(fun h => by cases h), (fun h => by cases h), (fun h => by cases h), (fun h => by cases h), (fun h => by cases h), (fun h => by cases h), (fun h => by cases h), (fun h => by cases h), (fun h => by cases h), (fun h _ => by cases h), (fun h _ => by cases h), (fun h => by cases h), (fun h => by cases h), (fun _ => ⟨HWS.out.drew, HT6.out.drew⟩), (fun h => by cases h), Below2.refl⟩⟩
      · rintro d xs Wx i1 K hi hd hdep hcl ⟨x38, x39, x40, x41, x42, x43, x44, x45, x46, x47, x48, x49, x50, rfl, J⟩ hK
        have hi' : i1 < 14 := hi
        have hdp : ∀ j, (depsOf _ i1).contains j = true → d j = true := fun j hj => hdep j (by simpa using hj)
        clear hi hdep
        have h18 : i1 = 0 ∨ i1 = 1 ∨ i1 = 2 ∨ i1 = 3 ∨ i1 = 4 ∨ i1 = 5 ∨ i1 = 6 ∨ i1 = 7 ∨ i1 = 8 ∨ i1 = 9 ∨ i1 = 10 ∨ i1 = 11 ∨ i1 = 12 ∨ i1 = 13 := by omega
        rcases h18 with rfl | rfl | rfl | rfl | rfl | rfl | rfl | rfl | rfl | rfl | rfl | rfl | rfl | rfl
        · refine wpOp_of rfl rfl ?_
          dsimp only [win, List.take_succ_cons, List.take_zero, List.drop_succ_cons, List.drop_zero, List.cons_append, List.nil_append, List.length_cons, List.length_nil, Nat.reduceAdd]
          go_simp
          exact hK [(.pointer (some ⟨g, 0, none⟩)), x39, x40, x41, x42, x43, x44, x45, x46, x47, x48, x49, x50] _ ⟨_, _, _, _, _, _, _, _, _, _, _, _, _, rfl, ⟨(fun _ => rfl), J.f1, J.f2, J.f3, J.f4, J.f5, J.f6, J.f7, J.f8, J.f9, J.f10, J.f11, J.f12, J.A, J.A1, J.B⟩⟩
        · refine wpOp_of rfl rfl ?_
          dsimp only [win, List.take_succ_cons, List.take_zero, List.drop_succ_cons, List.drop_zero, List.cons_append, List.nil_append, List.length_cons, List.length_nil, Nat.reduceAdd]
          go_simp
          exact hK [x38, (.pointer (some ⟨g, 0, none⟩)), x40, x41, x42, x43, x44, x45, x46, x47, x48, x49, x50] _ ⟨_, _, _, _, _, _, _, _, _, _, _, _, _, rfl, ⟨J.f0, (fun _ => rfl), J.f2, J.f3, J.f4, J.f5, J.f6, J.f7, J.f8, J.f9, J.f10, J.f11, J.f12, J.A, J.A1, J.B⟩⟩
        · obtain rfl := J.f1 (hdp 1 (by kernel_rfl))
          refine wpOp_of rfl rfl ?_
          dsimp only [win, List.take_succ_cons, List.take_zero, List.drop_succ_cons, List.drop_zero, List.cons_append, List.nil_append, List.length_cons, List.length_nil, Nat.reduceAdd]
          go_simp
          exact hK [x38, (.pointer (some ⟨g, 0, none⟩)), (.pointer (some ⟨g, 0, none⟩)), x41, x42, x43, x44, x45, x46, x47, x48, x49, x50] _ ⟨_, _, _, _, _, _, _, _, _, _, _, _, _, rfl, ⟨J.f0, J.f1, (fun _ => rfl), J.f3, J.f4, J.f5, J.f6, J.f7, J.f8, J.f9, J.f10, J.f11, J.f12, J.A, J.A1, J.B⟩⟩
        · obtain rfl := J.f2 (hdp 2 (by kernel_rfl))
          refine wpOp_of rfl rfl ?_
          dsimp only [win, List.take_succ_cons, List.take_zero, List.drop_succ_cons, List.drop_zero, List.cons_append, List.nil_append, List.length_cons, List.length_nil, Nat.reduceAdd]
          go_simp
          exact hK [x38, x39, (.pointer (some ⟨g, 0, none⟩)), (.pointer (some ⟨g, 0, none⟩)), x42, x43, x44, x45, x46, x47, x48, x49, x50] _ ⟨_, _, _, _, _, _, _, _, _, _, _, _, _, rfl, ⟨J.f0, J.f1, J.f2, (fun _ => rfl), J.f4, J.f5, J.f6, J.f7, J.f8, J.f9, J.f10, J.f11, J.f12, J.A, J.A1, J.B⟩⟩
        · obtain rfl := J.f3 (hdp 3 (by kernel_rfl))
          have hA := J.A (hcl.no 14 hd (by kernel_rfl))
          have c0 := hA.1.b.cell (i := 0) rfl
          have c1 := hA.1.b.cell (i := 1) rfl
          dsimp only at c0 c1
          refine wpOp_of rfl rfl ?_
          dsimp only [win, List.take_succ_cons, List.take_zero, List.drop_succ_cons, List.drop_zero, List.cons_append, List.nil_append, List.length_cons, List.length_nil, Nat.reduceAdd]
          go_simp
          exact hK [x38, x39, x40, (.pointer (some ⟨g, 0, none⟩)), (.agg #[.slice p'.u us.length p'.uc, .slice p'.f fs.length p'.fc]), x43, x44, x45, x46, x47, x48, x49, x50] _ ⟨_, _, _, _, _, _, _, _, _, _, _, _, _, rfl, ⟨J.f0, J.f1, J.f2, J.f3, (fun _ => rfl), J.f5, J.f6, J.f7, J.f8, J.f9, J.f10, J.f11, J.f12, J.A, J.A1, J.B⟩⟩
        · refine wpOp_of rfl rfl ?_
          dsimp only [win, List.take_succ_cons, List.take_zero, List.drop_succ_cons, List.drop_zero, List.cons_append, List.nil_append, List.length_cons, List.length_nil, Nat.reduceAdd]
          go_simp
          exact hK [x38, x39, x40, x41, x42, (.int .i64 j), x44, x45, x46, x47, x48, x49, x50] _ ⟨_, _, _, _, _, _, _, _, _, _, _, _, _, rfl, ⟨J.f0, J.f1, J.f2, J.f3, J.f4, (fun _ => rfl), J.f6, J.f7, J.f8, J.f9, J.f10, J.f11, J.f12, J.A, J.A1, J.B⟩⟩
        · refine wpOp_of rfl rfl ?_
          dsimp only [win, List.take_succ_cons, List.take_zero, List.drop_succ_cons, List.drop_zero, List.cons_append, List.nil_append, List.length_cons, List.length_nil, Nat.reduceAdd]
          go_simp
          exact hK [x38, x39, x40, x41, x42, x43, (.pointer (some ⟨w2.heap.size, 1, none⟩)), x45, x46, x47, x48, x49, x50] _ ⟨_, _, _, _, _, _, _, _, _, _, _, _, _, rfl, ⟨J.f0, J.f1, J.f2, J.f3, J.f4, J.f5, (fun _ => rfl), J.f7, J.f8, J.f9, J.f10, J.f11, J.f12, J.A, J.A1, J.B⟩⟩
        · obtain rfl := J.f6 (hdp 6 (by kernel_rfl))
          have hA := J.A (hcl.no 14 hd (by kernel_rfl))
          have u1 := hA.2.cell (i := 1) rfl
          have u2 := hA.2.cell (i := 2) rfl
          have u3 := hA.2.cell (i := 3) rfl
          have u4 := hA.2.cell (i := 4) rfl
          have u5 := hA.2.cell (i := 5) rfl
          have u6 := hA.2.cell (i := 6) rfl
          have u7 := hA.2.cell (i := 7) rfl
          have u8 := hA.2.cell (i := 8) rfl
          have u9 := hA.2.cell (i := 9) rfl
          have u10 := hA.2.cell (i := 10) rfl
          refine wpOp_of rfl rfl ?_
          dsimp only [win, List.take_succ_cons, List.take_zero, List.drop_succ_cons, List.drop_zero, List.cons_append, List.nil_append, List.length_cons, List.length_nil, Nat.reduceAdd]
          go_simp
          exact hK [x38, x39, x40, x41, x42, x43, (.pointer (some ⟨w2.heap.size, 1, none⟩)), (.agg u0.v), x46, x47, x48, x49, x50] _ ⟨_, _, _, _, _, _, _, _, _, _, _, _, _, rfl, ⟨J.f0, J.f1, J.f2, J.f3, J.f4, J.f5, J.f6, (fun _ => rfl), J.f8, J.f9, J.f10, J.f11, J.f12, J.A, J.A1, J.B⟩⟩
        · obtain rfl := J.f5 (hdp 5 (by kernel_rfl))
          obtain rfl := J.f7 (hdp 7 (by kernel_rfl))
          refine wpOp_of rfl rfl ?_
          dsimp only [win, List.take_succ_cons, List.take_zero, List.drop_succ_cons, List.drop_zero, List.cons_append, List.nil_append, List.length_cons, List.length_nil, Nat.reduceAdd]
          refine call_wp 87 #[.int .i64 j, .agg u0.v] (by kernel_rfl) _ (handedTo_c j u0 Wx) ?_
          rintro e w7 ⟨rfl, k7⟩
          refine ⟨_, rfl, ?_⟩
          exact hK [x38, x39, x40, x41, x42, (.int .i64 j), x44, (.agg u0.v), (.agg (handed u0 j).v), x47, x48, x49, x50] _ ⟨_, _, _, _, _, _, _, _, _, _, _, _, _, rfl, ⟨J.f0, J.f1, J.f2, J.f3, J.f4, J.f5, J.f6, J.f7, (fun _ => rfl), (fun h h2 => by obtain ⟨cc, v, f, e, a, b⟩ := J.f9 h h2; exact ⟨cc, v, f, e, a.below k7, b.below k7⟩), (fun h h2 => by obtain ⟨v, f, e, a, b⟩ := J.f10 h h2; exact ⟨v, f, e, a.below k7, b.below k7⟩), J.f11, J.f12, (fun h => ⟨(J.A h).1.later k7, (J.A h).2.below k7⟩), (fun h => by obtain ⟨q, k⟩ := J.A1 h; exact ⟨q, k.later k7⟩), (J.B.thenG k7)⟩⟩
        · obtain rfl := J.f4 (hdp 4 (by kernel_rfl))
          obtain rfl := J.f8 (hdp 8 (by kernel_rfl))
          have hA := J.A (hcl.no 14 hd (by kernel_rfl))
          have hI := hA.1.o.in
          have cP : Calls Tryz.prog 86 #[.agg #[.slice p'.u us.length p'.uc, .slice p'.f fs.length p'.fc], .agg (handed u0 j).v] Wx _ := implPutUnit_i p'.u p'.uc p'.f p'.fc us fs (handed u0 j) Wx hI.u hI.f
          have hbx : w3.heap.size ≤ Wx.heap.size := Nat.le_trans hA.1.bg (Nat.le_of_lt hA.1.b.lt)
          refine wpOp_of rfl rfl ?_
          dsimp only [win, List.take_succ_cons, List.take_zero, List.drop_succ_cons, List.drop_zero, List.cons_append, List.nil_append, List.length_cons, List.length_nil, Nat.reduceAdd]
          refine call_wp 86 #[.agg #[.slice p'.u us.length p'.uc, .slice p'.f fs.length p'.fc], .agg (handed u0 j).v] (by kernel_rfl) _ cP ?_
          rintro e w7 ⟨v, f, rfl, S1, S2, k7⟩
          rw [Hput.out.1] at S1
          rw [Hput.out.2] at S2
          refine ⟨_, rfl, ?_⟩
          exact hK [x38, x39, x40, x41, (.agg #[.slice p'.u us.length p'.uc, .slice p'.f fs.length p'.fc]), x43, x44, x45, (.agg (handed u0 j).v), (.agg #[.int .i64 (puC us fs (handed u0 j)), v, f]), x48, x49, x50] _ ⟨_, _, _, _, _, _, _, _, _, _, _, _, _, rfl, ⟨J.f0, J.f1, J.f2, J.f3, J.f4, J.f5, J.f6, J.f7, J.f8, (fun _ _ => ⟨_, v, f, rfl, S1.mono hbx, S2.mono hbx⟩), (fun h h2 => by obtain ⟨v, f, e, a, b⟩ := J.f10 h h2; exact ⟨v, f, e, a.below k7, b.below k7⟩), J.f11, J.f12, (fun h => ⟨(J.A h).1.later k7, (J.A h).2.below k7⟩), (fun h => by obtain ⟨q, k⟩ := J.A1 h; exact ⟨q, k.later k7⟩), (J.B.thenG k7)⟩⟩
        · obtain ⟨cc, v, f, rfl, SU, SF⟩ := J.f9 (hdp 9 (by kernel_rfl)) (hcl.no 14 hd (by kernel_rfl))
          have fB : ∀ (c v f : Value) (w : World), (Instr.field 112 (.agg #[c, v, f]) 1).run Tryz.prog w = .ok (.agg #[v, f]) w := fun _ _ _ _ => by kernel_rfl
          refine wpOp_of rfl rfl ?_
          dsimp only [win, List.take_succ_cons, List.take_zero, List.drop_succ_cons, List.drop_zero, List.cons_append, List.nil_append, List.length_cons, List.length_nil, Nat.reduceAdd]
          go_simp
          exact hK [x38, x39, x40, x41, x42, x43, x44, x45, x46, (.agg #[.int .i64 cc, v, f]), (.agg #[v, f]), x49, x50] _ ⟨_, _, _, _, _, _, _, _, _, _, _, _, _, rfl, ⟨J.f0, J.f1, J.f2, J.f3, J.f4, J.f5, J.f6, J.f7, J.f8, J.f9, (fun _ _ => ⟨v, f, rfl, SU, SF⟩), J.f11, J.f12, J.A, J.A1, J.B⟩⟩
        · obtain rfl := J.f0 (hdp 0 (by kernel_rfl))
          refine wpOp_of rfl rfl ?_
          dsimp only [win, List.take_succ_cons, List.take_zero, List.drop_succ_cons, List.drop_zero, List.cons_append, List.nil_append, List.length_cons, List.length_nil, Nat.reduceAdd]
          go_simp
          exact hK [(.pointer (some ⟨g, 0, none⟩)), x39, x40, x41, x42, x43, x44, x45, x46, x47, x48, (.pointer (some ⟨g, 0, none⟩)), x50] _ ⟨_, _, _, _, _, _, _, _, _, _, _, _, _, rfl, ⟨J.f0, J.f1, J.f2, J.f3, J.f4, J.f5, J.f6, J.f7, J.f8, J.f9, J.f10, (fun _ => rfl), J.f12, J.A, J.A1, J.B⟩⟩
        · obtain rfl := J.f11 (hdp 11 (by kernel_rfl))
          refine wpOp_of rfl rfl ?_
          dsimp only [win, List.take_succ_cons, List.take_zero, List.drop_succ_cons, List.drop_zero, List.cons_append, List.nil_append, List.length_cons, List.length_nil, Nat.reduceAdd]
          go_simp
          exact hK [x38, x39, x40, x41, x42, x43, x44, x45, x46, x47, x48, (.pointer (some ⟨g, 0, none⟩)), (.pointer (some ⟨g, 0, none⟩))] _ ⟨_, _, _, _, _, _, _, _, _, _, _, _, _, rfl, ⟨J.f0, J.f1, J.f2, J.f3, J.f4, J.f5, J.f6, J.f7, J.f8, J.f9, J.f10, J.f11, (fun _ => rfl), J.A, J.A1, J.B⟩⟩
        · obtain ⟨v, f, rfl, SU, SF⟩ := J.f10 (hdp 10 (by kernel_rfl)) hd
          obtain rfl := J.f12 (hdp 12 (by kernel_rfl))
          have hA := J.A hd
          obtain ⟨q1, c1, rfl⟩ := SU.fm
          obtain ⟨q2, c2, rfl⟩ := SF.fm
          have d0 := hA.1.b.cell (i := 0) rfl
          have d1 := hA.1.b.cell (i := 1) rfl
          have z0 := hA.1.b.frozen 0
          have z1 := hA.1.b.frozen 1
          have st := hA.1.setBoard SU SF
          refine wpOp_of rfl rfl ?_
          dsimp only [win, List.take_succ_cons, List.take_zero, List.drop_succ_cons, List.drop_zero, List.cons_append, List.nil_append, List.length_cons, List.length_nil, Nat.reduceAdd]
          go_simp
          exact hK [x38, x39, x40, x41, x42, x43, x44, x45, x46, x47, (.agg #[.slice q1 (putU (handed u0 j) us).length c1, .slice q2 fs.length c2]), x49, (.pointer (some ⟨g, 0, none⟩))] _ ⟨_, _, _, _, _, _, _, _, _, _, _, _, _, rfl, ⟨J.f0, J.f1, J.f2, J.f3, J.f4, J.f5, J.f6, J.f7, J.f8, (fun _ h => by cases h), (fun _ h => by cases h), J.f11, J.f12, (fun h => by cases h), (fun _ => ⟨_, st⟩), ((J.B.set 0 _).set 1 _)⟩⟩
      · rintro d xs Wx hall ⟨x38, x39, x40, x41, x42, x43, x44, x45, x46, x47, x48, x49, x50, rfl, J⟩
        obtain ⟨q', J1⟩ := J.A1 (hall 13 (by decide))
        have J3 := J.B
        clear J hall
        obtain ⟨pu', pcu, pf', pcf, pa', pca, ps', pcs, po', pco⟩ := q'
        dsimp only at J1
        have Bx : Below W.heap.size W Wx := Bc.trans (J3.below (n := W.heap.size) (by omega) (by omega))
        generalize putU (handed u0 j) us = ub at J1 HR1
        clear J3 HWS HT6 Hput
        dsimp only [win, List.take_succ_cons, List.take_zero, List.drop_succ_cons, List.drop_zero, List.cons_append, List.nil_append, List.length_cons, List.length_nil, Nat.reduceAdd]
        go_wp2_with fail
        refine (result_c g w3.heap.size _ _ _ J1).mono ?_
        rintro e w8 ⟨rfl, O8, k8⟩
        have B8 := Bx.trans (k8.mono Bx.size)
        have R1 := HR.out.below B8
        obtain ⟨r0, r1, r2, r3, r4, r5, r6, r7, e0, e1, e2, e3, e4, e5, e6, e7, rl⟩ := R1.z8
        have Fz := set8_blk R1 (.int .i64 0) (.int .i64 t) (.int .i64 s) (.slice pu' ub.length pcu) (.slice pf' fs.length pcf) (.slice pa' fa.length pca) (.slice ps' se.length pcs) (.slice po' oo.length pco)
        have Fo := (O8.of_block R1 (by decide) (by decide) (by decide) (by decide) (by decide) (set8_other (W := w8) (g := w.heap.size + 1) (.int .i64 0) (.int .i64 t) (.int .i64 s) (.slice pu' ub.length pcu) (.slice pf' fs.length pcf) (.slice pa' fa.length pca) (.slice ps' se.length pcs) (.slice po' oo.length pco))).mono (show w.heap.size ≤ w3.heap.size by omega)
        have BE := set8_below (B1.trans (B8.mono hB)) (show w.heap.size ≤ w.heap.size + 1 by omega) (.int .i64 0) (.int .i64 t) (.int .i64 s) (.slice pu' ub.length pcu) (.slice pf' fs.length pcf) (.slice pa' fa.length pca) (.slice ps' se.length pcs) (.slice po' oo.length pco)
        clear R1 J1 O8
        go_wp2_with fail
        rw [HR1.out.1, HR1.out.2]
        exact bodyPost_ret (v := .agg (r8 0 ⟨pu', pcu, pf', pcf, pa', pca, ps', pcs, po', pco⟩ ⟨t, s, ub, fs, fa, se, oo⟩)) (result8 Tryz.results30 Fz _ rfl) rfl ⟨_, rfl, Fo, BE⟩
    · have hu' : (u0.c1 != i) = true := by simpa using hu
      have HR1 : Hid (C = 9 ∧ X = kz) := by
        have e : C = 9 := by rw [HC.out, if_neg (by simpa using hu)]
        exact ⟨e, HCC.out (by rw [e]; decide)⟩
      clear HC HX cN hu
      have R1 := HR.out.below Bc
      obtain ⟨r0, r1, r2, r3, r4, r5, r6, r7, y0, y1, y2, y3, y4, y5, y6, y7, rl⟩ := R1.z8
      have Fz : Blk _ (w.heap.size + 1) (r8 9 wpz kz) 36 := set8_blk R1 (.int .i64 9) (.int .i64 0) (.int .i64 0) (.slice none 0 0) (.slice none 0 0) (.slice none 0 0) (.slice none 0 0) (.slice none 0 0)
      have BE := set8_below (B1.trans (Bc.mono hB)) (show w.heap.size ≤ w.heap.size + 1 by omega) (.int .i64 9) (.int .i64 0) (.int .i64 0) (.slice none 0 0) (.slice none 0 0) (.slice none 0 0) (.slice none 0 0) (.slice none 0 0)
      clear R1
      go_wp2_with fail
      rw [HR1.out.1, HR1.out.2]
      exact bodyPost_ret (v := .agg (r8 9 wpz kz)) (result8 Tryz.results30 Fz _ rfl) rfl ⟨wpz, rfl, OwW.z _ _, BE⟩
end Go.Proofs.YtaeeahgibifkjaaGreat
end
