/- Texts of mine put together (a claim holds at most 60 files): LeaveW, GfLeaves, WldDraws2. -/
import Derived.Test.YtlfnnobkgbfdgaaGreatPartH10
import Derived.Test.YtlfnnobkgbfdgaaGreatPartH37
import Derived.Test.YtlfnnobkgbfdgaaGreatPartH35
import Derived.Test.YtlfnnobkgbfdgaaGreatPartH30
import Derived.Test.YtlfnnobkgbfdgaaGreatPartH24

/- LeaveW -/
/- The contracts of LeaveSide, LeaveSeat, AlliesOf and HeirsOf, the program's. Condition: the world's lists lie in memory as they were laid there. -/
section
namespace Go.Proofs.YtlfnnobkgbfdgaaGreat
open Go.ChangeShapes Go.WideShapes Go.ChangeAt Go.RowKit
open Bd
set_option linter.unusedVariables false

set_option maxRecDepth 20000 in
set_option maxHeartbeats 16000000 in
theorem implLeaveSide (p : WP) (x : KW) (w : World) (h : InW w p x) (i : Int) :
    Calls Tryz.prog 6 #[.agg (p.v x), .int .i64 i] w fun e w' => ∃ q, e = .returned (.agg (r8 (leaC hasI x i) q (leaX hasI x i))) ∧ OwW w' w.heap.size q (leaX hasI x i) ∧ Below w.heap.size w w' := by
  obtain ⟨t, s, us, fs, fa, se, oo⟩ := x
  obtain ⟨u, uc, f, fc, a, ac, q, qc, r, rc⟩ := p
  obtain ⟨W, HW⟩ : ∃ W, Hid (W = (w.alloc (.cells (wv t s u us.length uc f fs.length fc a fa.length ac q se.length qc r oo.length rc) 32)).alloc (.cells z8 36)) := ⟨_, rfl⟩
  have B1 : Below w.heap.size w W := by rw [HW.out]; exact ((Below.refl _ _).alloc (Nat.le_refl _) _).alloc (by rw [size_new]; omega) _
  have P : Bk W w.heap.size (wv t s u us.length uc f fs.length fc a fa.length ac q se.length qc r oo.length rc) 32 := by rw [HW.out]; exact (Bk.new w (wv t s u us.length uc f fs.length fc a fa.length ac q se.length qc r oo.length rc) 32).alloc _
  have R : Blk W (w.heap.size + 1) z8 36 := by rw [HW.out]; have h := Blk.new (w.alloc (.cells (wv t s u us.length uc f fs.length fc a fa.length ac q se.length qc r oo.length rc) 32)) z8 36; rw [size_new] at h; exact h
  have HN : Hid (InW W ⟨u, uc, f, fc, a, ac, q, qc, r, rc⟩ ⟨t, s, us, fs, fa, se, oo⟩) := h.later B1
  have HR : Hid (Blk W (w.heap.size + 1) z8 36) := R
  have hB := B1.size
  show Calls Tryz.prog 6 #[.agg (wv t s u us.length uc f fs.length fc a fa.length ac q se.length qc r oo.length rc), .int .i64 i] w _
  have cF := fun W' (h : Below W.heap.size W W') => implSideFault ⟨u, uc, f, fc, a, ac, q, qc, r, rc⟩ ⟨t, s, us, fs, fa, se, oo⟩ HN.out.o1 HN.out.o2 W' (HN.out.later h).arg i
  replace cF : ∀ W', Below W.heap.size W W' → Calls Tryz.prog 16 #[.agg (wv t s u us.length uc f fs.length fc a fa.length ac q se.length qc r oo.length rc), .int .i64 i] W' fun e w' => e = .returned (.int .i64 (sfF hasI ⟨t, s, us, fs, fa, se, oo⟩ i)) ∧ Below W'.heap.size W' w' := cF
  have cN := fun (e : GdW hasI ⟨t, s, us, fs, fa, se, oo⟩) W' (h : Below W.heap.size W W') => newWorldState_c ⟨u, uc, f, fc, a, ac, q, qc, r, rc⟩ ⟨t, s, us, fs, fa, se, oo⟩ (Gd8 e.b).1 (Gd8 e.b).2 (Nat.le_of_eq e.a4) e.s6 e.o6 W' (HN.out.later h)
  replace cN : GdW hasI ⟨t, s, us, fs, fa, se, oo⟩ → ∀ W', Below W.heap.size W W' → Calls Tryz.prog 18 #[.agg (wv t s u us.length uc f fs.length fc a fa.length ac q se.length qc r oo.length rc)] W' fun e w' => ∃ g p', e = .returned (.pointer (some ⟨g, 0, none⟩)) ∧ WS w' W'.heap.size g p' ⟨t, s, us, fs, fa, se, oo⟩ ∧ Below W'.heap.size W' w' := cN
  have cL := fun (G : GdW hasI ⟨t, s, us, fs, fa, se, oo⟩) (a0 : 0 ≤ i) (a3 : i ≤ 3) (g base : Nat) (p' : WP) (w2 : World) (hb : base ≤ w2.heap.size) (hw : WS w2 base g p' ⟨t, s, us, fs, fa, se, oo⟩) => leaveSide_c g base p' t s us fs fa se oo i w2 hw G hb a0 a3
  have HC : Hid (leaC hasI ⟨t, s, us, fs, fa, se, oo⟩ i = if (wf hasI ⟨t, s, us, fs, fa, se, oo⟩ == 0) = false then wf hasI ⟨t, s, us, fs, fa, se, oo⟩ else if inb i 0 3 = false then 3 else if goneA fa i = true then 8 else if 100000000 < s + purA fa i then 7 else 0) := rfl
  have HX : Hid (leaX hasI ⟨t, s, us, fs, fa, se, oo⟩ i = if (leaC hasI ⟨t, s, us, fs, fa, se, oo⟩ i == 0) = true then ⟨t, leaS hasI ⟨t, s, us, fs, fa, se, oo⟩ i, shU i (heirs hasI ⟨t, s, us, fs, fa, se, oo⟩ i) 0 us, fs, leaF hasI ⟨t, s, us, fs, fa, se, oo⟩ i, seF' i se, ooF' i oo⟩ else kz) := rfl
  have HS : Hid (sfF hasI ⟨t, s, us, fs, fa, se, oo⟩ i = if (wf hasI ⟨t, s, us, fs, fa, se, oo⟩ == 0) = false then wf hasI ⟨t, s, us, fs, fa, se, oo⟩ else if inb i 0 3 = false then 3 else 0) := rfl
  have HG : Hid (wf hasI ⟨t, s, us, fs, fa, se, oo⟩ = 0 → GdW hasI ⟨t, s, us, fs, fa, se, oo⟩) := (gdW_iff hasI _).1
  generalize leaC hasI ⟨t, s, us, fs, fa, se, oo⟩ i = C at HC HX ⊢
  generalize leaX hasI ⟨t, s, us, fs, fa, se, oo⟩ i = X at HX ⊢
  generalize sfF hasI ⟨t, s, us, fs, fa, se, oo⟩ i = F at cF HS
  generalize wf hasI ⟨t, s, us, fs, fa, se, oo⟩ = Fw at HC HS HG
  have HCF : Hid ((F == 0) = false → C = F) := fun e => by
    rw [HC.out]
    rw [HS.out] at e ⊢
    cases e1 : Fw == 0 <;> cases e2 : inb i 0 3 <;> simp_all
  have HCZ : Hid (F = 0 → Fw = 0 ∧ inb i 0 3 = true) := fun e => by
    rw [HS.out] at e
    cases e1 : Fw == 0
    · rw [e1, if_pos rfl] at e; rw [e] at e1; cases e1
    · rw [e1, if_neg (by simp)] at e
      refine ⟨by simpa using e1, ?_⟩
      cases e2 : inb i 0 3
      · rw [e2] at e; cases e
      · rfl
  obtain ⟨mu, Hmu⟩ : ∃ m, Hid (us.length = m) := ⟨_, rfl⟩
  obtain ⟨mf, Hmf⟩ : ∃ m, Hid (fs.length = m) := ⟨_, rfl⟩
  obtain ⟨ma, Hma⟩ : ∃ m, Hid (fa.length = m) := ⟨_, rfl⟩
  obtain ⟨ms, Hms⟩ : ∃ m, Hid (se.length = m) := ⟨_, rfl⟩
  obtain ⟨mo, Hmo⟩ : ∃ m, Hid (oo.length = m) := ⟨_, rfl⟩
  rw [Hmu.out, Hmf.out, Hma.out, Hms.out, Hmo.out] at P HW cF cN ⊢
  clear h R HS
  have keep : ∀ w', Below W.heap.size W w' → w'.cell? ⟨w.heap.size, 0, none⟩ = some (.int .i64 t) ∧ w'.cell? ⟨w.heap.size, 1, none⟩ = some (.int .i64 s) ∧ w'.cell? ⟨w.heap.size, 2, none⟩ = some (.slice u mu uc) ∧ w'.cell? ⟨w.heap.size, 3, none⟩ = some (.slice f mf fc) ∧ w'.cell? ⟨w.heap.size, 4, none⟩ = some (.slice a ma ac) ∧ w'.cell? ⟨w.heap.size, 5, none⟩ = some (.slice q ms qc) ∧ w'.cell? ⟨w.heap.size, 6, none⟩ = some (.slice r mo rc) ∧ w.heap.size < w'.heap.size := fun w' hb => by
    have q := P.below hb
    exact ⟨q.cell rfl, q.cell rfl, q.cell rfl, q.cell rfl, q.cell rfl, q.cell rfl, q.cell rfl, q.lt⟩
  have Bc : Below W.heap.size W W := Below.refl _ _
  have HCC : Hid (C ≠ 0 → X = kz) := fun e => by rw [HX.out, if_neg (by simpa using e)]
  obtain ⟨p0, p1, p2, p3, p4, p5, p6, pl⟩ := keep _ Bc
  cases e2 : F == 0
  · have n7 : (F != 0) = true := by simp only [bne, e2]; rfl
    have HR1 : Hid (C = F ∧ X = kz) := by
      have e : C = F := HCF.out e2
      exact ⟨e, HCC.out (by rw [e]; simpa using e2)⟩
    clear HC HX HCF HCZ HG cN cL e2 HCC
    go_enter Tryz.func6, Tryz.ntmps6
    go_upto_region 1 with fail
    rw [← HW.out]
    go_wp2_with fail
    refine (cF _ Bc).mono ?_
    rintro e wn ⟨rfl, kn⟩
    have Bc := Bc.trans (kn.mono Bc.size)
    clear p0 p1 p2 p3 p4 p5 p6 pl
    have R1 := HR.out.below Bc
    obtain ⟨r0, r1, r2, r3, r4, r5, r6, r7, y0, y1, y2, y3, y4, y5, y6, y7, rl⟩ := R1.z8
    have Fz : Blk _ (w.heap.size + 1) (r8 F wpz kz) 36 := set8_blk R1 (.int .i64 F) (.int .i64 0) (.int .i64 0) (.slice none 0 0) (.slice none 0 0) (.slice none 0 0) (.slice none 0 0) (.slice none 0 0)
    have BE := set8_below (B1.trans (Bc.mono hB)) (show w.heap.size ≤ w.heap.size + 1 by omega) (.int .i64 F) (.int .i64 0) (.int .i64 0) (.slice none 0 0) (.slice none 0 0) (.slice none 0 0) (.slice none 0 0) (.slice none 0 0)
    clear R1
    go_wp2_with fail
    rw [HR1.out.1, HR1.out.2]
    exact bodyPost_ret (v := .agg (r8 F wpz kz)) (result8 Tryz.results6 Fz _ rfl) rfl ⟨wpz, rfl, OwW.z _ _, BE⟩
  obtain rfl : F = 0 := by simpa using e2
  obtain ⟨rfl, ia⟩ := HCZ.out rfl
  replace HC : Hid (C = if goneA fa i = true then 8 else if 100000000 < s + purA fa i then 7 else 0) := by
    show _ = _
    rw [HC.out, if_neg (by simp), if_neg (by rw [ia]; simp)]
  have G := HG.out rfl
  obtain ⟨a0, a3⟩ := inb_i ia
  have cN := cN G
  have cL := cL G a0 a3
  have h4 : ma = 4 := by rw [← Hma.out]; exact G.a4
  subst h4
  obtain ⟨y, hy, hyg, _⟩ := side_at Hma.out a0 a3
  have hyp : purA fa i = y.c0 := pur_get hy
  have yb := inb_i (purse_in G y (List.mem_of_getElem? hy))
  have sb := inb_i G.s
  obtain ⟨yb0, yb1⟩ := yb
  obtain ⟨sb0, sb1⟩ := sb
  dsimp only at sb0 sb1
  have Hy : Hid (fa[i.toNat]? = some y) := hy
  have keepY : ∀ w', Below W.heap.size W w' → ∃ b o, a = some ⟨b, o, none⟩ ∧ A1 w' b (o + i.toNat * 3) y := fun w' hb => by
    obtain ⟨b, o, hpa, hbl, hat⟩ := (HN.out.later hb).arg.a.atP Hy.out
    exact ⟨b, o, hpa, hat.one hbl Hy.out⟩
  have a4 : i < 4 := by omega
  rw [hyg, hyp] at HC
  have qS := fun w => isSpent_w (s + y.c0) w
  clear HCF HCZ HG ia hy hyg G e2
  go_enter Tryz.func6, Tryz.ntmps6
  go_upto_region 1 with fail
  rw [← HW.out]
  go_wp2_with fail
  refine (cF _ Bc).mono ?_
  rintro e wn ⟨rfl, kn⟩
  have Bc := Bc.trans (kn.mono Bc.size)
  clear p0 p1 p2 p3 p4 p5 p6 pl
  obtain ⟨p0, p1, p2, p3, p4, p5, p6, pl⟩ := keep _ Bc
  obtain ⟨ba, oa, rfl, ⟨y0, y1, y2, yl⟩⟩ := keepY _ Bc
  cases eg : y.c1
  case true =>
    rw [eg] at HC y1
    have HR1 : Hid (C = 8 ∧ X = kz) := by
      have e : C = 8 := by rw [HC.out]; rfl
      exact ⟨e, HCC.out (by rw [e]; decide)⟩
    have R1 := HR.out.below Bc
    obtain ⟨r0, r1, r2, r3, r4, r5, r6, r7, y0, y1, y2, y3, y4, y5, y6, y7, rl⟩ := R1.z8
    have Fz : Blk _ (w.heap.size + 1) (r8 8 wpz kz) 36 := set8_blk R1 (.int .i64 8) (.int .i64 0) (.int .i64 0) (.slice none 0 0) (.slice none 0 0) (.slice none 0 0) (.slice none 0 0) (.slice none 0 0)
    have BE := set8_below (B1.trans (Bc.mono hB)) (show w.heap.size ≤ w.heap.size + 1 by omega) (.int .i64 8) (.int .i64 0) (.int .i64 0) (.slice none 0 0) (.slice none 0 0) (.slice none 0 0) (.slice none 0 0) (.slice none 0 0)
    clear R1
    go_wp2_with fail
    rw [HR1.out.1, HR1.out.2]
    exact bodyPost_ret (v := .agg (r8 8 wpz kz)) (result8 Tryz.results6 Fz _ rfl) rfl ⟨wpz, rfl, OwW.z _ _, BE⟩
  case false =>
    rw [eg] at HC y1
    replace HC : Hid (C = if 100000000 < s + y.c0 then 7 else 0) := by show _ = _; rw [HC.out]; simp
    go_upto_region 6 with fail
    cases es : inb (s + y.c0) 0 100000000
    · rw [es] at qS
      have HR1 : Hid (C = 7 ∧ X = kz) := by
        have h := inb_n es
        have e : C = 7 := by rw [HC.out, if_pos (by omega)]
        exact ⟨e, HCC.out (by rw [e]; decide)⟩
      go_quiet (first | (go_at_call 17; exact Calls.quiet_of_same (qS _)))
      have Bc := Bc.trans ((below_drewN _ nq).mono Bc.size)
      clear y0 y1 y2 yl p0 p1 p2 p3 p4 p5 p6 pl
      have R1 := HR.out.below Bc
      obtain ⟨r0, r1, r2, r3, r4, r5, r6, r7, y0, y1, y2, y3, y4, y5, y6, y7, rl⟩ := R1.z8
      have Fz : Blk _ (w.heap.size + 1) (r8 7 wpz kz) 36 := set8_blk R1 (.int .i64 7) (.int .i64 0) (.int .i64 0) (.slice none 0 0) (.slice none 0 0) (.slice none 0 0) (.slice none 0 0) (.slice none 0 0)
      have BE := set8_below (B1.trans (Bc.mono hB)) (show w.heap.size ≤ w.heap.size + 1 by omega) (.int .i64 7) (.int .i64 0) (.int .i64 0) (.slice none 0 0) (.slice none 0 0) (.slice none 0 0) (.slice none 0 0) (.slice none 0 0)
      clear R1
      go_wp2_with fail
      rw [HR1.out.1, HR1.out.2]
      exact bodyPost_ret (v := .agg (r8 7 wpz kz)) (result8 Tryz.results6 Fz _ rfl) rfl ⟨wpz, rfl, OwW.z _ _, BE⟩
    · rw [es] at qS
      have hsp := inb_i es
      have HR0 : Hid (C = 0) := by show _ = _; rw [HC.out, if_neg (by omega)]
      have HR2' : Hid (X = ⟨t, leaS hasI ⟨t, s, us, fs, fa, se, oo⟩ i, shU i (heirs hasI ⟨t, s, us, fs, fa, se, oo⟩ i) 0 us, fs, leaF hasI ⟨t, s, us, fs, fa, se, oo⟩ i, seF' i se, ooF' i oo⟩) := by show _ = _; rw [HX.out, HR0.out]; rfl
      generalize leaS hasI ⟨t, s, us, fs, fa, se, oo⟩ i = s9 at cL HR2'
      generalize shU i (heirs hasI ⟨t, s, us, fs, fa, se, oo⟩ i) 0 us = us9 at cL HR2'
      generalize leaF hasI ⟨t, s, us, fs, fa, se, oo⟩ i = fa9 at cL HR2'
      generalize seF' i se = se9 at cL HR2'
      generalize ooF' i oo = oo9 at cL HR2'
      obtain ⟨t9, Ht9⟩ : ∃ v, Hid (v = t) := ⟨_, rfl⟩
      obtain ⟨fs9, Hfs9⟩ : ∃ v, Hid (v = fs) := ⟨_, rfl⟩
      go_quiet (first | (go_at_call 17; exact Calls.quiet_of_same (qS _)))
      have Bc := Bc.trans ((below_drewN _ nq).mono Bc.size)
      clear y0 y1 y2 yl p0 p1 p2 p3 p4 p5 p6 pl HC HX HCC
      obtain ⟨p0, p1, p2, p3, p4, p5, p6, pl⟩ := keep _ Bc
      go_wp2_with fail
      refine (cN _ Bc).mono ?_
      rintro e w5 ⟨g, p5', rfl, hw5, k5⟩
      have hB5 : W.heap.size ≤ _ := Bc.size
      have Bc := Bc.trans (k5.mono Bc.size)
      have cL := cL g _ p5' w5 k5.size hw5
      go_wp2_with fail
      refine cL.mono ?_
      rintro e w6 ⟨rfl, ⟨p6', hw6⟩, k6⟩
      have Bc := Bc.trans ((k6.below (Nat.le_refl _)).mono hB5)
      clear p0 p1 p2 p3 p4 p5 p6 pl
      go_wp2_with fail
      refine (result_c g _ _ _ _ hw6).mono ?_
      rintro e w8 ⟨rfl, O8, k8⟩
      have Bc := Bc.trans (k8.mono Bc.size)
      rw [← Ht9.out, ← Hfs9.out] at O8 HR2' ⊢
      obtain ⟨pu9, uc9, pf9, fc9, pa9, ac9, ps9, sc9, po9, oc9⟩ := p6'
      have HR2 : Hid (C = 0 ∧ X = ⟨t9, s9, us9, fs9, fa9, se9, oo9⟩) := ⟨HR0.out, HR2'.out⟩
      have R1 := HR.out.below Bc
      obtain ⟨r0, r1, r2, r3, r4, r5, r6, r7, y0, y1, y2, y3, y4, y5, y6, y7, rl⟩ := R1.z8
      have Fz := set8_blk R1 (.int .i64 0) (.int .i64 t9) (.int .i64 s9) (.slice pu9 us9.length uc9) (.slice pf9 fs9.length fc9) (.slice pa9 fa9.length ac9) (.slice ps9 se9.length sc9) (.slice po9 oo9.length oc9)
      have Fo := (O8.of_block R1 (by decide) (by decide) (by decide) (by decide) (by decide) (set8_other (W := w8) (g := w.heap.size + 1) (.int .i64 0) (.int .i64 t9) (.int .i64 s9) (.slice pu9 us9.length uc9) (.slice pf9 fs9.length fc9) (.slice pa9 fa9.length ac9) (.slice ps9 se9.length sc9) (.slice po9 oo9.length oc9))).mono (show w.heap.size ≤ _ by first | omega | (have := Bc.size; omega))
      have BE := set8_below (B1.trans (Bc.mono hB)) (show w.heap.size ≤ w.heap.size + 1 by omega) (.int .i64 0) (.int .i64 t9) (.int .i64 s9) (.slice pu9 us9.length uc9) (.slice pf9 fs9.length fc9) (.slice pa9 fa9.length ac9) (.slice ps9 se9.length sc9) (.slice po9 oo9.length oc9)
      clear R1 O8
      go_wp2_with fail
      rw [HR2.out.1, HR2.out.2]
      exact bodyPost_ret (v := .agg (r8 0 ⟨pu9, uc9, pf9, fc9, pa9, ac9, ps9, sc9, po9, oc9⟩ ⟨t9, s9, us9, fs9, fa9, se9, oo9⟩)) (result8 Tryz.results6 Fz _ rfl) rfl ⟨_, rfl, Fo, BE⟩
/- who leaves takes a seat away -/
def lsC (h : Int → Int → Bool) (x : KW) (c : Int) : Int := if (soC h x c == 0) = false then soC h x c else if lastS x.se (soS h x c) = true then leaC h x (soS h x c).c1 else 0
def lsX (h : Int → Int → Bool) (x : KW) (c : Int) : KW := if (soC h x c == 0) = false then kz else if lastS x.se (soS h x c) = true then leaX h x (soS h x c).c1 else ⟨x.t, x.s, x.us, x.fs, x.fa, x.se.filter (fun s => !(s.b (soS h x c))), x.oo⟩
end Go.Proofs.YtlfnnobkgbfdgaaGreat
end

/- GfLeaves -/
/- Plain facts of LeaveSeat: a seat that goes, and the last one of a side. No condition. -/
section
namespace Go.Proofs.YtlfnnobkgbfdgaaGreat
open Bd
set_option linter.unusedVariables false

/- how many others there are of a side -/
def othS (f c : Int) : List K4 → Int
  | [] => 0
  | s :: l => (if (s.c1 == f && s.c0 != c) = true then 1 else 0) + othS f c l
/- what is so of who leaves -/
structure LsG (h : Int → Int → Bool) (x : KW) (c : Int) : Prop where
  so0 : soC h x c = 0
  wfx : wf h x = 0
  wf0 : wf h (lsX h x c) = 0
  none' : soC h (lsX h x c) c = 4
  f4 : (lsX h x c).fa.length = 4
  gone : goneA (lsX h x c).fa (soS h x c).c1 = lastS x.se (soS h x c)
  tot : totF (lsX h x c) = totF x
  f0 : 0 ≤ (soS h x c).c1
  f3 : (soS h x c).c1 ≤ 3
end Go.Proofs.YtlfnnobkgbfdgaaGreat
end

/- WldDraws2 -/
/- Contracts of the draws of worlds: a new world, two who are made allies. No condition. -/
section
namespace Go.Proofs.YtlfnnobkgbfdgaaGreat
open Go.ChangeShapes Go.WideShapes Go.ChangeAt Go.RowKit
set_option linter.unusedVariables false

abbrev F12 : Array Value := #[.int .i64 0, .bool false, .int .i64 0, .int .i64 0, .bool false, .int .i64 0, .int .i64 0, .bool false, .int .i64 0, .int .i64 0, .bool false, .int .i64 0]
theorem made12' : madeCells KA.z.v 12 = F12 := by kernel_rfl
theorem mk4' (W : World) : (Instr.makeSlice 28 (.int .i64 4) (.int .i64 4)).run Tryz.prog W = .ok (.slice (some ⟨W.heap.size, 0, none⟩) 4 4) (W.alloc (.cells F12 46)) := by
  have h := makeA 4 (by omega) W
  rw [show 4 * 3 = 12 from rfl, made12'] at h
  exact h
abbrev w7' (g : Nat) : Array Value := wV 0 0 (.slice none 0 0) (.slice none 0 0) g (.slice none 0 0) (.slice none 0 0)
set_option maxRecDepth 20000 in
set_option maxHeartbeats 1000000 in
theorem l6New_w (w : World) : Calls Tryz.prog 108 #[] w fun e w' => ∃ g, e = .returned (.agg (w7' g)) ∧ Blk w' g (flatA [KA.z, KA.z, KA.z, KA.z]).toArray 46 ∧ w.heap.size ≤ g ∧ Below w.heap.size w w' := by
  have hmk := fun W => mk4' W
  have R : Blk ((w.alloc (.cells (w7' (w.heap.size + 1)) 32)).alloc (.cells F12 46)) w.heap.size (w7' (w.heap.size + 1)) 32 := (Blk.new w _ _).alloc _
  have FB : Blk ((w.alloc (.cells (w7' (w.heap.size + 1)) 32)).alloc (.cells F12 46)) (w.heap.size + 1) F12 46 := by have h := Blk.new (w.alloc (.cells (w7' (w.heap.size + 1)) 32)) F12 46; rw [size_new] at h; exact h
  have B : Below w.heap.size w ((w.alloc (.cells (w7' (w.heap.size + 1)) 32)).alloc (.cells F12 46)) := ((Below.refl _ _).alloc (Nat.le_refl _) _).alloc (by rw [size_new]; omega) _
  go_enter Tryz.func108, Tryz.ntmps108
  go_wp2
  have c0 : World.cell? _ ⟨w.heap.size, 0, none⟩ = some (.int .i64 0) := R.cell (i := 0) rfl
  have c1 : World.cell? _ ⟨w.heap.size, 1, none⟩ = some (.int .i64 0) := R.cell (i := 1) rfl
  have c2 : World.cell? _ ⟨w.heap.size, 2, none⟩ = some (.slice none 0 0) := R.cell (i := 2) rfl
  have c3 : World.cell? _ ⟨w.heap.size, 3, none⟩ = some (.slice none 0 0) := R.cell (i := 3) rfl
  have c4 : World.cell? _ ⟨w.heap.size, 4, none⟩ = some (.slice (some ⟨w.heap.size + 1, 0, none⟩) 4 4) := R.cell (i := 4) rfl
  have c5 : World.cell? _ ⟨w.heap.size, 5, none⟩ = some (.slice none 0 0) := R.cell (i := 5) rfl
  have c6 : World.cell? _ ⟨w.heap.size, 6, none⟩ = some (.slice none 0 0) := R.cell (i := 6) rfl
  refine bodyPost_ret (v := .agg (w7' (w.heap.size + 1))) ?_ rfl ⟨w.heap.size + 1, rfl, FB, by omega, B⟩
  simp [results, Tryz.results108, go_sem, c0, c1, c2, c3, c4, c5, c6]
  done
theorem or_fin : ∀ k : Fin 32, (0 ≤ bits BinOp.or IntKind.i64 (k.val : Int) 1 ∧ bits BinOp.or IntKind.i64 (k.val : Int) 1 < 32) ∧ (0 ≤ bits BinOp.or IntKind.i64 (k.val : Int) 2 ∧ bits BinOp.or IntKind.i64 (k.val : Int) 2 < 32) ∧ (0 ≤ bits BinOp.or IntKind.i64 (k.val : Int) 4 ∧ bits BinOp.or IntKind.i64 (k.val : Int) 4 < 32) := by decide +kernel
theorem or_bd {x : Int} (h0 : 0 ≤ x) (h1 : x < 32) : (0 ≤ bits BinOp.or IntKind.i64 x 1 ∧ bits BinOp.or IntKind.i64 x 1 < 32) ∧ (0 ≤ bits BinOp.or IntKind.i64 x 2 ∧ bits BinOp.or IntKind.i64 x 2 < 32) ∧ (0 ≤ bits BinOp.or IntKind.i64 x 4 ∧ bits BinOp.or IntKind.i64 x 4 < 32) := by
  obtain ⟨k, rfl⟩ : ∃ k : Nat, x = k := ⟨x.toNat, by omega⟩
  exact or_fin ⟨k, by omega⟩
set_option maxRecDepth 20000 in
set_option maxHeartbeats 8000000 in
theorem l6Ally_c {w0 w W : World} {a : Option Addr} {len cap : Nat} {n : Int} {rb wb fb : Nat} {t s : Int} {vu vf vs vo : Value} {us : List K10} {fs : List K3} {fa : List KA} {se : List K4} {oo : List K2} (h : WD w0 w W a len cap n rb wb fb t s vu vf vs vo us fs fa se oo) (k : Nat) (hk : k = 1 ∨ k = 2) :
    Calls Tryz.prog 110 #[.pointer (some ⟨wb, 0, none⟩), .int .i64 0, .int .i64 (k : Int)] W fun e w' => e = .returned (.tuple #[]) ∧ ∃ fa', WD w0 w w' a len cap n rb wb fb t s vu vf vs vo us fs fa' se oo := by
  obtain ⟨x, hx', x0, x1⟩ := h.f4.at (k := 0) (by omega)
  obtain ⟨y, hy', y0, y1⟩ := h.f4.at (k := k) (by omega)
  obtain ⟨_, _, a2'⟩ := h.fac hx'
  obtain ⟨_, _, b2⟩ := h.fac hy'
  have a2 : W.cell? ⟨fb, 2, none⟩ = some (.int .i64 x.c2) := by simpa using a2'
  have p4 : W.cell? ⟨wb, 4, none⟩ = some (.slice (some ⟨fb, 0, none⟩) 4 4) := h.B.cell (i := 4) rfl
  have pl := h.B.lt
  have fl := h.A.lt
  have z2 : W.frozen? ⟨fb, 2, none⟩ = false := h.A.frozen _
  have zk := h.A.frozen (k * 3 + 2)
  have H : Hid (WD w0 w W a len cap n rb wb fb t s vu vf vs vo us fs fa se oo) := h
  have hx : Hid (fa[0]? = some x) := hx'
  have hy : Hid (fa[k]? = some y) := hy'
  clear h hx' hy' a2'
  rcases hk with rfl | rfl
  · go_enter Tryz.func110, Tryz.ntmps110
    go_wp2_with fail
    go_region
    all_goals
      have D1 := H.out.setA (0 * 3 + 2) (.int .i64 (bits BinOp.or IntKind.i64 x.c2 2)) (flatA_set2 fa 0 x _ hx.out) (H.out.f4.set 0 (u := ⟨x.c0, x.c1, bits BinOp.or IntKind.i64 x.c2 2⟩) (or_bd x0 x1).2.1)
      obtain ⟨W1, HW1⟩ : ∃ W1, Hid (W1 = (W.setCell ⟨fb, 2, none⟩ (.int .i64 (bits BinOp.or IntKind.i64 x.c2 2))).drew) := ⟨_, rfl⟩
      have D2 : WD w0 w W1 a len cap n rb wb fb t s vu vf vs vo us fs (fa.set 0 ⟨x.c0, x.c1, bits BinOp.or IntKind.i64 x.c2 2⟩) se oo := by rw [HW1.out]; exact D1.drew
      clear a2 b2 p4 pl fl z2 zk D1
      rw [← HW1.out]
      have hy2 : (fa.set 0 ⟨x.c0, x.c1, bits BinOp.or IntKind.i64 x.c2 2⟩)[1]? = some y := by rw [List.getElem?_set, if_neg (by omega)]; exact hy.out
      obtain ⟨_, _, b2⟩ := D2.fac hy2
      have b2' : W1.cell? ⟨fb, 5, none⟩ = some (.int .i64 y.c2) := b2
      have p4 : W1.cell? ⟨wb, 4, none⟩ = some (.slice (some ⟨fb, 0, none⟩) 4 4) := D2.B.cell (i := 4) rfl
      have pl := D2.B.lt
      have fl := D2.A.lt
      have zk : W1.frozen? ⟨fb, 5, none⟩ = false := D2.A.frozen _
      have HD2 : Hid (WD w0 w W1 a len cap n rb wb fb t s vu vf vs vo us fs (fa.set 0 ⟨x.c0, x.c1, bits BinOp.or IntKind.i64 x.c2 2⟩) se oo) := D2
      have Hy2 : Hid _ := hy2
      clear b2 hy2 D2
      go_wp2_with fail
      go_region
      all_goals
        have D3 := (HD2.out.setA (1 * 3 + 2) (.int .i64 (bits BinOp.or IntKind.i64 y.c2 1)) (flatA_set2 _ 1 y _ Hy2.out) (HD2.out.f4.set 1 (u := ⟨y.c0, y.c1, bits BinOp.or IntKind.i64 y.c2 1⟩) (or_bd y0 y1).1)).drew
        go_wp2_with fail
        go_end0
        exact ⟨rfl, _, D3⟩
  · go_enter Tryz.func110, Tryz.ntmps110
    go_wp2_with fail
    go_region
    all_goals
      have D1 := H.out.setA (0 * 3 + 2) (.int .i64 (bits BinOp.or IntKind.i64 x.c2 4)) (flatA_set2 fa 0 x _ hx.out) (H.out.f4.set 0 (u := ⟨x.c0, x.c1, bits BinOp.or IntKind.i64 x.c2 4⟩) (or_bd x0 x1).2.2)
      obtain ⟨W1, HW1⟩ : ∃ W1, Hid (W1 = (W.setCell ⟨fb, 2, none⟩ (.int .i64 (bits BinOp.or IntKind.i64 x.c2 4))).drew) := ⟨_, rfl⟩
      have D2 : WD w0 w W1 a len cap n rb wb fb t s vu vf vs vo us fs (fa.set 0 ⟨x.c0, x.c1, bits BinOp.or IntKind.i64 x.c2 4⟩) se oo := by rw [HW1.out]; exact D1.drew
      clear a2 b2 p4 pl fl z2 zk D1
      rw [← HW1.out]
      have hy2 : (fa.set 0 ⟨x.c0, x.c1, bits BinOp.or IntKind.i64 x.c2 4⟩)[2]? = some y := by rw [List.getElem?_set, if_neg (by omega)]; exact hy.out
      obtain ⟨_, _, b2⟩ := D2.fac hy2
      have b2' : W1.cell? ⟨fb, 8, none⟩ = some (.int .i64 y.c2) := b2
      have p4 : W1.cell? ⟨wb, 4, none⟩ = some (.slice (some ⟨fb, 0, none⟩) 4 4) := D2.B.cell (i := 4) rfl
      have pl := D2.B.lt
      have fl := D2.A.lt
      have zk : W1.frozen? ⟨fb, 8, none⟩ = false := D2.A.frozen _
      have HD2 : Hid (WD w0 w W1 a len cap n rb wb fb t s vu vf vs vo us fs (fa.set 0 ⟨x.c0, x.c1, bits BinOp.or IntKind.i64 x.c2 4⟩) se oo) := D2
      have Hy2 : Hid _ := hy2
      clear b2 hy2 D2
      go_wp2_with fail
      go_region
      all_goals
        have D3 := (HD2.out.setA (2 * 3 + 2) (.int .i64 (bits BinOp.or IntKind.i64 y.c2 1)) (flatA_set2 _ 2 y _ Hy2.out) (HD2.out.f4.set 2 (u := ⟨y.c0, y.c1, bits BinOp.or IntKind.i64 y.c2 1⟩) (or_bd y0 y1).1)).drew
        go_wp2_with fail
        go_end0
        exact ⟨rfl, _, D3⟩
end Go.Proofs.YtlfnnobkgbfdgaaGreat
end
