/- Texts of mine put together (a claim holds at most 60 files): LeaveW. -/
import Derived.Test.YthopodopedbooaaGreatPartL41
import Derived.Test.YthopodopedbooaaGreatPartL39

/- LeaveW -/
/- The contracts of LeaveSide, LeaveSeat, AlliesOf and HeirsOf, the program's. Condition: the world's lists lie in memory as they were laid there. -/
section
namespace Go.Proofs.YthopodopedbooaaGreat
open Go.ChangeShapes Go.WideShapes Go.ChangeAt Go.RowKit
open Bd
set_option linter.unusedVariables false

set_option maxRecDepth 20000 in
set_option maxHeartbeats 16000000 in
theorem implLeaveSide (p : WP) (x : KW) (w : World) (h : InW w p x) (i : Int) :
    Calls Tryz.prog 29 #[.agg (p.v x), .int .i64 i] w fun e w' => ∃ q, e = .returned (.agg (r8 (leaC hasI x i) q (leaX hasI x i))) ∧ OwW w' w.heap.size q (leaX hasI x i) ∧ Below w.heap.size w w' := by
  obtain ⟨t, s, us, fs, fa, se, oo⟩ := x
  obtain ⟨u, uc, f, fc, a, ac, q, qc, r, rc⟩ := p
  obtain ⟨W, HW⟩ : ∃ W, Hid (W = (w.alloc (.cells (wv t s u us.length uc f fs.length fc a fa.length ac q se.length qc r oo.length rc) 32)).alloc (.cells z8 36)) := ⟨_, rfl⟩
  have B1 : Below w.heap.size w W := by rw [HW.out]; exact ((Below.refl _ _).alloc (Nat.le_refl _) _).alloc (by rw [size_new]; omega) _
  have P : Bk W w.heap.size (wv t s u us.length uc f fs.length fc a fa.length ac q se.length qc r oo.length rc) 32 := by rw [HW.out]; exact (Bk.new w (wv t s u us.length uc f fs.length fc a fa.length ac q se.length qc r oo.length rc) 32).alloc _
  have R : Blk W (w.heap.size + 1) z8 36 := by rw [HW.out]; have h := Blk.new (w.alloc (.cells (wv t s u us.length uc f fs.length fc a fa.length ac q se.length qc r oo.length rc) 32)) z8 36; rw [size_new] at h; exact h
  have HN : Hid (InW W ⟨u, uc, f, fc, a, ac, q, qc, r, rc⟩ ⟨t, s, us, fs, fa, se, oo⟩) := h.later B1
  have HR : Hid (Blk W (w.heap.size + 1) z8 36) := R
  have hB := B1.size
  show Calls Tryz.prog 29 #[.agg (wv t s u us.length uc f fs.length fc a fa.length ac q se.length qc r oo.length rc), .int .i64 i] w _
  have cF := fun W' (h : Below W.heap.size W W') => implSideFault ⟨u, uc, f, fc, a, ac, q, qc, r, rc⟩ ⟨t, s, us, fs, fa, se, oo⟩ HN.out.o1 HN.out.o2 W' (HN.out.later h).arg i
  replace cF : ∀ W', Below W.heap.size W W' → Calls Tryz.prog 75 #[.agg (wv t s u us.length uc f fs.length fc a fa.length ac q se.length qc r oo.length rc), .int .i64 i] W' fun e w' => e = .returned (.int .i64 (sfF hasI ⟨t, s, us, fs, fa, se, oo⟩ i)) ∧ Below W'.heap.size W' w' := cF
  have cN := fun (e : GdW hasI ⟨t, s, us, fs, fa, se, oo⟩) W' (h : Below W.heap.size W W') => newWorldState_c ⟨u, uc, f, fc, a, ac, q, qc, r, rc⟩ ⟨t, s, us, fs, fa, se, oo⟩ (Gd8 e.b).1 (Gd8 e.b).2 (Nat.le_of_eq e.a4) e.s6 e.o6 W' (HN.out.later h)
  replace cN : GdW hasI ⟨t, s, us, fs, fa, se, oo⟩ → ∀ W', Below W.heap.size W W' → Calls Tryz.prog 45 #[.agg (wv t s u us.length uc f fs.length fc a fa.length ac q se.length qc r oo.length rc)] W' fun e w' => ∃ g p', e = .returned (.pointer (some ⟨g, 0, none⟩)) ∧ WS w' W'.heap.size g p' ⟨t, s, us, fs, fa, se, oo⟩ ∧ Below W'.heap.size W' w' := cN
  have cL := fun (G : GdW hasI ⟨t, s, us, fs, fa, se, oo⟩) (a0 : 0 ≤ i) (a3 : i ≤ 3) (g base : Nat) (p' : WP) (w2 : World) (hb : base ≤ w2.heap.size) (hw : WS w2 base g p' ⟨t, s, us, fs, fa, se, oo⟩) => leaveSide_c g base p' t s us fs fa se oo i w2 hw G hb a0 a3
  have HC : Hid (leaC hasI ⟨t, s, us, fs, fa, se, oo⟩ i = if (wf hasI ⟨t, s, us, fs, fa, se, oo⟩ == 0) = false then wf hasI ⟨t, s, us, fs, fa, se, oo⟩ else if inb i 0 3 = false then 3 else if goneA fa i = true then 8 else if 100000000 < s + purA fa i then 7 else 0) := rfl
  have HX : Hid (leaX hasI ⟨t, s, us, fs, fa, se, oo⟩ i = if (leaC hasI ⟨t, s, us, fs, fa, se, oo⟩ i == 0) = true then ⟨t, leaS hasI ⟨t, s, us, fs, fa, se, oo⟩ i, shU i (heirs hasI ⟨t, s, us, fs, fa, se, oo⟩ i) 0 us, fs, leaF hasI ⟨t, s, us, fs, fa, se, oo⟩ i, seF' i se, ooF' i oo⟩ else kz) := rfl
  have HS : Hid (sfF hasI ⟨t, s, us, fs, fa, se, oo⟩ i = if (wf hasI ⟨t, s, us, fs, fa, se, oo⟩ == 0) = false then wf hasI ⟨t, s, us, fs, fa, se, oo⟩ else if inb i 0 3 = false then 3 else 0) := rfl
  have HG : Hid (wf hasI ⟨t, s, us, fs, fa, se, oo⟩ = 0 → GdW hasI ⟨t, s, us, fs, fa, se, oo⟩) := (gdW_iff hasI _).1
  generalize leaC hasI ⟨t, s, us, fs, fa, se, oo⟩ i = C at HC HX ⊢
  generalize leaX hasI ⟨t, s, us, fs, fa, se, oo⟩ i = X at HX ⊢
  generalize sfF hasI ⟨t, s, us, fs, fa, se, oo⟩ i = F at cF HS
  generalize wf hasI ⟨t, s, us, fs, fa, se, oo⟩ = Fw at HC HS HG
  have HCF : Hid ((F == 0) = false → C = F) := fun e => by
    rw [HC.out]
    rw [HS.out] at e ⊢
    cases e1 : Fw == 0 <;> cases e2 : inb i 0 3 <;> simp_all
  have HCZ : Hid (F = 0 → Fw = 0 ∧ inb i 0 3 = true) := fun e => by
    rw [HS.out] at e
    cases e1 : Fw == 0
    · rw [e1, if_pos rfl] at e; rw [e] at e1; cases e1
    · rw [e1, if_neg (by simp)] at e
      refine ⟨by simpa using e1, ?_⟩
      cases e2 : inb i 0 3
      · rw [e2] at e; cases e
      · rfl
  obtain ⟨mu, Hmu⟩ : ∃ m, Hid (us.length = m) := ⟨_, rfl⟩
  obtain ⟨mf, Hmf⟩ : ∃ m, Hid (fs.length = m) := ⟨_, rfl⟩
  obtain ⟨ma, Hma⟩ : ∃ m, Hid (fa.length = m) := ⟨_, rfl⟩
  obtain ⟨ms, Hms⟩ : ∃ m, Hid (se.length = m) := ⟨_, rfl⟩
  obtain ⟨mo, Hmo⟩ : ∃ m, Hid (oo.length = m) := ⟨_, rfl⟩
  rw [Hmu.out, Hmf.out, Hma.out, Hms.out, Hmo.out] at P HW cF cN ⊢
  clear h R HS
  have keep : ∀ w', Below W.heap.size W w' → w'.cell? ⟨w.heap.size, 0, none⟩ = some (.int .i64 t) ∧ w'.cell? ⟨w.heap.size, 1, none⟩ = some (.int .i64 s) ∧ w'.cell? ⟨w.heap.size, 2, none⟩ = some (.slice u mu uc) ∧ w'.cell? ⟨w.heap.size, 3, none⟩ = some (.slice f mf fc) ∧ w'.cell? ⟨w.heap.size, 4, none⟩ = some (.slice a ma ac) ∧ w'.cell? ⟨w.heap.size, 5, none⟩ = some (.slice q ms qc) ∧ w'.cell? ⟨w.heap.size, 6, none⟩ = some (.slice r mo rc) ∧ w.heap.size < w'.heap.size := fun w' hb => by
    have q := P.below hb
    exact ⟨q.cell rfl, q.cell rfl, q.cell rfl, q.cell rfl, q.cell rfl, q.cell rfl, q.cell rfl, q.lt⟩
  have Bc : Below W.heap.size W W := Below.refl _ _
  have HCC : Hid (C ≠ 0 → X = kz) := fun e => by rw [HX.out, if_neg (by simpa using e)]
  obtain ⟨p0, p1, p2, p3, p4, p5, p6, pl⟩ := keep _ Bc
  cases e2 : F == 0
  · have n7 : (F != 0) = true := by simp only [bne, e2]; rfl
    have HR1 : Hid (C = F ∧ X = kz) := by
      have e : C = F := HCF.out e2
      exact ⟨e, HCC.out (by rw [e]; simpa using e2)⟩
    clear HC HX HCF HCZ HG cN cL e2 HCC
    go_enter Tryz.func29, Tryz.ntmps29
    go_upto_region 1 with fail
    rw [← HW.out]
    go_wp2_with fail
    refine (cF _ Bc).mono ?_
    rintro e wn ⟨rfl, kn⟩
    have Bc := Bc.trans (kn.mono Bc.size)
    clear p0 p1 p2 p3 p4 p5 p6 pl
    have R1 := HR.out.below Bc
    obtain ⟨r0, r1, r2, r3, r4, r5, r6, r7, y0, y1, y2, y3, y4, y5, y6, y7, rl⟩ := R1.z8
    have Fz : Blk _ (w.heap.size + 1) (r8 F wpz kz) 36 := set8_blk R1 (.int .i64 F) (.int .i64 0) (.int .i64 0) (.slice none 0 0) (.slice none 0 0) (.slice none 0 0) (.slice none 0 0) (.slice none 0 0)
    have BE := set8_below (B1.trans (Bc.mono hB)) (show w.heap.size ≤ w.heap.size + 1 by omega) (.int .i64 F) (.int .i64 0) (.int .i64 0) (.slice none 0 0) (.slice none 0 0) (.slice none 0 0) (.slice none 0 0) (.slice none 0 0)
    clear R1
    go_wp2_with fail
    rw [HR1.out.1, HR1.out.2]
    exact bodyPost_ret (v := .agg (r8 F wpz kz)) (result8 Tryz.results29 Fz _ rfl) rfl ⟨wpz, rfl, OwW.z _ _, BE⟩
  obtain rfl : F = 0 := by simpa using e2
  obtain ⟨rfl, ia⟩ := HCZ.out rfl
  replace HC : Hid (C = if goneA fa i = true then 8 else if 100000000 < s + purA fa i then 7 else 0) := by
    show _ = _
    rw [HC.out, if_neg (by simp), if_neg (by rw [ia]; simp)]
  have G := HG.out rfl
  obtain ⟨a0, a3⟩ := inb_i ia
  have cN := cN G
  have cL := cL G a0 a3
  have h4 : ma = 4 := by rw [← Hma.out]; exact G.a4
  subst h4
  obtain ⟨y, hy, hyg, _⟩ := side_at Hma.out a0 a3
  have hyp : purA fa i = y.c0 := pur_get hy
  have yb := inb_i (purse_in G y (List.mem_of_getElem? hy))
  have sb := inb_i G.s
  obtain ⟨yb0, yb1⟩ := yb
  obtain ⟨sb0, sb1⟩ := sb
  dsimp only at sb0 sb1
  have Hy : Hid (fa[i.toNat]? = some y) := hy
  have keepY : ∀ w', Below W.heap.size W w' → ∃ b o, a = some ⟨b, o, none⟩ ∧ A1 w' b (o + i.toNat * 3) y := fun w' hb => by
    obtain ⟨b, o, hpa, hbl, hat⟩ := (HN.out.later hb).arg.a.atP Hy.out
    exact ⟨b, o, hpa, hat.one hbl Hy.out⟩
  have a4 : i < 4 := by omega
  rw [hyg, hyp] at HC
  have qS := fun w => isSpent_w (s + y.c0) w
  clear HCF HCZ HG ia hy hyg G e2
  go_enter Tryz.func29, Tryz.ntmps29
  go_upto_region 1 with fail
  rw [← HW.out]
  go_wp2_with fail
  refine (cF _ Bc).mono ?_
  rintro e wn ⟨rfl, kn⟩
  have Bc := Bc.trans (kn.mono Bc.size)
  clear p0 p1 p2 p3 p4 p5 p6 pl
  obtain ⟨p0, p1, p2, p3, p4, p5, p6, pl⟩ := keep _ Bc
  obtain ⟨ba, oa, rfl, ⟨y0, y1, y2, yl⟩⟩ := keepY _ Bc
  cases eg : y.c1
  case true =>
    rw [eg] at HC y1
    have HR1 : Hid (C = 8 ∧ X = kz) := by
      have e : C = 8 := by rw [HC.out]; rfl
      exact ⟨e, HCC.out (by rw [e]; decide)⟩
    have R1 := HR.out.below Bc
    obtain ⟨r0, r1, r2, r3, r4, r5, r6, r7, y0, y1, y2, y3, y4, y5, y6, y7, rl⟩ := R1.z8
    have Fz : Blk _ (w.heap.size + 1) (r8 8 wpz kz) 36 := set8_blk R1 (.int .i64 8) (.int .i64 0) (.int .i64 0) (.slice none 0 0) (.slice none 0 0) (.slice none 0 0) (.slice none 0 0) (.slice none 0 0)
    have BE := set8_below (B1.trans (Bc.mono hB)) (show w.heap.size ≤ w.heap.size + 1 by omega) (.int .i64 8) (.int .i64 0) (.int .i64 0) (.slice none 0 0) (.slice none 0 0) (.slice none 0 0) (.slice none 0 0) (.slice none 0 0)
    clear R1
    go_wp2_with fail
    rw [HR1.out.1, HR1.out.2]
    exact bodyPost_ret (v := .agg (r8 8 wpz kz)) (result8 Tryz.results29 Fz _ rfl) rfl ⟨wpz, rfl, OwW.z _ _, BE⟩
  case false =>
    rw [eg] at HC y1
    replace HC : Hid (C = if 100000000 < s + y.c0 then 7 else 0) := by show _ = _; rw [HC.out]; simp
    go_upto_region 6 with fail
    cases es : inb (s + y.c0) 0 100000000
    · rw [es] at qS
      have HR1 : Hid (C = 7 ∧ X = kz) := by
        have h := inb_n es
        have e : C = 7 := by rw [HC.out, if_pos (by omega)]
        exact ⟨e, HCC.out (by rw [e]; decide)⟩
      go_quiet (first | (go_at_call 62; exact Calls.quiet_of_same (qS _)))
      have Bc := Bc.trans ((below_drewN _ nq).mono Bc.size)
      clear y0 y1 y2 yl p0 p1 p2 p3 p4 p5 p6 pl
      have R1 := HR.out.below Bc
      obtain ⟨r0, r1, r2, r3, r4, r5, r6, r7, y0, y1, y2, y3, y4, y5, y6, y7, rl⟩ := R1.z8
      have Fz : Blk _ (w.heap.size + 1) (r8 7 wpz kz) 36 := set8_blk R1 (.int .i64 7) (.int .i64 0) (.int .i64 0) (.slice none 0 0) (.slice none 0 0) (.slice none 0 0) (.slice none 0 0) (.slice none 0 0)
      have BE := set8_below (B1.trans (Bc.mono hB)) (show w.heap.size ≤ w.heap.size + 1 by omega) (.int .i64 7) (.int .i64 0) (.int .i64 0) (.slice none 0 0) (.slice none 0 0) (.slice none 0 0) (.slice none 0 0) (.slice none 0 0)
      clear R1
      go_wp2_with fail
      rw [HR1.out.1, HR1.out.2]
      exact bodyPost_ret (v := .agg (r8 7 wpz kz)) (result8 Tryz.results29 Fz _ rfl) rfl ⟨wpz, rfl, OwW.z _ _, BE⟩
    · rw [es] at qS
      have hsp := inb_i es
      have HR0 : Hid (C = 0) := by show _ = _; rw [HC.out, if_neg (by omega)]
      have HR2' : Hid (X = ⟨t, leaS hasI ⟨t, s, us, fs, fa, se, oo⟩ i, shU i (heirs hasI ⟨t, s, us, fs, fa, se, oo⟩ i) 0 us, fs, leaF hasI ⟨t, s, us, fs, fa, se, oo⟩ i, seF' i se, ooF' i oo⟩) := by show _ = _; rw [HX.out, HR0.out]; rfl
      generalize leaS hasI ⟨t, s, us, fs, fa, se, oo⟩ i = s9 at cL HR2'
      generalize shU i (heirs hasI ⟨t, s, us, fs, fa, se, oo⟩ i) 0 us = us9 at cL HR2'
      generalize leaF hasI ⟨t, s, us, fs, fa, se, oo⟩ i = fa9 at cL HR2'
      generalize seF' i se = se9 at cL HR2'
      generalize ooF' i oo = oo9 at cL HR2'
      obtain ⟨t9, Ht9⟩ : ∃ v, Hid (v = t) := ⟨_, rfl⟩
      obtain ⟨fs9, Hfs9⟩ : ∃ v, Hid (v = fs) := ⟨_, rfl⟩
      go_quiet (first | (go_at_call 62; exact Calls.quiet_of_same (qS _)))
      have Bc := Bc.trans ((below_drewN _ nq).mono Bc.size)
      clear y0 y1 y2 yl p0 p1 p2 p3 p4 p5 p6 pl HC HX HCC
      obtain ⟨p0, p1, p2, p3, p4, p5, p6, pl⟩ := keep _ Bc
      go_wp2_with fail
      refine (cN _ Bc).mono ?_
      rintro e w5 ⟨g, p5', rfl, hw5, k5⟩
      have hB5 : W.heap.size ≤ _ := Bc.size
      have Bc := Bc.trans (k5.mono Bc.size)
      have cL := cL g _ p5' w5 k5.size hw5
      go_wp2_with fail
      refine cL.mono ?_
      rintro e w6 ⟨rfl, ⟨p6', hw6⟩, k6⟩
      have Bc := Bc.trans ((k6.below (Nat.le_refl _)).mono hB5)
      clear p0 p1 p2 p3 p4 p5 p6 pl
      go_wp2_with fail
      refine (result_c g _ _ _ _ hw6).mono ?_
      rintro e w8 ⟨rfl, O8, k8⟩
      have Bc := Bc.trans (k8.mono Bc.size)
      rw [← Ht9.out, ← Hfs9.out] at O8 HR2' ⊢
      obtain ⟨pu9, uc9, pf9, fc9, pa9, ac9, ps9, sc9, po9, oc9⟩ := p6'
      have HR2 : Hid (C = 0 ∧ X = ⟨t9, s9, us9, fs9, fa9, se9, oo9⟩) := ⟨HR0.out, HR2'.out⟩
      have R1 := HR.out.below Bc
      obtain ⟨r0, r1, r2, r3, r4, r5, r6, r7, y0, y1, y2, y3, y4, y5, y6, y7, rl⟩ := R1.z8
      have Fz := set8_blk R1 (.int .i64 0) (.int .i64 t9) (.int .i64 s9) (.slice pu9 us9.length uc9) (.slice pf9 fs9.length fc9) (.slice pa9 fa9.length ac9) (.slice ps9 se9.length sc9) (.slice po9 oo9.length oc9)
      have Fo := (O8.of_block R1 (by decide) (by decide) (by decide) (by decide) (by decide) (set8_other (W := w8) (g := w.heap.size + 1) (.int .i64 0) (.int .i64 t9) (.int .i64 s9) (.slice pu9 us9.length uc9) (.slice pf9 fs9.length fc9) (.slice pa9 fa9.length ac9) (.slice ps9 se9.length sc9) (.slice po9 oo9.length oc9))).mono (show w.heap.size ≤ _ by first | omega | (have := Bc.size; omega))
      have BE := set8_below (B1.trans (Bc.mono hB)) (show w.heap.size ≤ w.heap.size + 1 by omega) (.int .i64 0) (.int .i64 t9) (.int .i64 s9) (.slice pu9 us9.length uc9) (.slice pf9 fs9.length fc9) (.slice pa9 fa9.length ac9) (.slice ps9 se9.length sc9) (.slice po9 oo9.length oc9)
      clear R1 O8
      go_wp2_with fail
      rw [HR2.out.1, HR2.out.2]
      exact bodyPost_ret (v := .agg (r8 0 ⟨pu9, uc9, pf9, fc9, pa9, ac9, ps9, sc9, po9, oc9⟩ ⟨t9, s9, us9, fs9, fa9, se9, oo9⟩)) (result8 Tryz.results29 Fz _ rfl) rfl ⟨_, rfl, Fo, BE⟩
/- who leaves takes a seat away -/
def lsC (h : Int → Int → Bool) (x : KW) (c : Int) : Int := if (soC h x c == 0) = false then soC h x c else if lastS x.se (soS h x c) = true then leaC h x (soS h x c).c1 else 0
def lsX (h : Int → Int → Bool) (x : KW) (c : Int) : KW := if (soC h x c == 0) = false then kz else if lastS x.se (soS h x c) = true then leaX h x (soS h x c).c1 else ⟨x.t, x.s, x.us, x.fs, x.fa, x.se.filter (fun s => !(s.b (soS h x c))), x.oo⟩
set_option maxRecDepth 20000 in
set_option maxHeartbeats 16000000 in
theorem implLeaveSeat (p : WP) (x : KW) (w : World) (h : InW w p x) (i : Int) :
    Calls Tryz.prog 36 #[.agg (p.v x), .int .i64 i] w fun e w' => ∃ q, e = .returned (.agg (r8 (lsC hasI x i) q (lsX hasI x i))) ∧ OwW w' w.heap.size q (lsX hasI x i) ∧ Below w.heap.size w w' := by
  obtain ⟨t, s, us, fs, fa, se, oo⟩ := x
  obtain ⟨u, uc, f, fc, a, ac, q, qc, r, rc⟩ := p
  obtain ⟨W, HW⟩ : ∃ W, Hid (W = (w.alloc (.cells (wv t s u us.length uc f fs.length fc a fa.length ac q se.length qc r oo.length rc) 32)).alloc (.cells z8 36)) := ⟨_, rfl⟩
  have B1 : Below w.heap.size w W := by rw [HW.out]; exact ((Below.refl _ _).alloc (Nat.le_refl _) _).alloc (by rw [size_new]; omega) _
  have P : Bk W w.heap.size (wv t s u us.length uc f fs.length fc a fa.length ac q se.length qc r oo.length rc) 32 := by rw [HW.out]; exact (Bk.new w (wv t s u us.length uc f fs.length fc a fa.length ac q se.length qc r oo.length rc) 32).alloc _
  have R : Blk W (w.heap.size + 1) z8 36 := by rw [HW.out]; have h := Blk.new (w.alloc (.cells (wv t s u us.length uc f fs.length fc a fa.length ac q se.length qc r oo.length rc) 32)) z8 36; rw [size_new] at h; exact h
  have HN : Hid (InW W ⟨u, uc, f, fc, a, ac, q, qc, r, rc⟩ ⟨t, s, us, fs, fa, se, oo⟩) := h.later B1
  have HR : Hid (Blk W (w.heap.size + 1) z8 36) := R
  have hB := B1.size
  show Calls Tryz.prog 36 #[.agg (wv t s u us.length uc f fs.length fc a fa.length ac q se.length qc r oo.length rc), .int .i64 i] w _
  have cF := fun W' (h : Below W.heap.size W W') => implSeatOf ⟨u, uc, f, fc, a, ac, q, qc, r, rc⟩ ⟨t, s, us, fs, fa, se, oo⟩ W' (HN.out.later h) i
  replace cF : ∀ W', Below W.heap.size W W' → Calls Tryz.prog 38 #[.agg (wv t s u us.length uc f fs.length fc a fa.length ac q se.length qc r oo.length rc), .int .i64 i] W' fun e w' => e = .returned (.agg (r5 (soC hasI ⟨t, s, us, fs, fa, se, oo⟩ i) (soS hasI ⟨t, s, us, fs, fa, se, oo⟩ i))) ∧ Below W'.heap.size W' w' := cF
  have cL := fun (v : Int) W' (h : Below W.heap.size W W') => implLeaveSide ⟨u, uc, f, fc, a, ac, q, qc, r, rc⟩ ⟨t, s, us, fs, fa, se, oo⟩ W' (HN.out.later h) v
  replace cL : ∀ v W', Below W.heap.size W W' → Calls Tryz.prog 29 #[.agg (wv t s u us.length uc f fs.length fc a fa.length ac q se.length qc r oo.length rc), .int .i64 v] W' fun e w' => ∃ q, e = .returned (.agg (r8 (leaC hasI ⟨t, s, us, fs, fa, se, oo⟩ v) q (leaX hasI ⟨t, s, us, fs, fa, se, oo⟩ v))) ∧ OwW w' W'.heap.size q (leaX hasI ⟨t, s, us, fs, fa, se, oo⟩ v) ∧ Below W'.heap.size W' w' := cL
  have cN := fun (e : GdW hasI ⟨t, s, us, fs, fa, se, oo⟩) W' (h : Below W.heap.size W W') => newWorldState_c ⟨u, uc, f, fc, a, ac, q, qc, r, rc⟩ ⟨t, s, us, fs, fa, se, oo⟩ (Gd8 e.b).1 (Gd8 e.b).2 (Nat.le_of_eq e.a4) e.s6 e.o6 W' (HN.out.later h)
  replace cN : GdW hasI ⟨t, s, us, fs, fa, se, oo⟩ → ∀ W', Below W.heap.size W W' → Calls Tryz.prog 45 #[.agg (wv t s u us.length uc f fs.length fc a fa.length ac q se.length qc r oo.length rc)] W' fun e w' => ∃ g p', e = .returned (.pointer (some ⟨g, 0, none⟩)) ∧ WS w' W'.heap.size g p' ⟨t, s, us, fs, fa, se, oo⟩ ∧ Below W'.heap.size W' w' := cN
  have cI := fun (y : K4) (h6 : se.length ≤ 6) W' (h : Below W.heap.size W W') => isLastSeat_c q se.length qc se y rfl h6 W' (HN.out.later h).arg.s
  have HC : Hid (lsC hasI ⟨t, s, us, fs, fa, se, oo⟩ i = if (soC hasI ⟨t, s, us, fs, fa, se, oo⟩ i == 0) = false then soC hasI ⟨t, s, us, fs, fa, se, oo⟩ i else if lastS se (soS hasI ⟨t, s, us, fs, fa, se, oo⟩ i) = true then leaC hasI ⟨t, s, us, fs, fa, se, oo⟩ (soS hasI ⟨t, s, us, fs, fa, se, oo⟩ i).c1 else 0) := rfl
  have HX : Hid (lsX hasI ⟨t, s, us, fs, fa, se, oo⟩ i = if (soC hasI ⟨t, s, us, fs, fa, se, oo⟩ i == 0) = false then kz else if lastS se (soS hasI ⟨t, s, us, fs, fa, se, oo⟩ i) = true then leaX hasI ⟨t, s, us, fs, fa, se, oo⟩ (soS hasI ⟨t, s, us, fs, fa, se, oo⟩ i).c1 else ⟨t, s, us, fs, fa, se.filter (fun z => !(z.b (soS hasI ⟨t, s, us, fs, fa, se, oo⟩ i))), oo⟩) := rfl
  have HG : Hid (soC hasI ⟨t, s, us, fs, fa, se, oo⟩ i = 0 → GdW hasI ⟨t, s, us, fs, fa, se, oo⟩) := fun e => (gdW_iff hasI _).1 (soC_zero.1 e).1
  generalize lsC hasI ⟨t, s, us, fs, fa, se, oo⟩ i = C at HC ⊢
  generalize lsX hasI ⟨t, s, us, fs, fa, se, oo⟩ i = X at HX ⊢
  generalize soC hasI ⟨t, s, us, fs, fa, se, oo⟩ i = F at cF HC HX HG
  generalize soS hasI ⟨t, s, us, fs, fa, se, oo⟩ i = Y at cF HC HX
  obtain ⟨mu, Hmu⟩ : ∃ m, Hid (us.length = m) := ⟨_, rfl⟩
  obtain ⟨mf, Hmf⟩ : ∃ m, Hid (fs.length = m) := ⟨_, rfl⟩
  obtain ⟨ma, Hma⟩ : ∃ m, Hid (fa.length = m) := ⟨_, rfl⟩
  obtain ⟨ms, Hms⟩ : ∃ m, Hid (se.length = m) := ⟨_, rfl⟩
  obtain ⟨mo, Hmo⟩ : ∃ m, Hid (oo.length = m) := ⟨_, rfl⟩
  rw [Hmu.out, Hmf.out, Hma.out, Hms.out, Hmo.out] at P HW cF cN cL ⊢
  rw [Hms.out] at cI
  clear h R
  have keep : ∀ w', Below W.heap.size W w' → w'.cell? ⟨w.heap.size, 0, none⟩ = some (.int .i64 t) ∧ w'.cell? ⟨w.heap.size, 1, none⟩ = some (.int .i64 s) ∧ w'.cell? ⟨w.heap.size, 2, none⟩ = some (.slice u mu uc) ∧ w'.cell? ⟨w.heap.size, 3, none⟩ = some (.slice f mf fc) ∧ w'.cell? ⟨w.heap.size, 4, none⟩ = some (.slice a ma ac) ∧ w'.cell? ⟨w.heap.size, 5, none⟩ = some (.slice q ms qc) ∧ w'.cell? ⟨w.heap.size, 6, none⟩ = some (.slice r mo rc) ∧ w.heap.size < w'.heap.size := fun w' hb => by
    have q := P.below hb
    exact ⟨q.cell rfl, q.cell rfl, q.cell rfl, q.cell rfl, q.cell rfl, q.cell rfl, q.cell rfl, q.lt⟩
  have Bc : Below W.heap.size W W := Below.refl _ _
  obtain ⟨p0, p1, p2, p3, p4, p5, p6, pl⟩ := keep _ Bc
  cases e2 : F == 0
  · have n7 : (F != 0) = true := by simp only [bne, e2]; rfl
    have HR1 : Hid (C = F ∧ X = kz) := ⟨by rw [HC.out, if_pos e2], by rw [HX.out, if_pos e2]⟩
    clear HC HX HG cN cL cI e2
    go_enter Tryz.func36, Tryz.ntmps36
    go_upto_region 1 with fail
    rw [← HW.out]
    go_wp2_with fail
    refine (cF _ Bc).mono ?_
    rintro e wn ⟨rfl, kn⟩
    have Bc := Bc.trans (kn.mono Bc.size)
    clear p0 p1 p2 p3 p4 p5 p6 pl
    obtain ⟨W3, HW3⟩ : ∃ W3, Hid (W3 = wn.alloc (.cells (r5 F Y) 60)) := ⟨_, rfl⟩
    have b3 : Below wn.heap.size wn W3 := by rw [HW3.out]; exact (Below.refl _ _).alloc (Nat.le_refl _) _
    have S3 : Blk W3 wn.heap.size (r5 F Y) 60 := by rw [HW3.out]; exact Blk.new wn _ _
    have Bc := Bc.trans (b3.mono Bc.size)
    have s0 : W3.cell? ⟨wn.heap.size, 0, none⟩ = some (.int .i64 F) := S3.cell (i := 0) rfl
    have sl := S3.lt
    go_upto_region 2 with fail
    rw [← HW3.out]
    clear S3
    have R1 := HR.out.below Bc
    obtain ⟨r0, r1, r2, r3, r4, r5, r6, r7, y0, y1, y2, y3, y4, y5, y6, y7, rl⟩ := R1.z8
    have Fz : Blk _ (w.heap.size + 1) (r8 F wpz kz) 36 := set8_blk R1 (.int .i64 F) (.int .i64 0) (.int .i64 0) (.slice none 0 0) (.slice none 0 0) (.slice none 0 0) (.slice none 0 0) (.slice none 0 0)
    have BE := set8_below (B1.trans (Bc.mono hB)) (show w.heap.size ≤ w.heap.size + 1 by omega) (.int .i64 F) (.int .i64 0) (.int .i64 0) (.slice none 0 0) (.slice none 0 0) (.slice none 0 0) (.slice none 0 0) (.slice none 0 0)
    clear R1
    go_wp2_with fail
    rw [HR1.out.1, HR1.out.2]
    exact bodyPost_ret (v := .agg (r8 F wpz kz)) (result8 Tryz.results36 Fz _ rfl) rfl ⟨wpz, rfl, OwW.z _ _, BE⟩
  obtain rfl : F = 0 := by simpa using e2
  have G := HG.out rfl
  have cN := cN G
  have h6 : ms ≤ 6 := by have := G.s6; have := Hms.out; dsimp only at *; omega
  have cI := cI Y h6
  have hse6 : se.length ≤ 6 := by rw [Hms.out]; exact h6
  have hK4 : ∀ W', Below W.heap.size W W' → W'.cell? ⟨w.heap.size, 5, none⟩ = some (.slice q ms qc) := fun W' h => (keep W' h).2.2.2.2.2.1
  clear HG G e2
  cases el : lastS se Y
  · rw [el] at cI HC HX
    have HR0 : Hid (C = 0) := HC
    have HR2' : Hid (X = ⟨t, s, us, fs, fa, se.filter (fun s => !(s.b Y)), oo⟩) := HX
    obtain ⟨se9, Hse9⟩ : ∃ v, Hid (v = se.filter (fun s => !(s.b Y))) := ⟨_, rfl⟩
    clear HC HX cL
    go_enter Tryz.func36, Tryz.ntmps36
    go_upto_region 1 with fail
    rw [← HW.out]
    go_wp2_with fail
    refine (cF _ Bc).mono ?_
    rintro e wn ⟨rfl, kn⟩
    have Bc := Bc.trans (kn.mono Bc.size)
    clear p0 p1 p2 p3 p4 p5 p6 pl
    obtain ⟨W3, HW3⟩ : ∃ W3, Hid (W3 = wn.alloc (.cells (r5 0 Y) 60)) := ⟨_, rfl⟩
    have b3 : Below wn.heap.size wn W3 := by rw [HW3.out]; exact (Below.refl _ _).alloc (Nat.le_refl _) _
    have S3 : Blk W3 wn.heap.size (r5 0 Y) 60 := by rw [HW3.out]; exact Blk.new wn _ _
    have Bc := Bc.trans (b3.mono Bc.size)
    obtain ⟨p0, p1, p2, p3, p4, p5, p6, pl⟩ := keep _ Bc
    obtain ⟨v0, v1, v2, v3, v4⟩ := (⟨S3.cell (i := 0) rfl, S3.cell (i := 1) rfl, S3.cell (i := 2) rfl, S3.cell (i := 3) rfl, S3.cell (i := 4) rfl⟩ : W3.cell? ⟨wn.heap.size, 0, none⟩ = some (.int .i64 0) ∧ W3.cell? ⟨wn.heap.size, 1, none⟩ = some (.int .i64 Y.c0) ∧ W3.cell? ⟨wn.heap.size, 2, none⟩ = some (.int .i64 Y.c1) ∧ W3.cell? ⟨wn.heap.size, 3, none⟩ = some (.int .i64 Y.c2) ∧ W3.cell? ⟨wn.heap.size, 4, none⟩ = some (.int .i64 Y.c3))
    have sl := S3.lt
    have HS3 : Hid (Blk W3 wn.heap.size (r5 0 Y) 60) := S3
    go_upto_region 2 with fail
    rw [← HW3.out]
    clear S3
    go_wp2_with fail
    refine (cI _ Bc).mono ?_
    rintro e w4 ⟨rfl, k4⟩
    have S4 : Hid (Blk w4 wn.heap.size (r5 0 Y) 60) := HS3.out.below k4
    have Bc := Bc.trans (k4.mono Bc.size)
    clear v0 v1 v2 v3 v4 sl
    clear p0 p1 p2 p3 p4 p5 p6 pl
    obtain ⟨p0, p1, p2, p3, p4, p5, p6, pl⟩ := keep _ Bc
    go_wp2_with fail
    refine (cN _ Bc).mono ?_
    rintro e w5 ⟨g, p5', rfl, hw5, k5⟩
    have hB5 := Bc.size
    have S5 : Hid (Blk w5 wn.heap.size (r5 0 Y) 60) := S4.out.below k5
    have Bc := Bc.trans (k5.mono Bc.size)
    clear p0 p1 p2 p3 p4 p5 p6 pl
    obtain ⟨pu9, uc9, pf9, fc9, pa9, ac9, ps8, sc8, po9, oc9⟩ := p5'
    have d4 : w5.cell? ⟨g, 5, none⟩ = some (.slice ps8 se.length sc8) := hw5.b.cell (i := 5) rfl
    have dl := hw5.b.lt
    have dw := S5.out.lt
    have cD := delete_d3 w4.heap.size (.slice ps8 se.length sc8) se hse6 wn.heap.size Y w5 k5.size S5.out hw5.o.s
    go_wp2_with fail
    refine cD.mono ?_
    rintro e w6 ⟨v6, rfl, hS6, K6⟩
    replace hS6 : SlS w6 w4.heap.size v6 se9 := by rw [Hse9.out]; exact hS6
    obtain ⟨ps9, sc9, rfl⟩ := hS6.fm
    have b6 := K6.blk hw5.b (by decide)
    have e5 : w6.cell? ⟨g, 5, none⟩ = some (.slice ps8 se.length sc8) := b6.cell (i := 5) rfl
    have ef5 := b6.frozen 5
    have el5 := b6.lt
    have hw7 := hw5.ofS K6 hS6
    have K7 := (K6.more tl_s (Nat.le_refl _)).set b6 (by decide) hw5.bg 5 (.slice ps9 se9.length sc9)
    have Bc := Bc.trans ((K7.below (Nat.le_refl _)).mono hB5)
    obtain ⟨W7, HW7⟩ : ∃ W7, Hid (W7 = w6.setCell ⟨g, 5, none⟩ (.slice ps9 se9.length sc9)) := ⟨_, rfl⟩
    have Bc : Below W.heap.size W W7 := by rw [HW7.out]; exact Bc
    have Hw7 : Hid (WS W7 w4.heap.size g ⟨pu9, uc9, pf9, fc9, pa9, ac9, ps9, sc9, po9, oc9⟩ ⟨t, s, us, fs, fa, se9, oo⟩) := by rw [HW7.out]; exact hw7
    clear d4 cD hw7 K7
    go_upto_region 8 with fail
    try rw [← HW7.out]
    clear e5 ef5 el5
    go_wp2_with fail
    refine (result_c g _ _ _ _ Hw7.out).mono ?_
    rintro e w8 ⟨rfl, O8, k8⟩
    have Bc := Bc.trans (k8.mono Bc.size)
    have HR2 : Hid (C = 0 ∧ X = ⟨t, s, us, fs, fa, se9, oo⟩) := ⟨HR0.out, by rw [HR2'.out, Hse9.out]⟩
    have R1 := HR.out.below Bc
    obtain ⟨r0, r1, r2, r3, r4, r5, r6, r7, y0, y1, y2, y3, y4, y5, y6, y7, rl⟩ := R1.z8
    have Fz := set8_blk R1 (.int .i64 0) (.int .i64 t) (.int .i64 s) (.slice pu9 us.length uc9) (.slice pf9 fs.length fc9) (.slice pa9 fa.length ac9) (.slice ps9 se9.length sc9) (.slice po9 oo.length oc9)
    have Fo := (O8.of_block R1 (by decide) (by decide) (by decide) (by decide) (by decide) (set8_other (W := w8) (g := w.heap.size + 1) (.int .i64 0) (.int .i64 t) (.int .i64 s) (.slice pu9 us.length uc9) (.slice pf9 fs.length fc9) (.slice pa9 fa.length ac9) (.slice ps9 se9.length sc9) (.slice po9 oo.length oc9))).mono (show w.heap.size ≤ _ by first | omega | (have := Bc.size; omega))
    have BE := set8_below (B1.trans (Bc.mono hB)) (show w.heap.size ≤ w.heap.size + 1 by omega) (.int .i64 0) (.int .i64 t) (.int .i64 s) (.slice pu9 us.length uc9) (.slice pf9 fs.length fc9) (.slice pa9 fa.length ac9) (.slice ps9 se9.length sc9) (.slice po9 oo.length oc9)
    clear R1 O8
    go_wp2_with fail
    rw [HR2.out.1, HR2.out.2]
    exact bodyPost_ret (v := .agg (r8 0 ⟨pu9, uc9, pf9, fc9, pa9, ac9, ps9, sc9, po9, oc9⟩ ⟨t, s, us, fs, fa, se9, oo⟩)) (result8 Tryz.results36 Fz _ rfl) rfl ⟨_, rfl, Fo, BE⟩
  · rw [el] at cI HC HX
    replace HC : Hid (C = leaC hasI ⟨t, s, us, fs, fa, se, oo⟩ Y.c1) := HC
    replace HX : Hid (X = leaX hasI ⟨t, s, us, fs, fa, se, oo⟩ Y.c1) := HX
    have cL := cL Y.c1
    generalize leaC hasI ⟨t, s, us, fs, fa, se, oo⟩ Y.c1 = C2 at cL HC
    generalize leaX hasI ⟨t, s, us, fs, fa, se, oo⟩ Y.c1 = X2 at cL HX
    clear cN
    go_enter Tryz.func36, Tryz.ntmps36
    go_upto_region 1 with fail
    rw [← HW.out]
    go_wp2_with fail
    refine (cF _ Bc).mono ?_
    rintro e wn ⟨rfl, kn⟩
    have Bc := Bc.trans (kn.mono Bc.size)
    clear p0 p1 p2 p3 p4 p5 p6 pl
    obtain ⟨W3, HW3⟩ : ∃ W3, Hid (W3 = wn.alloc (.cells (r5 0 Y) 60)) := ⟨_, rfl⟩
    have b3 : Below wn.heap.size wn W3 := by rw [HW3.out]; exact (Below.refl _ _).alloc (Nat.le_refl _) _
    have S3 : Blk W3 wn.heap.size (r5 0 Y) 60 := by rw [HW3.out]; exact Blk.new wn _ _
    have Bc := Bc.trans (b3.mono Bc.size)
    obtain ⟨p0, p1, p2, p3, p4, p5, p6, pl⟩ := keep _ Bc
    obtain ⟨v0, v1, v2, v3, v4⟩ := (⟨S3.cell (i := 0) rfl, S3.cell (i := 1) rfl, S3.cell (i := 2) rfl, S3.cell (i := 3) rfl, S3.cell (i := 4) rfl⟩ : W3.cell? ⟨wn.heap.size, 0, none⟩ = some (.int .i64 0) ∧ W3.cell? ⟨wn.heap.size, 1, none⟩ = some (.int .i64 Y.c0) ∧ W3.cell? ⟨wn.heap.size, 2, none⟩ = some (.int .i64 Y.c1) ∧ W3.cell? ⟨wn.heap.size, 3, none⟩ = some (.int .i64 Y.c2) ∧ W3.cell? ⟨wn.heap.size, 4, none⟩ = some (.int .i64 Y.c3))
    have sl := S3.lt
    have HS3 : Hid (Blk W3 wn.heap.size (r5 0 Y) 60) := S3
    go_upto_region 2 with fail
    rw [← HW3.out]
    clear S3
    go_wp2_with fail
    refine (cI _ Bc).mono ?_
    rintro e w4 ⟨rfl, k4⟩
    have S4 := HS3.out.below k4
    have Bc := Bc.trans (k4.mono Bc.size)
    clear v0 v1 v2 v3 v4 sl
    clear p0 p1 p2 p3 p4 p5 p6 pl
    obtain ⟨p0, p1, p2, p3, p4, p5, p6, pl⟩ := keep _ Bc
    have v2 : w4.cell? ⟨wn.heap.size, 2, none⟩ = some (.int .i64 Y.c1) := S4.cell (i := 2) rfl
    have sl := S4.lt
    have hB5 := Bc.size
    clear S4
    go_wp2_with fail
    refine (cL _ Bc).mono ?_
    rintro e w8 ⟨q9, rfl, O8, k8⟩
    have Bc := Bc.trans (k8.mono Bc.size)
    clear v2 sl
    clear p0 p1 p2 p3 p4 p5 p6 pl
    obtain ⟨t9, s9, us9, fs9, fa9, se9, oo9⟩ := X2
    obtain ⟨pu9, uc9, pf9, fc9, pa9, ac9, ps9, sc9, po9, oc9⟩ := q9
    have HR2 : Hid (C = C2 ∧ X = ⟨t9, s9, us9, fs9, fa9, se9, oo9⟩) := ⟨HC.out, HX.out⟩
    clear HC HX
    have R1 := HR.out.below Bc
    obtain ⟨r0, r1, r2, r3, r4, r5, r6, r7, y0, y1, y2, y3, y4, y5, y6, y7, rl⟩ := R1.z8
    have Fz := set8_blk R1 (.int .i64 C2) (.int .i64 t9) (.int .i64 s9) (.slice pu9 us9.length uc9) (.slice pf9 fs9.length fc9) (.slice pa9 fa9.length ac9) (.slice ps9 se9.length sc9) (.slice po9 oo9.length oc9)
    have Fo := (O8.of_block R1 (by decide) (by decide) (by decide) (by decide) (by decide) (set8_other (W := w8) (g := w.heap.size + 1) (.int .i64 C2) (.int .i64 t9) (.int .i64 s9) (.slice pu9 us9.length uc9) (.slice pf9 fs9.length fc9) (.slice pa9 fa9.length ac9) (.slice ps9 se9.length sc9) (.slice po9 oo9.length oc9))).mono (show w.heap.size ≤ _ by first | omega | (have := Bc.size; omega))
    have BE := set8_below (B1.trans (Bc.mono hB)) (show w.heap.size ≤ w.heap.size + 1 by omega) (.int .i64 C2) (.int .i64 t9) (.int .i64 s9) (.slice pu9 us9.length uc9) (.slice pf9 fs9.length fc9) (.slice pa9 fa9.length ac9) (.slice ps9 se9.length sc9) (.slice po9 oo9.length oc9)
    clear R1 O8
    go_wp2_with fail
    rw [HR2.out.1, HR2.out.2]
    exact bodyPost_ret (v := .agg (r8 C2 ⟨pu9, uc9, pf9, fc9, pa9, ac9, ps9, sc9, po9, oc9⟩ ⟨t9, s9, us9, fs9, fa9, se9, oo9⟩)) (result8 Tryz.results36 Fz _ rfl) rfl ⟨_, rfl, Fo, BE⟩
end Go.Proofs.YthopodopedbooaaGreat
end
