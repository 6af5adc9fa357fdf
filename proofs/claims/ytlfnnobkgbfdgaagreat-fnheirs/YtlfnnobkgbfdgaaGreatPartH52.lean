/- Texts of mine put together (a claim holds at most 60 files): LawHeirs. -/
import Derived.Test.YtlfnnobkgbfdgaaGreatPartH38
import Derived.Test.YtlfnnobkgbfdgaaGreatPartH49
import Derived.Test.YtlfnnobkgbfdgaaGreatPartH43
import Derived.Test.YtlfnnobkgbfdgaaGreatPartH50
import Derived.Test.YtlfnnobkgbfdgaaGreatPartH51
import Derived.Test.YtlfnnobkgbfdgaaGreatPartH00
import Derived.Deep.RegionHeld3

/- LawHeirs -/
/- The walk of the law FnHeirs. No condition. -/
section
namespace Go.Proofs.YtlfnnobkgbfdgaaGreat
open Go.ChangeShapes Go.WideShapes Go.ChangeAt Go.RowKit
open Bd
set_option linter.unusedVariables false

theorem DW.sfE {x : KW} (h : DW x) (i : Int) : sfF hasI x i = sfF hasS x i := by unfold sfF; rw [h.wf]
theorem DW.leE {x : KW} (h : DW x) (i : Int) : leaC hasI x i = leaC hasS x i := by unfold leaC; rw [h.wf]
theorem sdL_same {x : KW} {i : Int} (w0 : wf hasI x = 0) (ib : inb i 0 3 = true) : sdL hasI (allyA x.fa i) = sdL hasS (allyA x.fa i) := by
  obtain ⟨i0, i3⟩ := inb_i ib
  have m := (gd_fac ((gdW_iff hasI x).1 w0) i0 i3).m
  unfold sdL
  exact List.filter_congr (fun k _ => has_same m k)
theorem DW.alE {x : KW} (h : DW x) (i : Int) : alL hasI x i = alL hasS x i := by
  unfold alL
  rw [h.sfE]
  by_cases e : sfF hasS x i = 0
  · have e2 := e
    rw [← h.sfE] at e2
    obtain ⟨w0, ib⟩ := sfF_zero.1 e2
    rw [e, sdL_same w0 ib]
  · have e3 : ¬ ((sfF hasS x i == 0) = true) := by simpa using e
    rw [if_neg e3, if_neg e3]
theorem DW.lxE {x : KW} (h : DW x) (i : Int) : leaX hasI x i = leaX hasS x i := by
  unfold leaX
  rw [h.leE]
  by_cases e : leaC hasS x i = 0
  · have e2 := e
    rw [← h.leE] at e2
    obtain ⟨w0, ib, _⟩ := leaC_zero.1 e2
    have es := sdL_same w0 ib
    rw [e]
    unfold leaS leaF heirs
    rw [es]
  · have e3 : ¬ ((leaC hasS x i == 0) = true) := by simpa using e
    rw [if_neg e3, if_neg e3]
theorem own_in {k : Int} (h0 : 0 ≤ k) (h3 : k ≤ 3) : own k = true := by
  unfold own
  first
    | (rw [inb_t h0 h3]; rfl)
    | (simp; omega)
set_option maxRecDepth 20000 in
set_option maxHeartbeats 64000000 in
theorem heirs_walk (a : Option Addr) (len cap : Nat) (W : World) (hb : Bytes W a len W.heap.size) :
    Calls Tryz.prog 3 #[.slice a len cap] W fun e w' => e = .returned (.bool true) ∧ Below W.heap.size W w' := by
  by_cases hl : len ≤ 1048576
  · have cB := fun w => lwBig_no w a len cap hl
    have f1 : ∀ (x y : Value) (w : World), (Instr.field 48 (.agg #[x, y]) 1).run Tryz.prog w = .ok y w := fun _ _ _ => by kernel_rfl
    have s0 : ∀ (x y : Value) (w : World), (Instr.field 40 (.agg #[x, y]) 0).run Tryz.prog w = .ok x w := fun _ _ _ => by kernel_rfl
    have s1 : ∀ (x y : Value) (w : World), (Instr.field 40 (.agg #[x, y]) 1).run Tryz.prog w = .ok y w := fun _ _ _ => by kernel_rfl
    have g0 : ∀ (v0 v1 v2 v3 v4 v5 v6 v7 : Value) (w : World), (Instr.field 36 (.agg #[v0, v1, v2, v3, v4, v5, v6, v7]) 0).run Tryz.prog w = .ok v0 w := fun _ _ _ _ _ _ _ _ _ => by kernel_rfl
    have g1 : ∀ (v0 v1 v2 v3 v4 v5 v6 v7 : Value) (w : World), (Instr.field 36 (.agg #[v0, v1, v2, v3, v4, v5, v6, v7]) 1).run Tryz.prog w = .ok (.agg #[v1, v2, v3, v4, v5, v6, v7]) w := fun _ _ _ _ _ _ _ _ _ => by kernel_rfl
    go_enter Tryz.func3, Tryz.ntmps3
    go_wp2_with (go_at_call 4; refine (cB _).mono ?_; rintro e w1 ⟨rfl, hw1⟩; obtain rfl := hw1.symm)
    refine (drawLeaveSide_c W a len cap hb hl).mono ?_
    rintro e w1 ⟨p, x, i, rfl, O1, dw, k1⟩
    obtain ⟨W2, HW2⟩ : ∃ W2, Hid (W2 = w1.alloc (.cells (p.v x) 32)) := ⟨_, rfl⟩
    have k2 : Below w1.heap.size w1 W2 := by rw [HW2.out]; exact (Below.refl _ _).alloc (Nat.le_refl _) _
    have X2 : Blk W2 w1.heap.size (p.v x) 32 := by rw [HW2.out]; exact Blk.new w1 _ _
    have B2 := k1.trans (k2.mono k1.size)
    have O2 := O1.later k2
    have cI := implLeaveSide p x W2 O2.in i
    have HX : Hid (Blk W2 w1.heap.size (p.v x) 32) := X2
    have HO : Hid (OwW W2 W.heap.size p x) := O2
    have HB2 : Hid (Below W.heap.size W W2) := B2
    have hux : x.us.length ≤ 8 := dw.u
    have hfx : x.fs.length ≤ 5 := dw.f
    have eC := dw.leE i
    have eX := dw.lxE i
    have eS := dw.sfE i
    have eL := dw.alE i
    obtain ⟨a0, a1, a2, a3, a4, a5, a6, al⟩ := X2.c7
    clear O1 k1 k2 X2 B2 O2 dw hb cB
    have good : leaC hasI x i = 0 → LeaG hasI x i := lea_good (fun m b hm => has_same hm b)
    have gz : leaC hasI x i = 0 → wf hasI x = 0 ∧ inb i 0 3 = true ∧ alL hasI x i = heirs hasI x i := fun e => by
      obtain ⟨w0, ib, _⟩ := leaC_zero.1 e
      refine ⟨w0, ib, ?_⟩
      unfold alL
      rw [sfF_zero.2 ⟨w0, ib⟩]; rfl
    obtain ⟨C, HC⟩ : ∃ C, Hid (C = leaC hasI x i) := ⟨_, rfl⟩
    obtain ⟨X, HXX⟩ : ∃ X, Hid (X = leaX hasI x i) := ⟨_, rfl⟩
    obtain ⟨hC, HhC⟩ : ∃ C, Hid (C = sfF hasI x i) := ⟨_, rfl⟩
    obtain ⟨L, HL⟩ : ∃ C, Hid (C = alL hasI x i) := ⟨_, rfl⟩
    have cH0 := fun W' (h : Below W2.heap.size W2 W') => implHeirsOf p x W' (HO.out.later h).in i
    have cH := fun W' (h : Below W2.heap.size W2 W') => specHeirsOf p x W' (HO.out.later h).in i
    have cSL := fun W' (h : Below W2.heap.size W2 W') => specLeaveSide p x W' (HO.out.later h).in i
    rw [← eS, ← eL, ← HhC.out, ← HL.out] at cH
    rw [← HhC.out, ← HL.out] at cH0
    rw [← eC, ← eX, ← HC.out, ← HXX.out] at cSL
    rw [← HC.out] at cI good gz
    rw [← HXX.out] at cI
    have Hgood : Hid (C = 0 → LeaG hasI x i) := good
    have Hgz : Hid (C = 0 → wf hasI x = 0 ∧ inb i 0 3 = true ∧ alL hasI x i = heirs hasI x i) := gz
    have hL4 : L.length ≤ 4 := by
      rw [HL.out]; unfold alL
      split
      · exact len_sdL _ _
      · simp
    obtain ⟨n, Hn⟩ : ∃ n, Hid (L.length = n) := ⟨_, rfl⟩
    rw [Hn.out] at hL4
    clear eC eX eS eL good gz
    go_upto_region 4 with fail
    rw [← HW2.out]
    go_wp2_with fail
    refine cI.mono ?_
    rintro e w3 ⟨q, rfl, O3, k3⟩
    obtain ⟨W4, HW4⟩ : ∃ W4, Hid (W4 = w3.alloc (.cells (r8 C q X) 36)) := ⟨_, rfl⟩
    have k4 : Below w3.heap.size w3 W4 := by rw [HW4.out]; exact (Below.refl _ _).alloc (Nat.le_refl _) _
    have HP : Hid (Blk W4 w3.heap.size (r8 C q X) 36) := by show Blk _ _ _ _; rw [HW4.out]; exact Blk.new w3 _ _
    have K4 : Below W2.heap.size W2 W4 := k3.trans (k4.mono k3.size)
    have HO4 : Hid (OwW W4 W2.heap.size q X) := O3.later k4
    clear cI O3 k3 k4 a0 a1 a2 a3 a4 a5 a6 al
    obtain ⟨a0, a1, a2, a3, a4, a5, a6, al⟩ := (HX.out.below K4).c7
    go_upto_region 5 with fail
    rw [← HW4.out]
    go_wp2_with fail
    refine (cH0 _ K4).mono ?_
    rintro e w5 ⟨v, rfl, Sv, k5⟩
    obtain ⟨hq, hc, rfl⟩ := Sv.form
    rw [Hn.out] at Sv ⊢
    obtain ⟨W6, HW6⟩ : ∃ W6, Hid (W6 = w5.alloc (.cells #[.int .i64 hC, .slice hq n hc] 40)) := ⟨_, rfl⟩
    have k6 : Below w5.heap.size w5 W6 := by rw [HW6.out]; exact (Below.refl _ _).alloc (Nat.le_refl _) _
    have HR6 : Hid (Blk W6 w5.heap.size #[.int .i64 hC, .slice hq n hc] 40) := by show Blk _ _ _ _; rw [HW6.out]; exact Blk.new w5 _ _
    have L4 : Below W4.heap.size W4 W6 := k5.trans (k6.mono k5.size)
    have L2 : Below W2.heap.size W2 W6 := K4.trans (L4.mono K4.size)
    have HL4 : Hid (Below W4.heap.size W4 W6) := L4
    have HL2 : Hid (Below W2.heap.size W2 W6) := L2
    have HI : Hid (SlI W6 W4.heap.size (.slice hq n hc) L) := Sv.below k6
    have HB6 : Hid (Below W.heap.size W W6) := HB2.out.trans (L2.mono HB2.out.size)
    have keep : ∀ w', Below W6.heap.size W6 w' → w'.cell? ⟨w1.heap.size, 0, none⟩ = some (.int .i64 x.t) ∧ w'.cell? ⟨w1.heap.size, 1, none⟩ = some (.int .i64 x.s) ∧ w'.cell? ⟨w1.heap.size, 2, none⟩ = some (.slice p.u x.us.length p.uc) ∧ w'.cell? ⟨w1.heap.size, 3, none⟩ = some (.slice p.f x.fs.length p.fc) ∧ w'.cell? ⟨w1.heap.size, 4, none⟩ = some (.slice p.a x.fa.length p.ac) ∧ w'.cell? ⟨w1.heap.size, 5, none⟩ = some (.slice p.s x.se.length p.sc) ∧ w'.cell? ⟨w1.heap.size, 6, none⟩ = some (.slice p.o x.oo.length p.oc) ∧ w'.cell? ⟨w3.heap.size, 0, none⟩ = some (.int .i64 C) ∧ w'.cell? ⟨w3.heap.size, 1, none⟩ = some (.int .i64 X.t) ∧ w'.cell? ⟨w3.heap.size, 2, none⟩ = some (.int .i64 X.s) ∧ w'.cell? ⟨w3.heap.size, 3, none⟩ = some (.slice q.u X.us.length q.uc) ∧ w'.cell? ⟨w3.heap.size, 4, none⟩ = some (.slice q.f X.fs.length q.fc) ∧ w'.cell? ⟨w3.heap.size, 5, none⟩ = some (.slice q.a X.fa.length q.ac) ∧ w'.cell? ⟨w3.heap.size, 6, none⟩ = some (.slice q.s X.se.length q.sc) ∧ w'.cell? ⟨w3.heap.size, 7, none⟩ = some (.slice q.o X.oo.length q.oc) ∧ w'.cell? ⟨w5.heap.size, 0, none⟩ = some (.int .i64 hC) ∧ w'.cell? ⟨w5.heap.size, 1, none⟩ = some (.slice hq n hc) ∧ w1.heap.size < w'.heap.size ∧ w3.heap.size < w'.heap.size ∧ w5.heap.size < w'.heap.size := fun w' h => by
      obtain ⟨a0, a1, a2, a3, a4, a5, a6, al⟩ := (HX.out.below (HL2.out.trans (h.mono HL2.out.size))).c7
      have P7 := HP.out.below (HL4.out.trans (h.mono HL4.out.size))
      have R7 := HR6.out.below h
      exact ⟨a0, a1, a2, a3, a4, a5, a6, P7.cell rfl, P7.cell rfl, P7.cell rfl, P7.cell rfl, P7.cell rfl, P7.cell rfl, P7.cell rfl, P7.cell rfl, R7.cell rfl, R7.cell rfl, al, P7.lt, R7.lt⟩
    clear a0 a1 a2 a3 a4 a5 a6 al cH0 Sv k5 k6 K4 L4 L2
    replace cH := fun W' (h : Below W6.heap.size W6 W') => cH W' (HL2.out.trans (h.mono HL2.out.size))
    replace cSL := fun W' (h : Below W6.heap.size W6 W') => cSL W' (HL2.out.trans (h.mono HL2.out.size))
    have Bc : Below W6.heap.size W6 W6.drew := (Below.refl _ _).drew
    obtain ⟨a0, a1, a2, a3, a4, a5, a6, c0, c1, c2, c3, c4, c5, c6, c7, h0, h1, al, cl, hl5⟩ := keep _ (Below.refl _ _)
    have nhC : (hC != hC) = false := by simp
    have nCC : (C != C) = false := by simp
    have hL1000 : L.length ≤ 1000 := by rw [Hn.out]; omega
    have HL1 : Hid (L.length ≤ 1000) := hL1000
    clear hL1000
    go_upto_region 6 with fail
    rw [← HW6.out]
    clear HW6 HW4 HW2
    go_region_held3 (fun w' => w'.cell? ⟨w1.heap.size, 0, none⟩ = some (.int .i64 x.t) ∧ w'.cell? ⟨w1.heap.size, 1, none⟩ = some (.int .i64 x.s) ∧ w'.cell? ⟨w1.heap.size, 2, none⟩ = some (.slice p.u x.us.length p.uc) ∧ w'.cell? ⟨w1.heap.size, 3, none⟩ = some (.slice p.f x.fs.length p.fc) ∧ w'.cell? ⟨w1.heap.size, 4, none⟩ = some (.slice p.a x.fa.length p.ac) ∧ w'.cell? ⟨w1.heap.size, 5, none⟩ = some (.slice p.s x.se.length p.sc) ∧ w'.cell? ⟨w1.heap.size, 6, none⟩ = some (.slice p.o x.oo.length p.oc) ∧ w'.cell? ⟨w3.heap.size, 0, none⟩ = some (.int .i64 C) ∧ w'.cell? ⟨w3.heap.size, 1, none⟩ = some (.int .i64 X.t) ∧ w'.cell? ⟨w3.heap.size, 2, none⟩ = some (.int .i64 X.s) ∧ w'.cell? ⟨w3.heap.size, 3, none⟩ = some (.slice q.u X.us.length q.uc) ∧ w'.cell? ⟨w3.heap.size, 4, none⟩ = some (.slice q.f X.fs.length q.fc) ∧ w'.cell? ⟨w3.heap.size, 5, none⟩ = some (.slice q.a X.fa.length q.ac) ∧ w'.cell? ⟨w3.heap.size, 6, none⟩ = some (.slice q.s X.se.length q.sc) ∧ w'.cell? ⟨w3.heap.size, 7, none⟩ = some (.slice q.o X.oo.length q.oc) ∧ w'.cell? ⟨w5.heap.size, 0, none⟩ = some (.int .i64 hC) ∧ w'.cell? ⟨w5.heap.size, 1, none⟩ = some (.slice hq n hc)) (first | exact (by obtain ⟨a0, a1, a2, a3, a4, a5, a6, c0, c1, c2, c3, c4, c5, c6, c7, h0, h1, _, _, _⟩ := keep _ Bc; exact ⟨a0, a1, a2, a3, a4, a5, a6, c0, c1, c2, c3, c4, c5, c6, c7, h0, h1⟩) | go_keep) (first
        | (go_at_call 8; with_reducible refine (cH _ Bc).mono ?_; rintro e wn ⟨v, rfl, Sv, kn⟩; obtain ⟨pv, cv, rfl⟩ := Sv.form; rw [Hn.out] at Sv ⊢; have Bc := Bc.trans (kn.mono Bc.size); obtain ⟨a0, a1, a2, a3, a4, a5, a6, c0, c1, c2, c3, c4, c5, c6, c7, h0, h1, al, cl, hl5⟩ := keep _ Bc)
        | (go_at_call 9; refine (lwNums_same _ _ _ _ _ L (HI.out.below Bc) Sv HL1.out).mono ?_; rintro e wn ⟨rfl, kn⟩; have Bc := Bc.trans (kn.mono Bc.size); obtain ⟨a0, a1, a2, a3, a4, a5, a6, c0, c1, c2, c3, c4, c5, c6, c7, h0, h1, al, cl, hl5⟩ := keep _ Bc))
    go_upto_region 8 with fail
    have Bc := Bc.trans ((Below.refl _ _).drew.mono Bc.size)
    go_region_held3 (fun w' => w'.cell? ⟨w1.heap.size, 0, none⟩ = some (.int .i64 x.t) ∧ w'.cell? ⟨w1.heap.size, 1, none⟩ = some (.int .i64 x.s) ∧ w'.cell? ⟨w1.heap.size, 2, none⟩ = some (.slice p.u x.us.length p.uc) ∧ w'.cell? ⟨w1.heap.size, 3, none⟩ = some (.slice p.f x.fs.length p.fc) ∧ w'.cell? ⟨w1.heap.size, 4, none⟩ = some (.slice p.a x.fa.length p.ac) ∧ w'.cell? ⟨w1.heap.size, 5, none⟩ = some (.slice p.s x.se.length p.sc) ∧ w'.cell? ⟨w1.heap.size, 6, none⟩ = some (.slice p.o x.oo.length p.oc) ∧ w'.cell? ⟨w3.heap.size, 0, none⟩ = some (.int .i64 C) ∧ w'.cell? ⟨w3.heap.size, 1, none⟩ = some (.int .i64 X.t) ∧ w'.cell? ⟨w3.heap.size, 2, none⟩ = some (.int .i64 X.s) ∧ w'.cell? ⟨w3.heap.size, 3, none⟩ = some (.slice q.u X.us.length q.uc) ∧ w'.cell? ⟨w3.heap.size, 4, none⟩ = some (.slice q.f X.fs.length q.fc) ∧ w'.cell? ⟨w3.heap.size, 5, none⟩ = some (.slice q.a X.fa.length q.ac) ∧ w'.cell? ⟨w3.heap.size, 6, none⟩ = some (.slice q.s X.se.length q.sc) ∧ w'.cell? ⟨w3.heap.size, 7, none⟩ = some (.slice q.o X.oo.length q.oc) ∧ w'.cell? ⟨w5.heap.size, 0, none⟩ = some (.int .i64 hC) ∧ w'.cell? ⟨w5.heap.size, 1, none⟩ = some (.slice hq n hc)) (first | exact (by obtain ⟨a0, a1, a2, a3, a4, a5, a6, c0, c1, c2, c3, c4, c5, c6, c7, h0, h1, _, _, _⟩ := keep _ Bc; exact ⟨a0, a1, a2, a3, a4, a5, a6, c0, c1, c2, c3, c4, c5, c6, c7, h0, h1⟩) | go_keep) (first
        | (go_at_call 10; with_reducible refine (cSL _ Bc).mono ?_; rintro e wn ⟨q2, rfl, O9, kn⟩; have Bc := Bc.trans (kn.mono Bc.size); obtain ⟨a0, a1, a2, a3, a4, a5, a6, c0, c1, c2, c3, c4, c5, c6, c7, h0, h1, al, cl, hl5⟩ := keep _ Bc))
    go_upto_region 10 with fail
    cases e2 : C == 0
    · have n7 : (C != 0) = true := by simp only [bne, e2]; rfl
      go_wp2_with fail
      go_ret
      exact ⟨rfl, HB6.out.trans (Bc.mono HB6.out.size)⟩
    · obtain rfl : C = 0 := by simpa using e2
      have G := Hgood.out rfl
      obtain ⟨w0, ib, hal⟩ := Hgz.out rfl
      rw [← HL.out] at hal
      obtain ⟨i0, i3⟩ := inb_i ib
      have i4 : i < 4 := by omega
      have Gx := (gdW_iff hasI x).1 w0
      have gw : wf hasI X = 0 := by rw [HXX.out]; exact G.wf0
      have GX := (gdW_iff hasI X).1 gw
      have htX : Hid (toV hasI X = totF x) := by show _ = _; unfold toV; rw [gw, HXX.out, G.tot]; rfl
      have htx : Hid (toV hasI x = totF x) := by show _ = _; unfold toV; rw [w0]; rfl
      have g4 : X.fa.length = 4 := by rw [HXX.out]; exact G.f4
      have x4 : x.fa.length = 4 := Gx.a4
      have gl : X.us.length = x.us.length := by rw [HXX.out]; exact G.len
      have gfs : X.fs = x.fs := by rw [HXX.out]; exact G.fs
      have gat : X.fa[i.toNat]? = some ⟨0, true, 0⟩ := by rw [HXX.out]; exact G.at'
      have gst : leaC hasI X i = 8 := by rw [HXX.out]; exact G.st
      have gid : idsOf i X.us = [] := by rw [HXX.out]; exact G.ids
      obtain ⟨qq, q8, gc⟩ := G.cnt
      have gn := G.non
      have gr := G.hr
      have bx0 := G.bx
      have bX0 : Bd.bf X.us X.fs = 0 := by rw [gfs]; have := G.bg; rw [← HXX.out] at this; exact this
      rw [← hal, ← HXX.out] at gc gn
      rw [← hal] at gr
      obtain ⟨y, hy, hyp, _, _⟩ := at_get x4 i0 i3
      rw [hyp] at gn
      obtain ⟨yb0, yb1⟩ := inb_i (purse_in Gx y (List.mem_of_getElem? hy))
      obtain ⟨sb0, sb1⟩ := inb_i Gx.s
      obtain ⟨nX, HnX⟩ : ∃ f : Int → Nat, Hid (∀ o, (obL X.us X.fs o).length = f o) := ⟨fun o => (obL X.us X.fs o).length, fun _ => rfl⟩
      obtain ⟨nx, Hnx⟩ : ∃ f : Int → Nat, Hid (∀ o, (obL x.us x.fs o).length = f o) := ⟨fun o => (obL x.us x.fs o).length, fun _ => rfl⟩
      have hnX : ∀ o, own o = true → nX o = (idsOf o X.us).length := fun o ho => by rw [← HnX.out]; unfold obL; rw [bX0, ho]; rfl
      have hnx : ∀ o, own o = true → nx o = (idsOf o x.us).length := fun o ho => by rw [← Hnx.out]; unfold obL; rw [bx0, ho]; rfl
      have nX8 : ∀ o, nX o ≤ 8 := fun o => by rw [← HnX.out]; exact obL_le _ _ _
      have nx8 : ∀ o, nx o ≤ 8 := fun o => by rw [← Hnx.out]; exact obL_le _ _ _
      have Hcnt : Hid (∀ k ∈ L, nx k + qq ≤ nX k ∧ nX k ≤ nx k + qq + 1) := fun k hk => by
        have ho := own_in (gr k hk).1 (gr k hk).2.1
        rw [hnX k ho, hnx k ho]; exact gc k hk
      have Hnon : Hid (L = [] → X.s = x.s + y.c0 ∧ nX 9 = nx 9 + nx i) := fun e => by
        rw [hnX 9 rfl, hnx 9 rfl, hnx i (own_in i0 i3)]; exact gn e
      have nXi : nX i = 0 := by rw [hnX i (own_in i0 i3), gid]; rfl
      have HX8 : Hid (∀ o, nX o ≤ 8) := nX8
      have Hx8 : Hid (∀ o, nx o ≤ 8) := nx8
      clear a0 a1 a2 a3 a4 a5 a6 c0 c1 c2 c3 c4 c5 c6 c7 h0 h1 al cl hl5
      obtain ⟨pu, puc, pf, pfc, pa, pac, ps, psc, po, poc⟩ := p
      obtain ⟨qu, quc, qf, qfc, qa, qac, qs, qsc, qo, qoc⟩ := q
      dsimp only at keep
      obtain ⟨bx, ox, hpa, hbx, hatx⟩ := HO.out.in.a.arg.at hy
      dsimp only at hpa
      subst hpa
      obtain ⟨bX, oX, hqa, hbX, hatX⟩ := HO4.out.in.a.arg.at gat
      dsimp only at hqa
      subst hqa
      have keep2 : ∀ w', Below W6.heap.size W6 w' → w'.cell? ⟨w1.heap.size, 0, none⟩ = some (.int .i64 x.t) ∧ w'.cell? ⟨w1.heap.size, 1, none⟩ = some (.int .i64 x.s) ∧ w'.cell? ⟨w1.heap.size, 2, none⟩ = some (.slice pu x.us.length puc) ∧ w'.cell? ⟨w1.heap.size, 3, none⟩ = some (.slice pf x.fs.length pfc) ∧ w'.cell? ⟨w1.heap.size, 4, none⟩ = some (.slice (some ⟨bx, ox, none⟩) x.fa.length pac) ∧ w'.cell? ⟨w1.heap.size, 5, none⟩ = some (.slice ps x.se.length psc) ∧ w'.cell? ⟨w1.heap.size, 6, none⟩ = some (.slice po x.oo.length poc) ∧ w'.cell? ⟨w3.heap.size, 0, none⟩ = some (.int .i64 0) ∧ w'.cell? ⟨w3.heap.size, 1, none⟩ = some (.int .i64 X.t) ∧ w'.cell? ⟨w3.heap.size, 2, none⟩ = some (.int .i64 X.s) ∧ w'.cell? ⟨w3.heap.size, 3, none⟩ = some (.slice qu X.us.length quc) ∧ w'.cell? ⟨w3.heap.size, 4, none⟩ = some (.slice qf X.fs.length qfc) ∧ w'.cell? ⟨w3.heap.size, 5, none⟩ = some (.slice (some ⟨bX, oX, none⟩) X.fa.length qac) ∧ w'.cell? ⟨w3.heap.size, 6, none⟩ = some (.slice qs X.se.length qsc) ∧ w'.cell? ⟨w3.heap.size, 7, none⟩ = some (.slice qo X.oo.length qoc) ∧ w'.cell? ⟨w5.heap.size, 0, none⟩ = some (.int .i64 hC) ∧ w'.cell? ⟨w5.heap.size, 1, none⟩ = some (.slice hq n hc) ∧ w'.cell? ⟨bx, ox + i.toNat * 3, none⟩ = some (.int .i64 y.c0) ∧ w'.cell? ⟨bX, oX + i.toNat * 3, none⟩ = some (.int .i64 0) ∧ w'.cell? ⟨bX, oX + i.toNat * 3 + 1, none⟩ = some (.bool true) ∧ w'.cell? ⟨bX, oX + i.toNat * 3 + 2, none⟩ = some (.int .i64 0) ∧ w1.heap.size < w'.heap.size ∧ w3.heap.size < w'.heap.size ∧ w5.heap.size < w'.heap.size ∧ bx < w'.heap.size ∧ bX < w'.heap.size := fun w' h => by
        obtain ⟨a0, a1, a2, a3, a4, a5, a6, c0, c1, c2, c3, c4, c5, c6, c7, h0, h1, al, cl, hl5⟩ := keep _ h
        have h2 := HL2.out.trans (h.mono HL2.out.size)
        have h4 := HL4.out.trans (h.mono HL4.out.size)
        have l1 := Nat.lt_of_lt_of_le hbx h2.size
        have l2 := Nat.lt_of_lt_of_le hbX h4.size
        obtain ⟨y0, _, _, _⟩ := (hatx.later hbx h2).one l1 hy
        obtain ⟨z0, z1, z2, _⟩ := (hatX.later hbX h4).one l2 gat
        exact ⟨a0, a1, a2, a3, a4, a5, a6, c0, c1, c2, c3, c4, c5, c6, c7, h0, h1, y0, z0, z1, z2, al, cl, hl5, l1, l2⟩
      have hlI : ((X.us.length : Int) != (x.us.length : Int)) = false := by rw [gl]; simp
      have h4I : ((X.fa.length : Int) != 4) = false := by rw [g4]; rfl
      have hltX : i < (X.fa.length : Int) := by rw [g4]; omega
      have hltx : i < (x.fa.length : Int) := by rw [x4]; omega
      have Hb : Hid (X.us.length ≤ 1000 ∧ X.fs.length ≤ 1000 ∧ X.fa.length ≤ 1000 ∧ X.se.length ≤ 1000 ∧ X.oo.length ≤ 1000) := ⟨by rw [gl]; omega, by rw [gfs]; omega, by omega, by have := GX.s6; omega, by have := GX.o6; omega⟩
      have cF := fun W' (h : Below W6.heap.size W6 W') => implWorldFault ⟨qu, quc, qf, qfc, some ⟨bX, oX, none⟩, qac, qs, qsc, qo, qoc⟩ X (HO4.out.in.o1) (HO4.out.in.o2) W' (HO4.out.later (HL4.out.trans (h.mono HL4.out.size))).in.arg
      rw [gw] at cF
      have cTX := fun W' (h : Below W6.heap.size W6 W') => implTotalOf ⟨qu, quc, qf, qfc, some ⟨bX, oX, none⟩, qac, qs, qsc, qo, qoc⟩ X W' (HO4.out.later (HL4.out.trans (h.mono HL4.out.size))).in
      have cTx := fun W' (h : Below W6.heap.size W6 W') => implTotalOf ⟨pu, puc, pf, pfc, some ⟨bx, ox, none⟩, pac, ps, psc, po, poc⟩ x W' (HO.out.later (HL2.out.trans (h.mono HL2.out.size))).in
      rw [htX.out] at cTX
      rw [htx.out] at cTx
      have nT : (totF x == totF x) = true := by simp
      generalize totF x = TT at cTX cTx nT
      have cLX := fun W' (h : Below W6.heap.size W6 W') => implLeaveSide ⟨qu, quc, qf, qfc, some ⟨bX, oX, none⟩, qac, qs, qsc, qo, qoc⟩ X W' (HO4.out.later (HL4.out.trans (h.mono HL4.out.size))).in i
      rw [gst] at cLX
      have cOX := fun o W' (h : Below W6.heap.size W6 W') => implOwnedBy qu X.us.length quc qf X.fs.length qfc X.us X.fs o rfl rfl W' (HO4.out.later (HL4.out.trans (h.mono HL4.out.size))).in.u.arg (HO4.out.later (HL4.out.trans (h.mono HL4.out.size))).in.f.arg
      have cOx := fun o W' (h : Below W6.heap.size W6 W') => implOwnedBy pu x.us.length puc pf x.fs.length pfc x.us x.fs o rfl rfl W' (HO.out.later (HL2.out.trans (h.mono HL2.out.size))).in.u.arg (HO.out.later (HL2.out.trans (h.mono HL2.out.size))).in.f.arg
      have cSame := fun (q2 : WP) W' (h : Below W6.heap.size W6 W') (h2 : ArgW W' q2 X) => sameW_in ⟨qu, quc, qf, qfc, some ⟨bX, oX, none⟩, qac, qs, qsc, qo, qoc⟩ q2 X W' (HO4.out.later (HL4.out.trans (h.mono HL4.out.size))).in.arg h2 Hb.out.1 Hb.out.2.1 Hb.out.2.2.1 Hb.out.2.2.2.1 Hb.out.2.2.2.2
      have fEq : ∀ w, (binOp .eql 46 (.agg #[.int .i64 0, .bool true, .int .i64 0]) (.agg #[.int .i64 0, .bool true, .int .i64 0])).run Tryz.prog w = .ok (.bool true) w := fun w => by kernel_rfl
      clear G Gx GX gw htX htx g4 x4 gl gfs gat gst gid gc gn gr bx0 bX0 hy hyp hnX hnx nX8 nx8 e2 w0 ib hal hatx hatX keep hux hfx Hgood Hgz nCC cH
      obtain ⟨a0, a1, a2, a3, a4, a5, a6, c0, c1, c2, c3, c4, c5, c6, c7, h0, h1, y0, z0, z1, z2, al, cl, hl5, bl1, bl2⟩ := keep2 _ Bc
      go_wp2_with fail
      refine (cF _ Bc).mono ?_
      rintro e wn ⟨rfl, kn⟩
      have Bc := Bc.trans (kn.mono Bc.size)
      clear a0 a1 a2 a3 a4 a5 a6 c0 c1 c2 c3 c4 c5 c6 c7 h0 h1 y0 z0 z1 z2 al cl hl5 bl1 bl2
      obtain ⟨a0, a1, a2, a3, a4, a5, a6, c0, c1, c2, c3, c4, c5, c6, c7, h0, h1, y0, z0, z1, z2, al, cl, hl5, bl1, bl2⟩ := keep2 _ Bc
      go_wp2_with fail
      go_loopw [7, 8, 9] (fun mv sv iv wr => ∃ (k : Nat) (M S : Int), iv = .int .i64 k ∧ mv = .int .i64 M ∧ sv = .int .i64 S ∧ k ≤ n ∧ Hid ((k = 0 ∧ M = 0 ∧ S = 99) ∨ ((qq : Int) ≤ M ∧ M ≤ (qq : Int) + 1 ∧ (qq : Int) ≤ S ∧ S ≤ (qq : Int) + 1)) ∧ Below W6.heap.size W6 wr) (fun _ _ iv _ => n - (intOf iv).toNat)
      case atStart => exact ⟨0, 0, 99, rfl, rfl, rfl, Nat.zero_le _, .inl ⟨rfl, rfl, rfl⟩, Bc⟩
      case round =>
        clear a0 a1 a2 a3 a4 a5 a6 c0 c1 c2 c3 c4 c5 c6 c7 h0 h1 y0 z0 z1 z2 al cl hl5 bl1 bl2 Bc
        obtain ⟨k, M, S, rfl, rfl, rfl, hk, Hm, Bc⟩ := hrel
        obtain ⟨a0, a1, a2, a3, a4, a5, a6, c0, c1, c2, c3, c4, c5, c6, c7, h0, h1, y0, z0, z1, z2, al, cl, hl5, bl1, bl2⟩ := keep2 _ Bc
        by_cases hlt : k < n
        · have hlt' : (k : Int) < (n : Int) := by omega
          obtain ⟨kk, hkk⟩ : ∃ kk, L[k]? = some kk := ⟨_, List.getElem?_eq_getElem (by have := Hn.out; omega)⟩
          rcases HI.out.read with ⟨_, he⟩ | ⟨qh, cap', hv, _, hql, hcell⟩
          · rw [he] at hkk; simp at hkk
          injection hv with v1 v2 v3
          subst v1
          have hc0 := hcell k kk hkk
          have keepL : ∀ w', Below W6.heap.size W6 w' → w'.cell? ⟨qh, k, none⟩ = some (.int .i64 kk) ∧ qh < w'.heap.size := fun w' h => ⟨by rw [h.cell hql]; exact hc0, Nat.lt_of_lt_of_le hql h.size⟩
          obtain ⟨e1, e2⟩ := Hcnt.out kk (List.mem_of_getElem? hkk)
          have e3 := HX8.out kk
          have e4 := Hx8.out kk
          obtain ⟨D, HD⟩ : ∃ D : Int, Hid (D = (nX kk : Int) - (nx kk : Int)) := ⟨_, rfl⟩
          have hd : IntKind.i64.wrap ((nX kk : Int) - (nx kk : Int)) = D := by rw [HD.out, IntKind.wrap_i64]; omega
          have d1 : (qq : Int) ≤ D := by rw [HD.out]; omega
          have d2 : D ≤ (qq : Int) + 1 := by rw [HD.out]; omega
          clear hkk hcell hc0 v2 v3 e1 e2 e3 e4
          have Bc := Bc.trans ((Below.refl _ _).drew.mono Bc.size)
          clear a0 a1 a2 a3 a4 a5 a6 c0 c1 c2 c3 c4 c5 c6 c7 h0 h1 y0 z0 z1 z2 al cl hl5 bl1 bl2
          obtain ⟨a0, a1, a2, a3, a4, a5, a6, c0, c1, c2, c3, c4, c5, c6, c7, h0, h1, y0, z0, z1, z2, al, cl, hl5, bl1, bl2⟩ := keep2 _ Bc
          obtain ⟨lc, ll⟩ := keepL _ Bc
          go_upto_region 19 with fail
          as_aux_lemma =>
            go_region_held3 (fun w' => w'.cell? ⟨w1.heap.size, 0, none⟩ = some (.int .i64 x.t) ∧ w'.cell? ⟨w1.heap.size, 1, none⟩ = some (.int .i64 x.s) ∧ w'.cell? ⟨w1.heap.size, 2, none⟩ = some (.slice pu x.us.length puc) ∧ w'.cell? ⟨w1.heap.size, 3, none⟩ = some (.slice pf x.fs.length pfc) ∧ w'.cell? ⟨w1.heap.size, 4, none⟩ = some (.slice (some ⟨bx, ox, none⟩) x.fa.length pac) ∧ w'.cell? ⟨w1.heap.size, 5, none⟩ = some (.slice ps x.se.length psc) ∧ w'.cell? ⟨w1.heap.size, 6, none⟩ = some (.slice po x.oo.length poc) ∧ w'.cell? ⟨w3.heap.size, 0, none⟩ = some (.int .i64 0) ∧ w'.cell? ⟨w3.heap.size, 1, none⟩ = some (.int .i64 X.t) ∧ w'.cell? ⟨w3.heap.size, 2, none⟩ = some (.int .i64 X.s) ∧ w'.cell? ⟨w3.heap.size, 3, none⟩ = some (.slice qu X.us.length quc) ∧ w'.cell? ⟨w3.heap.size, 4, none⟩ = some (.slice qf X.fs.length qfc) ∧ w'.cell? ⟨w3.heap.size, 5, none⟩ = some (.slice (some ⟨bX, oX, none⟩) X.fa.length qac) ∧ w'.cell? ⟨w3.heap.size, 6, none⟩ = some (.slice qs X.se.length qsc) ∧ w'.cell? ⟨w3.heap.size, 7, none⟩ = some (.slice qo X.oo.length qoc) ∧ w'.cell? ⟨w5.heap.size, 0, none⟩ = some (.int .i64 hC) ∧ w'.cell? ⟨w5.heap.size, 1, none⟩ = some (.slice (some ⟨qh, 0, none⟩) n hc) ∧ w'.cell? ⟨bx, ox + i.toNat * 3, none⟩ = some (.int .i64 y.c0) ∧ w'.cell? ⟨bX, oX + i.toNat * 3, none⟩ = some (.int .i64 0) ∧ w'.cell? ⟨bX, oX + i.toNat * 3 + 1, none⟩ = some (.bool true) ∧ w'.cell? ⟨bX, oX + i.toNat * 3 + 2, none⟩ = some (.int .i64 0) ∧ w'.cell? ⟨qh, k, none⟩ = some (.int .i64 kk)) (first | exact (by obtain ⟨a0, a1, a2, a3, a4, a5, a6, c0, c1, c2, c3, c4, c5, c6, c7, h0, h1, y0, z0, z1, z2, _, _, _, _, _⟩ := keep2 _ Bc; exact ⟨a0, a1, a2, a3, a4, a5, a6, c0, c1, c2, c3, c4, c5, c6, c7, h0, h1, y0, z0, z1, z2, (keepL _ Bc).1⟩) | go_keep) (first
                | (go_at_call 12; with_reducible refine (cOX _ _ Bc).mono ?_; rintro e wn ⟨v, rfl, Sv, kn⟩; obtain ⟨pv, cv, rfl⟩ := Sv.form; rw [HnX.out]; have Bc := Bc.trans (kn.mono Bc.size); obtain ⟨a0, a1, a2, a3, a4, a5, a6, c0, c1, c2, c3, c4, c5, c6, c7, h0, h1, y0, z0, z1, z2, al, cl, hl5, bl1, bl2⟩ := keep2 _ Bc; obtain ⟨lc, ll⟩ := keepL _ Bc)
                | (go_at_call 12; with_reducible refine (cOx _ _ Bc).mono ?_; rintro e wn ⟨v, rfl, Sv, kn⟩; obtain ⟨pv, cv, rfl⟩ := Sv.form; rw [Hnx.out]; have Bc := Bc.trans (kn.mono Bc.size); obtain ⟨a0, a1, a2, a3, a4, a5, a6, c0, c1, c2, c3, c4, c5, c6, c7, h0, h1, y0, z0, z1, z2, al, cl, hl5, bl1, bl2⟩ := keep2 _ Bc; obtain ⟨lc, ll⟩ := keepL _ Bc))
            go_wp2_with fail
            go_roundw
            case rel => exact ⟨k + 1, _, _, by go_num, rfl, rfl, by omega, (by show _ ∨ _; have := Hm.out; right; omega), Bc⟩
            case measure => simp [intOf]; omega
        · obtain rfl : k = n := by omega
          have hlt' : ¬ (k : Int) < (k : Int) := by omega
          by_cases h0 : k = 0
          · subst h0
            have nn : (((0 : Nat) : Int) == 0) = true := rfl
            obtain ⟨e1, e2⟩ := Hnon.out (List.eq_nil_of_length_eq_zero Hn.out)
            have neS : (X.s != x.s + y.c0) = false := by rw [e1]; simp
            have hwS : IntKind.i64.wrap (x.s + y.c0) = x.s + y.c0 := by rw [IntKind.wrap_i64]; omega
            have e3 := Hx8.out 9
            have e4 := Hx8.out i
            have hwN : IntKind.i64.wrap ((nx 9 : Int) + (nx i : Int)) = (nx 9 : Int) + (nx i : Int) := by rw [IntKind.wrap_i64]; omega
            have neN : ((nX 9 : Int) != (nx 9 : Int) + (nx i : Int)) = false := by rw [e2]; simp
            have nXi' : ((nX i : Int) == 0) = true := by rw [nXi]; rfl
            clear e1 e2 e3 e4 Hm nXi
            go_upto_region 22 with fail
            have Bc := Bc.trans ((Below.refl _ _).drew.mono Bc.size)
            go_region_held3 (fun w' => w'.cell? ⟨w1.heap.size, 0, none⟩ = some (.int .i64 x.t) ∧ w'.cell? ⟨w1.heap.size, 1, none⟩ = some (.int .i64 x.s) ∧ w'.cell? ⟨w1.heap.size, 2, none⟩ = some (.slice pu x.us.length puc) ∧ w'.cell? ⟨w1.heap.size, 3, none⟩ = some (.slice pf x.fs.length pfc) ∧ w'.cell? ⟨w1.heap.size, 4, none⟩ = some (.slice (some ⟨bx, ox, none⟩) x.fa.length pac) ∧ w'.cell? ⟨w1.heap.size, 5, none⟩ = some (.slice ps x.se.length psc) ∧ w'.cell? ⟨w1.heap.size, 6, none⟩ = some (.slice po x.oo.length poc) ∧ w'.cell? ⟨w3.heap.size, 0, none⟩ = some (.int .i64 0) ∧ w'.cell? ⟨w3.heap.size, 1, none⟩ = some (.int .i64 X.t) ∧ w'.cell? ⟨w3.heap.size, 2, none⟩ = some (.int .i64 X.s) ∧ w'.cell? ⟨w3.heap.size, 3, none⟩ = some (.slice qu X.us.length quc) ∧ w'.cell? ⟨w3.heap.size, 4, none⟩ = some (.slice qf X.fs.length qfc) ∧ w'.cell? ⟨w3.heap.size, 5, none⟩ = some (.slice (some ⟨bX, oX, none⟩) X.fa.length qac) ∧ w'.cell? ⟨w3.heap.size, 6, none⟩ = some (.slice qs X.se.length qsc) ∧ w'.cell? ⟨w3.heap.size, 7, none⟩ = some (.slice qo X.oo.length qoc) ∧ w'.cell? ⟨w5.heap.size, 0, none⟩ = some (.int .i64 hC) ∧ w'.cell? ⟨w5.heap.size, 1, none⟩ = some (.slice hq 0 hc) ∧ w'.cell? ⟨bx, ox + i.toNat * 3, none⟩ = some (.int .i64 y.c0) ∧ w'.cell? ⟨bX, oX + i.toNat * 3, none⟩ = some (.int .i64 0) ∧ w'.cell? ⟨bX, oX + i.toNat * 3 + 1, none⟩ = some (.bool true) ∧ w'.cell? ⟨bX, oX + i.toNat * 3 + 2, none⟩ = some (.int .i64 0)) (first | exact (by obtain ⟨a0, a1, a2, a3, a4, a5, a6, c0, c1, c2, c3, c4, c5, c6, c7, h0, h1, y0, z0, z1, z2, _, _, _, _, _⟩ := keep2 _ Bc; exact ⟨a0, a1, a2, a3, a4, a5, a6, c0, c1, c2, c3, c4, c5, c6, c7, h0, h1, y0, z0, z1, z2⟩) | go_keep) (first
                | (go_at_call 12; with_reducible refine (cOX _ _ Bc).mono ?_; rintro e wn ⟨v, rfl, Sv, kn⟩; obtain ⟨pv, cv, rfl⟩ := Sv.form; rw [HnX.out]; have Bc := Bc.trans (kn.mono Bc.size); obtain ⟨a0, a1, a2, a3, a4, a5, a6, c0, c1, c2, c3, c4, c5, c6, c7, h0, h1, y0, z0, z1, z2, al, cl, hl5, bl1, bl2⟩ := keep2 _ Bc)
                | (go_at_call 12; with_reducible refine (cOx _ _ Bc).mono ?_; rintro e wn ⟨v, rfl, Sv, kn⟩; obtain ⟨pv, cv, rfl⟩ := Sv.form; rw [Hnx.out]; have Bc := Bc.trans (kn.mono Bc.size); obtain ⟨a0, a1, a2, a3, a4, a5, a6, c0, c1, c2, c3, c4, c5, c6, c7, h0, h1, y0, z0, z1, z2, al, cl, hl5, bl1, bl2⟩ := keep2 _ Bc))
            as_aux_lemma =>
              go_upto_region 24 with fail
              have Bc := Bc.trans ((Below.refl _ _).drew.mono Bc.size)
              refine wp_region_held_drew (S := (fun w' => w'.cell? ⟨w1.heap.size, 0, none⟩ = some (.int .i64 x.t) ∧ w'.cell? ⟨w1.heap.size, 1, none⟩ = some (.int .i64 x.s) ∧ w'.cell? ⟨w1.heap.size, 2, none⟩ = some (.slice pu x.us.length puc) ∧ w'.cell? ⟨w1.heap.size, 3, none⟩ = some (.slice pf x.fs.length pfc) ∧ w'.cell? ⟨w1.heap.size, 4, none⟩ = some (.slice (some ⟨bx, ox, none⟩) x.fa.length pac) ∧ w'.cell? ⟨w1.heap.size, 5, none⟩ = some (.slice ps x.se.length psc) ∧ w'.cell? ⟨w1.heap.size, 6, none⟩ = some (.slice po x.oo.length poc) ∧ w'.cell? ⟨w3.heap.size, 0, none⟩ = some (.int .i64 0) ∧ w'.cell? ⟨w3.heap.size, 1, none⟩ = some (.int .i64 X.t) ∧ w'.cell? ⟨w3.heap.size, 2, none⟩ = some (.int .i64 X.s) ∧ w'.cell? ⟨w3.heap.size, 3, none⟩ = some (.slice qu X.us.length quc) ∧ w'.cell? ⟨w3.heap.size, 4, none⟩ = some (.slice qf X.fs.length qfc) ∧ w'.cell? ⟨w3.heap.size, 5, none⟩ = some (.slice (some ⟨bX, oX, none⟩) X.fa.length qac) ∧ w'.cell? ⟨w3.heap.size, 6, none⟩ = some (.slice qs X.se.length qsc) ∧ w'.cell? ⟨w3.heap.size, 7, none⟩ = some (.slice qo X.oo.length qoc) ∧ w'.cell? ⟨w5.heap.size, 0, none⟩ = some (.int .i64 hC) ∧ w'.cell? ⟨w5.heap.size, 1, none⟩ = some (.slice hq 0 hc) ∧ w'.cell? ⟨bx, ox + i.toNat * 3, none⟩ = some (.int .i64 y.c0) ∧ w'.cell? ⟨bX, oX + i.toNat * 3, none⟩ = some (.int .i64 0) ∧ w'.cell? ⟨bX, oX + i.toNat * 3 + 1, none⟩ = some (.bool true) ∧ w'.cell? ⟨bX, oX + i.toNat * 3 + 2, none⟩ = some (.int .i64 0))) (by kernel_rfl) ?_ (fun hHeld => ?_)
              · (first | exact (by obtain ⟨a0, a1, a2, a3, a4, a5, a6, c0, c1, c2, c3, c4, c5, c6, c7, h0, h1, y0, z0, z1, z2, _, _, _, _, _⟩ := keep2 _ Bc; exact ⟨a0, a1, a2, a3, a4, a5, a6, c0, c1, c2, c3, c4, c5, c6, c7, h0, h1, y0, z0, z1, z2⟩) | go_keep)
              refine wpAnyH_take (i := 0) (oi := { dst := some 149, op := Op.fieldAddr 36 (Operand.tmp 5) 1, type := 0, pos := "laws.go:452", after := #[], guard := none }) (v := ?_) rfl (by kernel_rfl) (by kernel_rfl) (by kernel_rfl) (fun _ _ _ h => h) (Or.inl ⟨by rfl, ?_⟩) hHeld ?_
              rotate_left
              · (intro w9 hSw; (try dsimp only at hSw); go_simp; try with_reducible rfl)
              try simp only [Act.put, List.setIfInBounds_toArray, List.set_cons_zero, List.set_cons_succ]
              refine wpAnyH_take (i := 1) (oi := { dst := some 150, op := Op.fieldAddr 32 (Operand.tmp 149) 3, type := 0, pos := "laws.go:452", after := #[{ on := 0, ground := Ground.data }], guard := none }) (v := ?_) rfl (by kernel_rfl) (by kernel_rfl) (by kernel_rfl) (fun _ _ _ h => h) (Or.inl ⟨by rfl, ?_⟩) hHeld ?_
              rotate_left
              · (intro w9 hSw; (try dsimp only at hSw); go_simp; try with_reducible rfl)
              try simp only [Act.put, List.setIfInBounds_toArray, List.set_cons_zero, List.set_cons_succ]
              refine wpAnyH_take (i := 2) (oi := { dst := some 151, op := Op.load 28 (Operand.tmp 150), type := 28, pos := "laws.go:452", after := #[{ on := 1, ground := Ground.data }], guard := none }) (v := ?_) rfl (by kernel_rfl) (by kernel_rfl) (by kernel_rfl) (fun _ _ _ h => h) (Or.inl ⟨by rfl, ?_⟩) hHeld ?_
              rotate_left
              · (intro w9 hSw; (try dsimp only at hSw); go_simp; try with_reducible rfl)
              try simp only [Act.put, List.setIfInBounds_toArray, List.set_cons_zero, List.set_cons_succ]
              refine wpAnyH_take (i := 3) (oi := { dst := some 152, op := Op.move (Operand.tmp 4), type := 2, pos := "laws.go:452", after := #[], guard := none }) (v := ?_) rfl (by kernel_rfl) (by kernel_rfl) (by kernel_rfl) (fun _ _ _ h => h) (Or.inl ⟨by rfl, ?_⟩) hHeld ?_
              rotate_left
              · (intro w9 hSw; (try dsimp only at hSw); go_simp; try with_reducible rfl)
              try simp only [Act.put, List.setIfInBounds_toArray, List.set_cons_zero, List.set_cons_succ]
              refine wpAnyH_take (i := 4) (oi := { dst := some 153, op := Op.indexAddr 28 (Operand.tmp 151) (Operand.tmp 152), type := 0, pos := "laws.go:452", after := #[{ on := 2, ground := Ground.data }, { on := 3, ground := Ground.data }], guard := none }) (v := ?_) rfl (by kernel_rfl) (by kernel_rfl) (by kernel_rfl) (fun _ _ _ h => h) (Or.inl ⟨by rfl, ?_⟩) hHeld ?_
              rotate_left
              · (intro w9 hSw; (try dsimp only at hSw); go_simp; try with_reducible rfl)
              try simp only [Act.put, List.setIfInBounds_toArray, List.set_cons_zero, List.set_cons_succ]
              refine wpAnyH_take (i := 5) (oi := { dst := some 154, op := Op.load 46 (Operand.tmp 153), type := 46, pos := "laws.go:452", after := #[{ on := 4, ground := Ground.data }], guard := none }) (v := ?_) rfl (by kernel_rfl) (by kernel_rfl) (by kernel_rfl) (fun _ _ _ h => h) (Or.inl ⟨by rfl, ?_⟩) hHeld ?_
              rotate_left
              · (intro w9 hSw; (try dsimp only at hSw); go_simp; try with_reducible rfl)
              try simp only [Act.put, List.setIfInBounds_toArray, List.set_cons_zero, List.set_cons_succ]
              refine wpAnyH_take (i := 6) (oi := { dst := some 155, op := Op.build 46 #[(1, Operand.const (Value.bool true))], type := 46, pos := "laws.go:452", after := #[], guard := none }) (v := ?_) rfl (by kernel_rfl) (by kernel_rfl) (by kernel_rfl) (fun _ _ _ h => h) (Or.inl ⟨by rfl, ?_⟩) hHeld ?_
              rotate_left
              · (intro w9 hSw; (try dsimp only at hSw); go_simp; try with_reducible rfl)
              try simp only [Act.put, List.setIfInBounds_toArray, List.set_cons_zero, List.set_cons_succ]
              refine wpAnyH_take (i := 7) (oi := { dst := some 156, op := Op.binOp BinOp.eql 46 (Operand.tmp 154) (Operand.tmp 155) 46, type := 4, pos := "laws.go:452", after := #[{ on := 5, ground := Ground.data }, { on := 6, ground := Ground.data }], guard := none }) (v := ?_) rfl (by kernel_rfl) (by kernel_rfl) (by kernel_rfl) (fun _ _ _ h => h) (Or.inl ⟨by rfl, ?_⟩) hHeld ?_
              rotate_left
              · (intro w9 hSw; (try dsimp only at hSw); go_simp; try with_reducible rfl)
              try simp only [Act.put, List.setIfInBounds_toArray, List.set_cons_zero, List.set_cons_succ]
              refine wpAnyH_take (i := 8) (oi := { dst := some 157, op := Op.move (Operand.tmp 156), type := 4, pos := "laws.go:452", after := #[{ on := 7, ground := Ground.data }], guard := none }) (v := ?_) rfl (by kernel_rfl) (by kernel_rfl) (by kernel_rfl) (fun _ _ _ h => h) (Or.inl ⟨by rfl, ?_⟩) hHeld ?_
              rotate_left
              · (intro w9 hSw; (try dsimp only at hSw); go_simp; try with_reducible rfl)
              try simp only [Act.put, List.setIfInBounds_toArray, List.set_cons_zero, List.set_cons_succ]
              refine wpAnyH_take (i := 9) (oi := { dst := some 158, op := Op.fieldAddr 36 (Operand.tmp 5) 1, type := 0, pos := "laws.go:452", after := #[{ on := 8, ground := Ground.guard }], guard := some (8, true) }) (v := ?_) rfl (by kernel_rfl) (by kernel_rfl) (by kernel_rfl) (fun _ _ _ h => h) (Or.inl ⟨by rfl, ?_⟩) hHeld ?_
              rotate_left
              · (intro w9 hSw; (try dsimp only at hSw); go_simp; try with_reducible rfl)
              try simp only [Act.put, List.setIfInBounds_toArray, List.set_cons_zero, List.set_cons_succ]
              refine wpAnyH_take (i := 10) (oi := { dst := some 159, op := Op.load 32 (Operand.tmp 158), type := 32, pos := "laws.go:452", after := #[{ on := 9, ground := Ground.data }, { on := 8, ground := Ground.guard }], guard := some (8, true) }) (v := ?_) rfl (by kernel_rfl) (by kernel_rfl) (by kernel_rfl) (fun _ _ _ h => h) (Or.inl ⟨by rfl, ?_⟩) hHeld ?_
              rotate_left
              · (intro w9 hSw; (try dsimp only at hSw); go_simp; try with_reducible rfl)
              try simp only [Act.put, List.setIfInBounds_toArray, List.set_cons_zero, List.set_cons_succ]
              refine wpAnyH_take (i := 13) (oi := { dst := some 162, op := Op.load 32 (Operand.tmp 3), type := 32, pos := "laws.go:452", after := #[{ on := 8, ground := Ground.guard }], guard := some (8, true) }) (v := ?_) rfl (by kernel_rfl) (by kernel_rfl) (by kernel_rfl) (fun _ _ _ h => h) (Or.inl ⟨by rfl, ?_⟩) hHeld ?_
              rotate_left
              · (intro w9 hSw; (try dsimp only at hSw); go_simp; try with_reducible rfl)
              try simp only [Act.put, List.setIfInBounds_toArray, List.set_cons_zero, List.set_cons_succ]
              refine wpAnyH_ready (rs := [11]) (by kernel_rfl) (by simp) ?_
              refine AllReadyH.cons (o := { dst := some 160, op := Op.call { callee := Callee.value (Operand.func 13), args := #[Operand.tmp 159], argTypes := #[32] }, type := 48, pos := "laws.go:452", after := #[{ on := 10, ground := Ground.data }, { on := 8, ground := Ground.chain }, { on := 8, ground := Ground.guard }], guard := some (8, true) }) rfl (fun K hK => ?_) AllReadyH.nil
              go_simp
              go_at_call 13; with_reducible refine (cTX _ Bc).mono ?_; rintro e wn ⟨rfl, kn⟩; have Bc := Bc.trans (kn.mono Bc.size); obtain ⟨a0, a1, a2, a3, a4, a5, a6, c0, c1, c2, c3, c4, c5, c6, c7, h0, h1, y0, z0, z1, z2, al, cl, hl5, bl1, bl2⟩ := keep2 _ Bc
              try go_wp2_with fail
              clear hHeld
              refine hK.out _ _ ?_ (fun hHeld => ?_)
              · (first | exact (by obtain ⟨a0, a1, a2, a3, a4, a5, a6, c0, c1, c2, c3, c4, c5, c6, c7, h0, h1, y0, z0, z1, z2, _, _, _, _, _⟩ := keep2 _ Bc; exact ⟨a0, a1, a2, a3, a4, a5, a6, c0, c1, c2, c3, c4, c5, c6, c7, h0, h1, y0, z0, z1, z2⟩) | go_keep)
              clear hK K
              try simp only [Act.put, List.setIfInBounds_toArray, List.set_cons_zero, List.set_cons_succ]
              refine wpAnyH_take (i := 12) (oi := { dst := some 161, op := Op.field 48 (Operand.tmp 160) 1, type := 2, pos := "laws.go:452", after := #[{ on := 11, ground := Ground.data }, { on := 8, ground := Ground.guard }], guard := some (8, true) }) (v := ?_) rfl (by kernel_rfl) (by kernel_rfl) (by kernel_rfl) (fun _ _ _ h => h) (Or.inl ⟨by rfl, ?_⟩) hHeld ?_
              rotate_left
              · (intro w9 hSw; (try dsimp only at hSw); go_simp; try with_reducible rfl)
              try simp only [Act.put, List.setIfInBounds_toArray, List.set_cons_zero, List.set_cons_succ]
              refine wpAnyH_ready (rs := [14]) (by kernel_rfl) (by simp) ?_
              refine AllReadyH.cons (o := { dst := some 163, op := Op.call { callee := Callee.value (Operand.func 13), args := #[Operand.tmp 162], argTypes := #[32] }, type := 48, pos := "laws.go:452", after := #[{ on := 13, ground := Ground.data }, { on := 11, ground := Ground.chain }, { on := 8, ground := Ground.guard }], guard := some (8, true) }) rfl (fun K hK => ?_) AllReadyH.nil
              go_simp
              go_at_call 13; with_reducible refine (cTx _ Bc).mono ?_; rintro e wn ⟨rfl, kn⟩; have Bc := Bc.trans (kn.mono Bc.size); obtain ⟨a0, a1, a2, a3, a4, a5, a6, c0, c1, c2, c3, c4, c5, c6, c7, h0, h1, y0, z0, z1, z2, al, cl, hl5, bl1, bl2⟩ := keep2 _ Bc
              try go_wp2_with fail
              clear hHeld
              refine hK.out _ _ ?_ (fun hHeld => ?_)
              · (first | exact (by obtain ⟨a0, a1, a2, a3, a4, a5, a6, c0, c1, c2, c3, c4, c5, c6, c7, h0, h1, y0, z0, z1, z2, _, _, _, _, _⟩ := keep2 _ Bc; exact ⟨a0, a1, a2, a3, a4, a5, a6, c0, c1, c2, c3, c4, c5, c6, c7, h0, h1, y0, z0, z1, z2⟩) | go_keep)
              clear hK K
              try simp only [Act.put, List.setIfInBounds_toArray, List.set_cons_zero, List.set_cons_succ]
              refine wpAnyH_take (i := 15) (oi := { dst := some 164, op := Op.field 48 (Operand.tmp 163) 1, type := 2, pos := "laws.go:452", after := #[{ on := 14, ground := Ground.data }, { on := 8, ground := Ground.guard }], guard := some (8, true) }) (v := ?_) rfl (by kernel_rfl) (by kernel_rfl) (by kernel_rfl) (fun _ _ _ h => h) (Or.inl ⟨by rfl, ?_⟩) hHeld ?_
              rotate_left
              · (intro w9 hSw; (try dsimp only at hSw); go_simp; try with_reducible rfl)
              try simp only [Act.put, List.setIfInBounds_toArray, List.set_cons_zero, List.set_cons_succ]
              refine wpAnyH_take (i := 16) (oi := { dst := some 165, op := Op.binOp BinOp.eql 2 (Operand.tmp 161) (Operand.tmp 164) 2, type := 4, pos := "laws.go:452", after := #[{ on := 12, ground := Ground.data }, { on := 15, ground := Ground.data }, { on := 8, ground := Ground.guard }], guard := some (8, true) }) (v := ?_) rfl (by kernel_rfl) (by kernel_rfl) (by kernel_rfl) (fun _ _ _ h => h) (Or.inl ⟨by rfl, ?_⟩) hHeld ?_
              rotate_left
              · (intro w9 hSw; (try dsimp only at hSw); go_simp; try with_reducible rfl)
              try simp only [Act.put, List.setIfInBounds_toArray, List.set_cons_zero, List.set_cons_succ]
              refine wpAnyH_take (i := 17) (oi := { dst := some 166, op := Op.pick (Operand.tmp 157) (Operand.tmp 165) (Operand.const (Value.bool false)), type := 4, pos := "laws.go:452", after := #[{ on := 8, ground := Ground.data }, { on := 16, ground := Ground.data }], guard := none }) (v := ?_) rfl (by kernel_rfl) (by kernel_rfl) (by kernel_rfl) (fun _ _ _ h => h) (Or.inl ⟨by rfl, ?_⟩) hHeld ?_
              rotate_left
              · (intro w9 hSw; (try dsimp only at hSw); go_simp; try with_reducible rfl)
              try simp only [Act.put, List.setIfInBounds_toArray, List.set_cons_zero, List.set_cons_succ]
              refine wpAnyH_take (i := 18) (oi := { dst := some 167, op := Op.move (Operand.tmp 166), type := 4, pos := "laws.go:452", after := #[{ on := 17, ground := Ground.data }, { on := 14, ground := Ground.chain }], guard := none }) (v := ?_) rfl (by kernel_rfl) (by kernel_rfl) (by kernel_rfl) (fun _ _ _ h => h) (Or.inl ⟨by rfl, ?_⟩) hHeld ?_
              rotate_left
              · (intro w9 hSw; (try dsimp only at hSw); go_simp; try with_reducible rfl)
              try simp only [Act.put, List.setIfInBounds_toArray, List.set_cons_zero, List.set_cons_succ]
              refine wpAnyH_take (i := 19) (oi := { dst := some 168, op := Op.fieldAddr 40 (Operand.tmp 6) 1, type := 0, pos := "laws.go:452", after := #[{ on := 18, ground := Ground.guard }], guard := some (18, true) }) (v := ?_) rfl (by kernel_rfl) (by kernel_rfl) (by kernel_rfl) (fun _ _ _ h => h) (Or.inl ⟨by rfl, ?_⟩) hHeld ?_
              rotate_left
              · (intro w9 hSw; (try dsimp only at hSw); go_simp; try with_reducible rfl)
              try simp only [Act.put, List.setIfInBounds_toArray, List.set_cons_zero, List.set_cons_succ]
              refine wpAnyH_take (i := 20) (oi := { dst := some 169, op := Op.load 38 (Operand.tmp 168), type := 38, pos := "laws.go:452", after := #[{ on := 19, ground := Ground.data }, { on := 18, ground := Ground.guard }], guard := some (18, true) }) (v := ?_) rfl (by kernel_rfl) (by kernel_rfl) (by kernel_rfl) (fun _ _ _ h => h) (Or.inl ⟨by rfl, ?_⟩) hHeld ?_
              rotate_left
              · (intro w9 hSw; (try dsimp only at hSw); go_simp; try with_reducible rfl)
              try simp only [Act.put, List.setIfInBounds_toArray, List.set_cons_zero, List.set_cons_succ]
              refine wpAnyH_take (i := 21) (oi := { dst := some 170, op := Op.call { callee := Callee.builtin Builtin.len, args := #[Operand.tmp 169], argTypes := #[38] }, type := 3, pos := "laws.go:452", after := #[{ on := 20, ground := Ground.data }, { on := 18, ground := Ground.guard }], guard := some (18, true) }) (v := ?_) rfl (by kernel_rfl) (by kernel_rfl) (by kernel_rfl) (fun _ _ _ h => h) (Or.inl ⟨by rfl, ?_⟩) hHeld ?_
              rotate_left
              · (intro w9 hSw; (try dsimp only at hSw); go_simp; try with_reducible rfl)
              try simp only [Act.put, List.setIfInBounds_toArray, List.set_cons_zero, List.set_cons_succ]
              refine wpAnyH_take (i := 22) (oi := { dst := some 171, op := Op.binOp BinOp.eql 3 (Operand.tmp 170) (Operand.const (Value.int IntKind.i64 0)) 3, type := 4, pos := "laws.go:452", after := #[{ on := 21, ground := Ground.data }, { on := 18, ground := Ground.guard }], guard := some (18, true) }) (v := ?_) rfl (by kernel_rfl) (by kernel_rfl) (by kernel_rfl) (fun _ _ _ h => h) (Or.inl ⟨by rfl, ?_⟩) hHeld ?_
              rotate_left
              · (intro w9 hSw; (try dsimp only at hSw); go_simp; try with_reducible rfl)
              try simp only [Act.put, List.setIfInBounds_toArray, List.set_cons_zero, List.set_cons_succ]
              refine wpAnyH_take (i := 23) (oi := { dst := some 172, op := Op.move (Operand.tmp 171), type := 4, pos := "laws.go:452", after := #[{ on := 22, ground := Ground.data }, { on := 18, ground := Ground.chain }, { on := 18, ground := Ground.guard }], guard := some (18, true) }) (v := ?_) rfl (by kernel_rfl) (by kernel_rfl) (by kernel_rfl) (fun _ _ _ h => h) (Or.inl ⟨by rfl, ?_⟩) hHeld ?_
              rotate_left
              · (intro w9 hSw; (try dsimp only at hSw); go_simp; try with_reducible rfl)
              try simp only [Act.put, List.setIfInBounds_toArray, List.set_cons_zero, List.set_cons_succ]
              refine wpAnyH_take (i := 24) (oi := { dst := some 173, op := Op.move (Operand.tmp 7), type := 2, pos := "laws.go:452", after := #[{ on := 23, ground := Ground.guard }], guard := some (23, false) }) (v := undef) rfl (by kernel_rfl) (by kernel_rfl) (by kernel_rfl) (fun _ _ _ h => h) (Or.inr ⟨by rfl, rfl⟩) hHeld ?_
              try simp only [Act.put, List.setIfInBounds_toArray, List.set_cons_zero, List.set_cons_succ]
              refine wpAnyH_take (i := 25) (oi := { dst := some 174, op := Op.move (Operand.tmp 8), type := 2, pos := "laws.go:452", after := #[{ on := 23, ground := Ground.guard }], guard := some (23, false) }) (v := undef) rfl (by kernel_rfl) (by kernel_rfl) (by kernel_rfl) (fun _ _ _ h => h) (Or.inr ⟨by rfl, rfl⟩) hHeld ?_
              try simp only [Act.put, List.setIfInBounds_toArray, List.set_cons_zero, List.set_cons_succ]
              refine wpAnyH_take (i := 26) (oi := { dst := some 175, op := Op.binOp BinOp.sub 2 (Operand.tmp 173) (Operand.tmp 174) 2, type := 2, pos := "laws.go:452", after := #[{ on := 24, ground := Ground.data }, { on := 25, ground := Ground.data }, { on := 23, ground := Ground.guard }], guard := some (23, false) }) (v := undef) rfl (by kernel_rfl) (by kernel_rfl) (by kernel_rfl) (fun _ _ _ h => h) (Or.inr ⟨by rfl, rfl⟩) hHeld ?_
              try simp only [Act.put, List.setIfInBounds_toArray, List.set_cons_zero, List.set_cons_succ]
              refine wpAnyH_take (i := 27) (oi := { dst := some 176, op := Op.binOp BinOp.leq 2 (Operand.tmp 175) (Operand.const (Value.int IntKind.i64 1)) 2, type := 4, pos := "laws.go:452", after := #[{ on := 26, ground := Ground.data }, { on := 23, ground := Ground.guard }], guard := some (23, false) }) (v := undef) rfl (by kernel_rfl) (by kernel_rfl) (by kernel_rfl) (fun _ _ _ h => h) (Or.inr ⟨by rfl, rfl⟩) hHeld ?_
              try simp only [Act.put, List.setIfInBounds_toArray, List.set_cons_zero, List.set_cons_succ]
              refine wpAnyH_take (i := 28) (oi := { dst := some 177, op := Op.pick (Operand.tmp 172) (Operand.const (Value.bool true)) (Operand.tmp 176), type := 4, pos := "laws.go:452", after := #[{ on := 23, ground := Ground.data }, { on := 27, ground := Ground.data }, { on := 18, ground := Ground.guard }], guard := some (18, true) }) (v := ?_) rfl (by kernel_rfl) (by kernel_rfl) (by kernel_rfl) (fun _ _ _ h => h) (Or.inl ⟨by rfl, ?_⟩) hHeld ?_
              rotate_left
              · (intro w9 hSw; (try dsimp only at hSw); go_simp; try with_reducible rfl)
              try simp only [Act.put, List.setIfInBounds_toArray, List.set_cons_zero, List.set_cons_succ]
              refine wpAnyH_take (i := 29) (oi := { dst := some 178, op := Op.pick (Operand.tmp 167) (Operand.tmp 177) (Operand.const (Value.bool false)), type := 4, pos := "laws.go:452", after := #[{ on := 18, ground := Ground.data }, { on := 28, ground := Ground.data }], guard := none }) (v := ?_) rfl (by kernel_rfl) (by kernel_rfl) (by kernel_rfl) (fun _ _ _ h => h) (Or.inl ⟨by rfl, ?_⟩) hHeld ?_
              rotate_left
              · (intro w9 hSw; (try dsimp only at hSw); go_simp; try with_reducible rfl)
              try simp only [Act.put, List.setIfInBounds_toArray, List.set_cons_zero, List.set_cons_succ]
              refine wpAnyH_take (i := 30) (oi := { dst := some 179, op := Op.move (Operand.tmp 178), type := 4, pos := "laws.go:452", after := #[{ on := 29, ground := Ground.data }, { on := 23, ground := Ground.chain }], guard := none }) (v := ?_) rfl (by kernel_rfl) (by kernel_rfl) (by kernel_rfl) (fun _ _ _ h => h) (Or.inl ⟨by rfl, ?_⟩) hHeld ?_
              rotate_left
              · (intro w9 hSw; (try dsimp only at hSw); go_simp; try with_reducible rfl)
              try simp only [Act.put, List.setIfInBounds_toArray, List.set_cons_zero, List.set_cons_succ]
              refine wpAnyH_take (i := 31) (oi := { dst := some 180, op := Op.fieldAddr 36 (Operand.tmp 5) 1, type := 0, pos := "laws.go:452", after := #[{ on := 30, ground := Ground.guard }], guard := some (30, true) }) (v := ?_) rfl (by kernel_rfl) (by kernel_rfl) (by kernel_rfl) (fun _ _ _ h => h) (Or.inl ⟨by rfl, ?_⟩) hHeld ?_
              rotate_left
              · (intro w9 hSw; (try dsimp only at hSw); go_simp; try with_reducible rfl)
              try simp only [Act.put, List.setIfInBounds_toArray, List.set_cons_zero, List.set_cons_succ]
              refine wpAnyH_take (i := 32) (oi := { dst := some 181, op := Op.fieldAddr 32 (Operand.tmp 180) 2, type := 0, pos := "laws.go:452", after := #[{ on := 31, ground := Ground.data }, { on := 30, ground := Ground.guard }], guard := some (30, true) }) (v := ?_) rfl (by kernel_rfl) (by kernel_rfl) (by kernel_rfl) (fun _ _ _ h => h) (Or.inl ⟨by rfl, ?_⟩) hHeld ?_
              rotate_left
              · (intro w9 hSw; (try dsimp only at hSw); go_simp; try with_reducible rfl)
              try simp only [Act.put, List.setIfInBounds_toArray, List.set_cons_zero, List.set_cons_succ]
              refine wpAnyH_take (i := 33) (oi := { dst := some 182, op := Op.load 27 (Operand.tmp 181), type := 27, pos := "laws.go:452", after := #[{ on := 32, ground := Ground.data }, { on := 30, ground := Ground.guard }], guard := some (30, true) }) (v := ?_) rfl (by kernel_rfl) (by kernel_rfl) (by kernel_rfl) (fun _ _ _ h => h) (Or.inl ⟨by rfl, ?_⟩) hHeld ?_
              rotate_left
              · (intro w9 hSw; (try dsimp only at hSw); go_simp; try with_reducible rfl)
              try simp only [Act.put, List.setIfInBounds_toArray, List.set_cons_zero, List.set_cons_succ]
              refine wpAnyH_take (i := 34) (oi := { dst := some 183, op := Op.move (Operand.tmp 4), type := 2, pos := "laws.go:452", after := #[{ on := 30, ground := Ground.guard }], guard := some (30, true) }) (v := ?_) rfl (by kernel_rfl) (by kernel_rfl) (by kernel_rfl) (fun _ _ _ h => h) (Or.inl ⟨by rfl, ?_⟩) hHeld ?_
              rotate_left
              · (intro w9 hSw; (try dsimp only at hSw); go_simp; try with_reducible rfl)
              try simp only [Act.put, List.setIfInBounds_toArray, List.set_cons_zero, List.set_cons_succ]
              refine wpAnyH_ready (rs := [35]) (by kernel_rfl) (by simp) ?_
              refine AllReadyH.cons (o := { dst := some 184, op := Op.call { callee := Callee.value (Operand.func 12), args := #[Operand.tmp 182, Operand.tmp 183], argTypes := #[27, 2] }, type := 40, pos := "laws.go:452", after := #[{ on := 33, ground := Ground.data }, { on := 34, ground := Ground.data }, { on := 30, ground := Ground.chain }, { on := 30, ground := Ground.guard }], guard := some (30, true) }) rfl (fun K hK => ?_) AllReadyH.nil
              go_simp
              go_at_call 12; with_reducible refine (cOX _ _ Bc).mono ?_; rintro e wn ⟨v, rfl, Sv, kn⟩; obtain ⟨pv, cv, rfl⟩ := Sv.form; rw [HnX.out]; have Bc := Bc.trans (kn.mono Bc.size); obtain ⟨a0, a1, a2, a3, a4, a5, a6, c0, c1, c2, c3, c4, c5, c6, c7, h0, h1, y0, z0, z1, z2, al, cl, hl5, bl1, bl2⟩ := keep2 _ Bc
              try go_wp2_with fail
              clear hHeld
              refine hK.out _ _ ?_ (fun hHeld => ?_)
              · (first | exact (by obtain ⟨a0, a1, a2, a3, a4, a5, a6, c0, c1, c2, c3, c4, c5, c6, c7, h0, h1, y0, z0, z1, z2, _, _, _, _, _⟩ := keep2 _ Bc; exact ⟨a0, a1, a2, a3, a4, a5, a6, c0, c1, c2, c3, c4, c5, c6, c7, h0, h1, y0, z0, z1, z2⟩) | go_keep)
              clear hK K
              try simp only [Act.put, List.setIfInBounds_toArray, List.set_cons_zero, List.set_cons_succ]
              refine wpAnyH_take (i := 36) (oi := { dst := some 185, op := Op.field 40 (Operand.tmp 184) 1, type := 38, pos := "laws.go:452", after := #[{ on := 35, ground := Ground.data }, { on := 30, ground := Ground.guard }], guard := some (30, true) }) (v := ?_) rfl (by kernel_rfl) (by kernel_rfl) (by kernel_rfl) (fun _ _ _ h => h) (Or.inl ⟨by rfl, ?_⟩) hHeld ?_
              rotate_left
              · (intro w9 hSw; (try dsimp only at hSw); go_simp; try with_reducible rfl)
              try simp only [Act.put, List.setIfInBounds_toArray, List.set_cons_zero, List.set_cons_succ]
              refine wpAnyH_take (i := 37) (oi := { dst := some 186, op := Op.call { callee := Callee.builtin Builtin.len, args := #[Operand.tmp 185], argTypes := #[38] }, type := 3, pos := "laws.go:452", after := #[{ on := 36, ground := Ground.data }, { on := 30, ground := Ground.guard }], guard := some (30, true) }) (v := ?_) rfl (by kernel_rfl) (by kernel_rfl) (by kernel_rfl) (fun _ _ _ h => h) (Or.inl ⟨by rfl, ?_⟩) hHeld ?_
              rotate_left
              · (intro w9 hSw; (try dsimp only at hSw); go_simp; try with_reducible rfl)
              try simp only [Act.put, List.setIfInBounds_toArray, List.set_cons_zero, List.set_cons_succ]
              refine wpAnyH_take (i := 38) (oi := { dst := some 187, op := Op.binOp BinOp.eql 3 (Operand.tmp 186) (Operand.const (Value.int IntKind.i64 0)) 3, type := 4, pos := "laws.go:452", after := #[{ on := 37, ground := Ground.data }, { on := 30, ground := Ground.guard }], guard := some (30, true) }) (v := ?_) rfl (by kernel_rfl) (by kernel_rfl) (by kernel_rfl) (fun _ _ _ h => h) (Or.inl ⟨by rfl, ?_⟩) hHeld ?_
              rotate_left
              · (intro w9 hSw; (try dsimp only at hSw); go_simp; try with_reducible rfl)
              try simp only [Act.put, List.setIfInBounds_toArray, List.set_cons_zero, List.set_cons_succ]
              refine wpAnyH_take (i := 39) (oi := { dst := some 188, op := Op.pick (Operand.tmp 179) (Operand.tmp 187) (Operand.const (Value.bool false)), type := 4, pos := "laws.go:452", after := #[{ on := 30, ground := Ground.data }, { on := 38, ground := Ground.data }], guard := none }) (v := ?_) rfl (by kernel_rfl) (by kernel_rfl) (by kernel_rfl) (fun _ _ _ h => h) (Or.inl ⟨by rfl, ?_⟩) hHeld ?_
              rotate_left
              · (intro w9 hSw; (try dsimp only at hSw); go_simp; try with_reducible rfl)
              try simp only [Act.put, List.setIfInBounds_toArray, List.set_cons_zero, List.set_cons_succ]
              refine wpAnyH_take (i := 40) (oi := { dst := some 189, op := Op.move (Operand.tmp 188), type := 4, pos := "laws.go:452", after := #[{ on := 39, ground := Ground.data }, { on := 35, ground := Ground.chain }], guard := none }) (v := ?_) rfl (by kernel_rfl) (by kernel_rfl) (by kernel_rfl) (fun _ _ _ h => h) (Or.inl ⟨by rfl, ?_⟩) hHeld ?_
              rotate_left
              · (intro w9 hSw; (try dsimp only at hSw); go_simp; try with_reducible rfl)
              try simp only [Act.put, List.setIfInBounds_toArray, List.set_cons_zero, List.set_cons_succ]
              refine wpAnyH_take (i := 41) (oi := { dst := some 190, op := Op.fieldAddr 36 (Operand.tmp 5) 1, type := 0, pos := "laws.go:452", after := #[{ on := 40, ground := Ground.guard }], guard := some (40, true) }) (v := ?_) rfl (by kernel_rfl) (by kernel_rfl) (by kernel_rfl) (fun _ _ _ h => h) (Or.inl ⟨by rfl, ?_⟩) hHeld ?_
              rotate_left
              · (intro w9 hSw; (try dsimp only at hSw); go_simp; try with_reducible rfl)
              try simp only [Act.put, List.setIfInBounds_toArray, List.set_cons_zero, List.set_cons_succ]
              refine wpAnyH_take (i := 42) (oi := { dst := some 191, op := Op.load 32 (Operand.tmp 190), type := 32, pos := "laws.go:452", after := #[{ on := 41, ground := Ground.data }, { on := 40, ground := Ground.guard }], guard := some (40, true) }) (v := ?_) rfl (by kernel_rfl) (by kernel_rfl) (by kernel_rfl) (fun _ _ _ h => h) (Or.inl ⟨by rfl, ?_⟩) hHeld ?_
              rotate_left
              · (intro w9 hSw; (try dsimp only at hSw); go_simp; try with_reducible rfl)
              try simp only [Act.put, List.setIfInBounds_toArray, List.set_cons_zero, List.set_cons_succ]
              refine wpAnyH_take (i := 43) (oi := { dst := some 192, op := Op.move (Operand.tmp 4), type := 2, pos := "laws.go:452", after := #[{ on := 40, ground := Ground.guard }], guard := some (40, true) }) (v := ?_) rfl (by kernel_rfl) (by kernel_rfl) (by kernel_rfl) (fun _ _ _ h => h) (Or.inl ⟨by rfl, ?_⟩) hHeld ?_
              rotate_left
              · (intro w9 hSw; (try dsimp only at hSw); go_simp; try with_reducible rfl)
              try simp only [Act.put, List.setIfInBounds_toArray, List.set_cons_zero, List.set_cons_succ]
              refine wpAnyH_ready (rs := [44]) (by kernel_rfl) (by simp) ?_
              refine AllReadyH.cons (o := { dst := some 193, op := Op.call { callee := Callee.value (Operand.func 6), args := #[Operand.tmp 191, Operand.tmp 192], argTypes := #[32, 2] }, type := 36, pos := "laws.go:452", after := #[{ on := 42, ground := Ground.data }, { on := 43, ground := Ground.data }, { on := 40, ground := Ground.chain }, { on := 40, ground := Ground.guard }], guard := some (40, true) }) rfl (fun K hK => ?_) AllReadyH.nil
              go_simp
              go_at_call 6; with_reducible refine (cLX _ Bc).mono ?_; rintro e wn ⟨q8, rfl, O8, kn⟩; have Bc := Bc.trans (kn.mono Bc.size); obtain ⟨a0, a1, a2, a3, a4, a5, a6, c0, c1, c2, c3, c4, c5, c6, c7, h0, h1, y0, z0, z1, z2, al, cl, hl5, bl1, bl2⟩ := keep2 _ Bc
              try go_wp2_with fail
              clear hHeld
              refine hK.out _ _ ?_ (fun hHeld => ?_)
              · (first | exact (by obtain ⟨a0, a1, a2, a3, a4, a5, a6, c0, c1, c2, c3, c4, c5, c6, c7, h0, h1, y0, z0, z1, z2, _, _, _, _, _⟩ := keep2 _ Bc; exact ⟨a0, a1, a2, a3, a4, a5, a6, c0, c1, c2, c3, c4, c5, c6, c7, h0, h1, y0, z0, z1, z2⟩) | go_keep)
              clear hK K
              try simp only [Act.put, List.setIfInBounds_toArray, List.set_cons_zero, List.set_cons_succ]
              refine wpAnyH_take (i := 45) (oi := { dst := some 194, op := Op.field 36 (Operand.tmp 193) 0, type := 2, pos := "laws.go:452", after := #[{ on := 44, ground := Ground.data }, { on := 40, ground := Ground.guard }], guard := some (40, true) }) (v := ?_) rfl (by kernel_rfl) (by kernel_rfl) (by kernel_rfl) (fun _ _ _ h => h) (Or.inl ⟨by rfl, ?_⟩) hHeld ?_
              rotate_left
              · (intro w9 hSw; (try dsimp only at hSw); go_simp; try with_reducible rfl)
              try simp only [Act.put, List.setIfInBounds_toArray, List.set_cons_zero, List.set_cons_succ]
              refine wpAnyH_take (i := 46) (oi := { dst := some 195, op := Op.binOp BinOp.eql 2 (Operand.tmp 194) (Operand.const (Value.int IntKind.i64 8)) 2, type := 4, pos := "laws.go:452", after := #[{ on := 45, ground := Ground.data }, { on := 40, ground := Ground.guard }], guard := some (40, true) }) (v := ?_) rfl (by kernel_rfl) (by kernel_rfl) (by kernel_rfl) (fun _ _ _ h => h) (Or.inl ⟨by rfl, ?_⟩) hHeld ?_
              rotate_left
              · (intro w9 hSw; (try dsimp only at hSw); go_simp; try with_reducible rfl)
              try simp only [Act.put, List.setIfInBounds_toArray, List.set_cons_zero, List.set_cons_succ]
              refine wpAnyH_take (i := 47) (oi := { dst := some 196, op := Op.pick (Operand.tmp 189) (Operand.tmp 195) (Operand.const (Value.bool false)), type := 4, pos := "laws.go:452", after := #[{ on := 40, ground := Ground.data }, { on := 46, ground := Ground.data }], guard := none }) (v := ?_) rfl (by kernel_rfl) (by kernel_rfl) (by kernel_rfl) (fun _ _ _ h => h) (Or.inl ⟨by rfl, ?_⟩) hHeld ?_
              rotate_left
              · (intro w9 hSw; (try dsimp only at hSw); go_simp; try with_reducible rfl)
              try simp only [Act.put, List.setIfInBounds_toArray, List.set_cons_zero, List.set_cons_succ]
              refine wpAnyH_take (i := 48) (oi := { dst := some 197, op := Op.move (Operand.tmp 196), type := 4, pos := "laws.go:452", after := #[{ on := 47, ground := Ground.data }, { on := 44, ground := Ground.chain }], guard := none }) (v := ?_) rfl (by kernel_rfl) (by kernel_rfl) (by kernel_rfl) (fun _ _ _ h => h) (Or.inl ⟨by rfl, ?_⟩) hHeld ?_
              rotate_left
              · (intro w9 hSw; (try dsimp only at hSw); go_simp; try with_reducible rfl)
              try simp only [Act.put, List.setIfInBounds_toArray, List.set_cons_zero, List.set_cons_succ]
              refine wpAnyH_take (i := 49) (oi := { dst := some 198, op := Op.fieldAddr 36 (Operand.tmp 5) 1, type := 0, pos := "laws.go:452", after := #[{ on := 48, ground := Ground.guard }], guard := some (48, true) }) (v := ?_) rfl (by kernel_rfl) (by kernel_rfl) (by kernel_rfl) (fun _ _ _ h => h) (Or.inl ⟨by rfl, ?_⟩) hHeld ?_
              rotate_left
              · (intro w9 hSw; (try dsimp only at hSw); go_simp; try with_reducible rfl)
              try simp only [Act.put, List.setIfInBounds_toArray, List.set_cons_zero, List.set_cons_succ]
              refine wpAnyH_take (i := 50) (oi := { dst := some 199, op := Op.load 32 (Operand.tmp 198), type := 32, pos := "laws.go:452", after := #[{ on := 49, ground := Ground.data }, { on := 48, ground := Ground.guard }], guard := some (48, true) }) (v := ?_) rfl (by kernel_rfl) (by kernel_rfl) (by kernel_rfl) (fun _ _ _ h => h) (Or.inl ⟨by rfl, ?_⟩) hHeld ?_
              rotate_left
              · (intro w9 hSw; (try dsimp only at hSw); go_simp; try with_reducible rfl)
              try simp only [Act.put, List.setIfInBounds_toArray, List.set_cons_zero, List.set_cons_succ]
              refine wpAnyH_take (i := 51) (oi := { dst := some 200, op := Op.load 32 (Operand.tmp 3), type := 32, pos := "laws.go:452", after := #[{ on := 48, ground := Ground.guard }], guard := some (48, true) }) (v := ?_) rfl (by kernel_rfl) (by kernel_rfl) (by kernel_rfl) (fun _ _ _ h => h) (Or.inl ⟨by rfl, ?_⟩) hHeld ?_
              rotate_left
              · (intro w9 hSw; (try dsimp only at hSw); go_simp; try with_reducible rfl)
              try simp only [Act.put, List.setIfInBounds_toArray, List.set_cons_zero, List.set_cons_succ]
              refine wpAnyH_take (i := 52) (oi := { dst := some 201, op := Op.move (Operand.tmp 4), type := 2, pos := "laws.go:452", after := #[{ on := 48, ground := Ground.guard }], guard := some (48, true) }) (v := ?_) rfl (by kernel_rfl) (by kernel_rfl) (by kernel_rfl) (fun _ _ _ h => h) (Or.inl ⟨by rfl, ?_⟩) hHeld ?_
              rotate_left
              · (intro w9 hSw; (try dsimp only at hSw); go_simp; try with_reducible rfl)
              try simp only [Act.put, List.setIfInBounds_toArray, List.set_cons_zero, List.set_cons_succ]
              refine wpAnyH_ready (rs := [53]) (by kernel_rfl) (by simp) ?_
              refine AllReadyH.cons (o := { dst := some 202, op := Op.call { callee := Callee.value (Operand.func 10), args := #[Operand.tmp 200, Operand.tmp 201], argTypes := #[32, 2] }, type := 36, pos := "laws.go:452", after := #[{ on := 51, ground := Ground.data }, { on := 52, ground := Ground.data }, { on := 48, ground := Ground.chain }, { on := 48, ground := Ground.guard }], guard := some (48, true) }) rfl (fun K hK => ?_) AllReadyH.nil
              go_simp
              go_at_call 10; with_reducible refine (cSL _ Bc).mono ?_; rintro e wn ⟨q2, rfl, O9, kn⟩; have Bc := Bc.trans (kn.mono Bc.size); obtain ⟨a0, a1, a2, a3, a4, a5, a6, c0, c1, c2, c3, c4, c5, c6, c7, h0, h1, y0, z0, z1, z2, al, cl, hl5, bl1, bl2⟩ := keep2 _ Bc
              try go_wp2_with fail
              clear hHeld
              refine hK.out _ _ ?_ (fun hHeld => ?_)
              · (first | exact (by obtain ⟨a0, a1, a2, a3, a4, a5, a6, c0, c1, c2, c3, c4, c5, c6, c7, h0, h1, y0, z0, z1, z2, _, _, _, _, _⟩ := keep2 _ Bc; exact ⟨a0, a1, a2, a3, a4, a5, a6, c0, c1, c2, c3, c4, c5, c6, c7, h0, h1, y0, z0, z1, z2⟩) | go_keep)
              clear hK K
              try simp only [Act.put, List.setIfInBounds_toArray, List.set_cons_zero, List.set_cons_succ]
              refine wpAnyH_take (i := 54) (oi := { dst := some 203, op := Op.field 36 (Operand.tmp 202) 1, type := 32, pos := "laws.go:452", after := #[{ on := 53, ground := Ground.data }, { on := 48, ground := Ground.guard }], guard := some (48, true) }) (v := ?_) rfl (by kernel_rfl) (by kernel_rfl) (by kernel_rfl) (fun _ _ _ h => h) (Or.inl ⟨by rfl, ?_⟩) hHeld ?_
              rotate_left
              · (intro w9 hSw; (try dsimp only at hSw); go_simp; try with_reducible rfl)
              try simp only [Act.put, List.setIfInBounds_toArray, List.set_cons_zero, List.set_cons_succ]
              refine wpAnyH_ready (rs := [55]) (by kernel_rfl) (by simp) ?_
              refine AllReadyH.cons (o := { dst := some 204, op := Op.call { callee := Callee.value (Operand.func 14), args := #[Operand.tmp 199, Operand.tmp 203], argTypes := #[32, 32] }, type := 4, pos := "laws.go:452", after := #[{ on := 50, ground := Ground.data }, { on := 54, ground := Ground.data }, { on := 53, ground := Ground.chain }, { on := 48, ground := Ground.guard }], guard := some (48, true) }) rfl (fun K hK => ?_) AllReadyH.nil
              go_simp
              go_at_call 14; with_reducible refine (cSame _ _ Bc O9.in.arg).mono ?_; rintro e wn ⟨rfl, kn⟩; have Bc := Bc.trans (kn.mono Bc.size); obtain ⟨a0, a1, a2, a3, a4, a5, a6, c0, c1, c2, c3, c4, c5, c6, c7, h0, h1, y0, z0, z1, z2, al, cl, hl5, bl1, bl2⟩ := keep2 _ Bc
              try go_wp2_with fail
              clear hHeld
              refine hK.out _ _ ?_ (fun hHeld => ?_)
              · (first | exact (by obtain ⟨a0, a1, a2, a3, a4, a5, a6, c0, c1, c2, c3, c4, c5, c6, c7, h0, h1, y0, z0, z1, z2, _, _, _, _, _⟩ := keep2 _ Bc; exact ⟨a0, a1, a2, a3, a4, a5, a6, c0, c1, c2, c3, c4, c5, c6, c7, h0, h1, y0, z0, z1, z2⟩) | go_keep)
              clear hK K
              try simp only [Act.put, List.setIfInBounds_toArray, List.set_cons_zero, List.set_cons_succ]
              refine wpAnyH_take (i := 56) (oi := { dst := some 205, op := Op.pick (Operand.tmp 197) (Operand.tmp 204) (Operand.const (Value.bool false)), type := 4, pos := "laws.go:452", after := #[{ on := 48, ground := Ground.data }, { on := 55, ground := Ground.data }], guard := none }) (v := ?_) rfl (by kernel_rfl) (by kernel_rfl) (by kernel_rfl) (fun _ _ _ h => h) (Or.inl ⟨by rfl, ?_⟩) hHeld ?_
              rotate_left
              · (intro w9 hSw; (try dsimp only at hSw); go_simp; try with_reducible rfl)
              try simp only [Act.put, List.setIfInBounds_toArray, List.set_cons_zero, List.set_cons_succ]
              refine wpAnyH_take (i := 57) (oi := { dst := some 2, op := Op.assign (Operand.tmp 205), type := 4, pos := "laws.go:452", after := #[{ on := 56, ground := Ground.data }, { on := 55, ground := Ground.chain }, { on := 0, ground := Ground.phase }, { on := 1, ground := Ground.phase }, { on := 2, ground := Ground.phase }, { on := 3, ground := Ground.phase }, { on := 4, ground := Ground.phase }, { on := 5, ground := Ground.phase }, { on := 6, ground := Ground.phase }, { on := 7, ground := Ground.phase }, { on := 8, ground := Ground.phase }, { on := 9, ground := Ground.phase }, { on := 10, ground := Ground.phase }, { on := 11, ground := Ground.phase }, { on := 12, ground := Ground.phase }, { on := 13, ground := Ground.phase }, { on := 14, ground := Ground.phase }, { on := 15, ground := Ground.phase }, { on := 16, ground := Ground.phase }, { on := 17, ground := Ground.phase }, { on := 18, ground := Ground.phase }, { on := 19, ground := Ground.phase }, { on := 20, ground := Ground.phase }, { on := 21, ground := Ground.phase }, { on := 22, ground := Ground.phase }, { on := 23, ground := Ground.phase }, { on := 24, ground := Ground.phase }, { on := 25, ground := Ground.phase }, { on := 26, ground := Ground.phase }, { on := 27, ground := Ground.phase }, { on := 28, ground := Ground.phase }, { on := 29, ground := Ground.phase }, { on := 30, ground := Ground.phase }, { on := 31, ground := Ground.phase }, { on := 32, ground := Ground.phase }, { on := 33, ground := Ground.phase }, { on := 34, ground := Ground.phase }, { on := 35, ground := Ground.phase }, { on := 36, ground := Ground.phase }, { on := 37, ground := Ground.phase }, { on := 38, ground := Ground.phase }, { on := 39, ground := Ground.phase }, { on := 40, ground := Ground.phase }, { on := 41, ground := Ground.phase }, { on := 42, ground := Ground.phase }, { on := 43, ground := Ground.phase }, { on := 44, ground := Ground.phase }, { on := 45, ground := Ground.phase }, { on := 46, ground := Ground.phase }, { on := 47, ground := Ground.phase }, { on := 48, ground := Ground.phase }, { on := 49, ground := Ground.phase }, { on := 50, ground := Ground.phase }, { on := 51, ground := Ground.phase }, { on := 52, ground := Ground.phase }, { on := 53, ground := Ground.phase }, { on := 54, ground := Ground.phase }, { on := 55, ground := Ground.phase }, { on := 56, ground := Ground.phase }], guard := none }) (v := ?_) rfl (by kernel_rfl) (by kernel_rfl) (by kernel_rfl) (fun _ _ _ h => h) (Or.inl ⟨by rfl, ?_⟩) hHeld ?_
              rotate_left
              · (intro w9 hSw; (try dsimp only at hSw); go_simp; try with_reducible rfl)
              try simp only [Act.put, List.setIfInBounds_toArray, List.set_cons_zero, List.set_cons_succ]
              refine wpAnyH_done (by kernel_rfl) ?_ _
              go_wp2_with fail
              go_ret
              exact ⟨rfl, HB6.out.trans (Bc.mono HB6.out.size)⟩
          · have nn : ((k : Int) == 0) = false := by simpa using h0
            have hMS : M - S ≤ 1 := by rcases Hm.out with ⟨h, _⟩ | h <;> omega
            have hwM : IntKind.i64.wrap (M - S) = M - S := by
              rcases Hm.out with ⟨h, _⟩ | h
              · omega
              · rw [IntKind.wrap_i64]; omega
            have nXi' : ((nX i : Int) == 0) = true := by rw [nXi]; rfl
            clear Hm nXi
            go_upto_region 22 with fail
            go_quiet (fail)
            have Bc := Bc.trans ((below_drewN _ nq).mono Bc.size)
            obtain ⟨W9, HW9⟩ : ∃ W9, Hid (W9 = wr.drewN nq) := ⟨_, rfl⟩
            rw [← HW9.out] at Bc ⊢
            clear a0 a1 a2 a3 a4 a5 a6 c0 c1 c2 c3 c4 c5 c6 c7 h0 h1 y0 z0 z1 z2 al cl hl5 bl1 bl2
            obtain ⟨a0, a1, a2, a3, a4, a5, a6, c0, c1, c2, c3, c4, c5, c6, c7, h0, h1, y0, z0, z1, z2, al, cl, hl5, bl1, bl2⟩ := keep2 _ Bc
            as_aux_lemma =>
              go_upto_region 24 with fail
              have Bc := Bc.trans ((Below.refl _ _).drew.mono Bc.size)
              go_region_held3 (fun w' => w'.cell? ⟨w1.heap.size, 0, none⟩ = some (.int .i64 x.t) ∧ w'.cell? ⟨w1.heap.size, 1, none⟩ = some (.int .i64 x.s) ∧ w'.cell? ⟨w1.heap.size, 2, none⟩ = some (.slice pu x.us.length puc) ∧ w'.cell? ⟨w1.heap.size, 3, none⟩ = some (.slice pf x.fs.length pfc) ∧ w'.cell? ⟨w1.heap.size, 4, none⟩ = some (.slice (some ⟨bx, ox, none⟩) x.fa.length pac) ∧ w'.cell? ⟨w1.heap.size, 5, none⟩ = some (.slice ps x.se.length psc) ∧ w'.cell? ⟨w1.heap.size, 6, none⟩ = some (.slice po x.oo.length poc) ∧ w'.cell? ⟨w3.heap.size, 0, none⟩ = some (.int .i64 0) ∧ w'.cell? ⟨w3.heap.size, 1, none⟩ = some (.int .i64 X.t) ∧ w'.cell? ⟨w3.heap.size, 2, none⟩ = some (.int .i64 X.s) ∧ w'.cell? ⟨w3.heap.size, 3, none⟩ = some (.slice qu X.us.length quc) ∧ w'.cell? ⟨w3.heap.size, 4, none⟩ = some (.slice qf X.fs.length qfc) ∧ w'.cell? ⟨w3.heap.size, 5, none⟩ = some (.slice (some ⟨bX, oX, none⟩) X.fa.length qac) ∧ w'.cell? ⟨w3.heap.size, 6, none⟩ = some (.slice qs X.se.length qsc) ∧ w'.cell? ⟨w3.heap.size, 7, none⟩ = some (.slice qo X.oo.length qoc) ∧ w'.cell? ⟨w5.heap.size, 0, none⟩ = some (.int .i64 hC) ∧ w'.cell? ⟨w5.heap.size, 1, none⟩ = some (.slice hq k hc) ∧ w'.cell? ⟨bx, ox + i.toNat * 3, none⟩ = some (.int .i64 y.c0) ∧ w'.cell? ⟨bX, oX + i.toNat * 3, none⟩ = some (.int .i64 0) ∧ w'.cell? ⟨bX, oX + i.toNat * 3 + 1, none⟩ = some (.bool true) ∧ w'.cell? ⟨bX, oX + i.toNat * 3 + 2, none⟩ = some (.int .i64 0)) (first | exact (by obtain ⟨a0, a1, a2, a3, a4, a5, a6, c0, c1, c2, c3, c4, c5, c6, c7, h0, h1, y0, z0, z1, z2, _, _, _, _, _⟩ := keep2 _ Bc; exact ⟨a0, a1, a2, a3, a4, a5, a6, c0, c1, c2, c3, c4, c5, c6, c7, h0, h1, y0, z0, z1, z2⟩) | go_keep) (first
                  | (go_at_call 13; with_reducible refine (cTX _ Bc).mono ?_; rintro e wn ⟨rfl, kn⟩; have Bc := Bc.trans (kn.mono Bc.size); obtain ⟨a0, a1, a2, a3, a4, a5, a6, c0, c1, c2, c3, c4, c5, c6, c7, h0, h1, y0, z0, z1, z2, al, cl, hl5, bl1, bl2⟩ := keep2 _ Bc)
                  | (go_at_call 13; with_reducible refine (cTx _ Bc).mono ?_; rintro e wn ⟨rfl, kn⟩; have Bc := Bc.trans (kn.mono Bc.size); obtain ⟨a0, a1, a2, a3, a4, a5, a6, c0, c1, c2, c3, c4, c5, c6, c7, h0, h1, y0, z0, z1, z2, al, cl, hl5, bl1, bl2⟩ := keep2 _ Bc)
                  | (go_at_call 12; with_reducible refine (cOX _ _ Bc).mono ?_; rintro e wn ⟨v, rfl, Sv, kn⟩; obtain ⟨pv, cv, rfl⟩ := Sv.form; rw [HnX.out]; have Bc := Bc.trans (kn.mono Bc.size); obtain ⟨a0, a1, a2, a3, a4, a5, a6, c0, c1, c2, c3, c4, c5, c6, c7, h0, h1, y0, z0, z1, z2, al, cl, hl5, bl1, bl2⟩ := keep2 _ Bc)
                  | (go_at_call 6; with_reducible refine (cLX _ Bc).mono ?_; rintro e wn ⟨q8, rfl, O8, kn⟩; have Bc := Bc.trans (kn.mono Bc.size); obtain ⟨a0, a1, a2, a3, a4, a5, a6, c0, c1, c2, c3, c4, c5, c6, c7, h0, h1, y0, z0, z1, z2, al, cl, hl5, bl1, bl2⟩ := keep2 _ Bc)
                  | (go_at_call 10; with_reducible refine (cSL _ Bc).mono ?_; rintro e wn ⟨q2, rfl, O9, kn⟩; have Bc := Bc.trans (kn.mono Bc.size); obtain ⟨a0, a1, a2, a3, a4, a5, a6, c0, c1, c2, c3, c4, c5, c6, c7, h0, h1, y0, z0, z1, z2, al, cl, hl5, bl1, bl2⟩ := keep2 _ Bc)
                  | (go_at_call 14; with_reducible refine (cSame _ _ Bc O9.in.arg).mono ?_; rintro e wn ⟨rfl, kn⟩; have Bc := Bc.trans (kn.mono Bc.size); obtain ⟨a0, a1, a2, a3, a4, a5, a6, c0, c1, c2, c3, c4, c5, c6, c7, h0, h1, y0, z0, z1, z2, al, cl, hl5, bl1, bl2⟩ := keep2 _ Bc))
              all_goals
                go_wp2_with fail
                go_ret
                exact ⟨rfl, HB6.out.trans (Bc.mono HB6.out.size)⟩
  · go_enter Tryz.func3, Tryz.ntmps3
    go_wp2_with fail
    refine (lwBig_yes _ a len cap (by omega)).mono ?_
    rintro e w' ⟨rfl, rfl⟩
    go_wp2
    go_ret
    exact ⟨rfl, Below.refl _ _⟩
end Go.Proofs.YtlfnnobkgbfdgaaGreat
end
