/- Texts of mine put together (a claim holds at most 60 files): LawPacts. -/
import Derived.Test.YtmfdggaijbcijaaGreatPartR00
import Derived.Test.YtmfdggaijbcijaaGreatPartQ28
import Derived.Test.YtmfdggaijbcijaaGreatPartQ39
import Derived.Test.YtmfdggaijbcijaaGreatPartQ35
import Derived.Test.YtmfdggaijbcijaaGreatPartR01
import Derived.Test.YtmfdggaijbcijaaGreatPartQ42
import Derived.Test.YtmfdggaijbcijaaGreatPartQ45
import Derived.Test.YtmfdggaijbcijaaGreatPartQ46
import Derived.Test.YtmfdggaijbcijaaGreatPartQ00
import Derived.Deep.RegionHeld3

/- LawPacts -/
/- The walk of the law FnPacts. No condition. -/
section
namespace Go.Proofs.YtmfdggaijbcijaaGreat
open Go.ChangeShapes Go.WideShapes Go.ChangeAt Go.RowKit
open Bd
set_option linter.unusedVariables false

set_option maxRecDepth 20000 in
set_option maxHeartbeats 16000000 in
theorem pacts_walk (a : Option Addr) (len cap : Nat) (W : World) (hb : Bytes W a len W.heap.size) :
    Calls Tryz.prog 3 #[.slice a len cap] W fun e w' => e = .returned (.bool true) ∧ Below W.heap.size W w' := by
  by_cases hl : len ≤ 1048576
  · have cB0 := fun w => lwBig_no w a len cap hl
    have g0 : ∀ (v0 v1 v2 v3 v4 v5 v6 v7 : Value) (w : World), (Instr.field 36 (.agg #[v0, v1, v2, v3, v4, v5, v6, v7]) 0).run Tryz.prog w = .ok v0 w := fun _ _ _ _ _ _ _ _ _ => by kernel_rfl
    have g1 : ∀ (v0 v1 v2 v3 v4 v5 v6 v7 : Value) (w : World), (Instr.field 36 (.agg #[v0, v1, v2, v3, v4, v5, v6, v7]) 1).run Tryz.prog w = .ok (.agg #[v1, v2, v3, v4, v5, v6, v7]) w := fun _ _ _ _ _ _ _ _ _ => by kernel_rfl
    have HB : Hid (Bytes W a len W.heap.size) := hb
    have L0 : Below W.heap.size W W := Below.refl _ _
    go_enter Tryz.func3, Tryz.ntmps3
    go_wp2_with (go_at_call 5; refine (cB0 _).mono ?_; rintro e w1 ⟨rfl, hw1⟩; obtain rfl := hw1.symm)
    clear cB0 hb
    refine (drawAcceptPact_c W a len cap (HB.out.later L0) hl).mono ?_
    rintro e w1 ⟨p, x, i, j, rfl, O1, dw, k1⟩
    obtain ⟨W2, HW2⟩ : ∃ W2, Hid (W2 = w1.alloc (.cells (p.v x) 32)) := ⟨_, rfl⟩
    have k2 : Below w1.heap.size w1 W2 := by rw [HW2.out]; exact (Below.refl _ _).alloc (Nat.le_refl _) _
    have X2 : Hid (Blk W2 w1.heap.size (p.v x) 32) := by show Blk _ _ _ _; rw [HW2.out]; exact Blk.new w1 _ _
    have J2 : Below W.heap.size W W2 := k1.trans (k2.mono k1.size)
    have L2 : Below W.heap.size W W2 := L0.trans (J2.mono L0.size)
    have HO2 : Hid (OwW W2 W.heap.size p x) := O1.later k2
    have Hd2 : Hid (DW x) := dw
    clear O1 k1 k2 dw
    go_upto_region 4 with fail
    rw [← HW2.out]
    clear HW2
    obtain ⟨s0, s1, s2, s3, s4, s5, s6, sl⟩ := X2.out.c7
    go_wp2_with fail
    clear s0 s1 s2 s3 s4 s5 s6 sl
    have cI := implAcceptPact p x W2 HO2.out.in i j
    obtain ⟨C, HC⟩ : ∃ C, Hid (C = accC hasI x i j) := ⟨_, rfl⟩
    obtain ⟨X, HX⟩ : ∃ X, Hid (X = accX hasI x i j) := ⟨_, rfl⟩
    have eC : accC hasS x i j = accC hasI x i j := (Hd2.out.accC i j).symm
    have eX : accX hasS x i j = accX hasI x i j := (Hd2.out.accX i j).symm
    have HS : Hid (∀ W' (h : Below W2.heap.size W2 W'), Calls Tryz.prog 15 #[.agg (p.v x), .int .i64 i, .int .i64 j] W' fun e w' => ∃ q, e = .returned (.agg (r8 C q X)) ∧ OwW w' W'.heap.size q X ∧ Below W'.heap.size W' w') := by
      intro W' h
      rw [HC.out, HX.out, ← eC, ← eX]
      exact specAcceptPact p x W' (HO2.out.later h).in i j
    have Hg : Hid (C = 0 → wf hasI X = 0 ∧ areA hasI X i j = true ∧ areA hasI X j i = true ∧ areA hasI x i j = false) := fun e => by
      have g := acc_law (HC.out.symm.trans e)
      rw [HX.out]
      exact ⟨g.wf0, g.ab, g.ba, g.no⟩
    rw [← HC.out, ← HX.out] at cI
    clear eC eX HC HX
    refine cI.mono ?_
    rintro e w3 ⟨q, rfl, O3, k3⟩
    obtain ⟨W4, HW4⟩ : ∃ W4, Hid (W4 = w3.alloc (.cells (r8 C q X) 36)) := ⟨_, rfl⟩
    have k4 : Below w3.heap.size w3 W4 := by rw [HW4.out]; exact (Below.refl _ _).alloc (Nat.le_refl _) _
    have X4 : Hid (Blk W4 w3.heap.size (r8 C q X) 36) := by show Blk _ _ _ _; rw [HW4.out]; exact Blk.new w3 _ _
    have J4 : Below W2.heap.size W2 W4 := k3.trans (k4.mono k3.size)
    have L4 : Below W.heap.size W W4 := L2.trans (J4.mono L2.size)
    have HO4 : Hid (OwW W4 W2.heap.size q X) := O3.later k4
    clear O3 k3 k4
    go_upto_region 5 with fail
    rw [← HW4.out]
    clear HW4
    clear cI
    go_wp2_with fail
    refine (drawBreakPact_c W4 a len cap (HB.out.later L4) hl).mono ?_
    rintro e w5 ⟨p2, y, k, l, rfl, O5, dw, k5⟩
    obtain ⟨W6, HW6⟩ : ∃ W6, Hid (W6 = w5.alloc (.cells (p2.v y) 32)) := ⟨_, rfl⟩
    have k6 : Below w5.heap.size w5 W6 := by rw [HW6.out]; exact (Below.refl _ _).alloc (Nat.le_refl _) _
    have X6 : Hid (Blk W6 w5.heap.size (p2.v y) 32) := by show Blk _ _ _ _; rw [HW6.out]; exact Blk.new w5 _ _
    have J6 : Below W4.heap.size W4 W6 := k5.trans (k6.mono k5.size)
    have L6 : Below W.heap.size W W6 := L4.trans (J6.mono L4.size)
    have HO6 : Hid (OwW W6 W4.heap.size p2 y) := O5.later k6
    have Hd6 : Hid (DW y) := dw
    clear O5 k5 k6 dw
    go_upto_region 6 with fail
    rw [← HW6.out]
    clear HW6
    obtain ⟨s0, s1, s2, s3, s4, s5, s6, sl⟩ := X6.out.c7
    go_wp2_with fail
    clear s0 s1 s2 s3 s4 s5 s6 sl
    have cI := implBreakPact p2 y W6 HO6.out.in k l
    obtain ⟨D, HD⟩ : ∃ D, Hid (D = brkC hasI y k l) := ⟨_, rfl⟩
    obtain ⟨Y, HY⟩ : ∃ Y, Hid (Y = brkX hasI y k l) := ⟨_, rfl⟩
    have eD : brkC hasS y k l = brkC hasI y k l := (Hd6.out.brkC k l).symm
    have HSb : Hid (∀ W' (h : Below W6.heap.size W6 W'), Calls Tryz.prog 13 #[.agg (p2.v y), .int .i64 k, .int .i64 l] W' fun e w' => ∃ q, e = .returned (.agg (r8 D q (brkX hasS y k l))) ∧ (D ≠ 0 → q = wpz) ∧ OwW w' W'.heap.size q (brkX hasS y k l) ∧ Below W'.heap.size W' w') := by
      intro W' h
      rw [HD.out, ← eD]
      exact specBreakPact p2 y W' (HO6.out.later h).in k l
    have Hgb : Hid (D = 0 → wf hasI Y = 0 ∧ areA hasI Y k l = false ∧ areA hasI Y l k = false ∧ areA hasI y k l = true) := fun e => by
      have g := brk_law (HD.out.symm.trans e)
      rw [HY.out]
      exact ⟨g.wf0, g.ab, g.ba, g.yes⟩
    rw [← HD.out, ← HY.out] at cI
    clear eD HD HY
    refine cI.mono ?_
    rintro e w7 ⟨q2, rfl, O7, k7⟩
    obtain ⟨W8, HW8⟩ : ∃ W8, Hid (W8 = w7.alloc (.cells (r8 D q2 Y) 36)) := ⟨_, rfl⟩
    have k8 : Below w7.heap.size w7 W8 := by rw [HW8.out]; exact (Below.refl _ _).alloc (Nat.le_refl _) _
    have X8 : Hid (Blk W8 w7.heap.size (r8 D q2 Y) 36) := by show Blk _ _ _ _; rw [HW8.out]; exact Blk.new w7 _ _
    have J8 : Below W6.heap.size W6 W8 := k7.trans (k8.mono k7.size)
    have L8 : Below W.heap.size W W8 := L6.trans (J8.mono L6.size)
    have HO8 : Hid (OwW W8 W6.heap.size q2 Y) := O7.later k8
    clear O7 k7 k8
    go_upto_region 7 with fail
    rw [← HW8.out]
    clear HW8
    clear cI
    go_wp2_with fail
    refine (drawAreAllies_c W8 a len cap (HB.out.later L8) hl).mono ?_
    rintro e w9 ⟨p3, z, m, n, rfl, O9, dw, k9⟩
    obtain ⟨W10, HW10⟩ : ∃ W10, Hid (W10 = w9.alloc (.cells (p3.v z) 32)) := ⟨_, rfl⟩
    have k10 : Below w9.heap.size w9 W10 := by rw [HW10.out]; exact (Below.refl _ _).alloc (Nat.le_refl _) _
    have X10 : Hid (Blk W10 w9.heap.size (p3.v z) 32) := by show Blk _ _ _ _; rw [HW10.out]; exact Blk.new w9 _ _
    have J10 : Below W8.heap.size W8 W10 := k9.trans (k10.mono k9.size)
    have L10 : Below W.heap.size W W10 := L8.trans (J10.mono L8.size)
    have HO10 : Hid (OwW W10 W8.heap.size p3 z) := O9.later k10
    have Hd10 : Hid (DW z) := dw
    clear O9 k9 k10 dw
    go_upto_region 8 with fail
    rw [← HW10.out]
    clear HW10
    obtain ⟨s0, s1, s2, s3, s4, s5, s6, sl⟩ := X10.out.c7
    clear s0 s1 s2 s3 s4 s5 s6 sl
    have M6 : Below W6.heap.size W6 W10 := J8.trans (J10.mono J8.size)
    have M4 : Below W4.heap.size W4 W10 := J6.trans (M6.mono J6.size)
    have M2 : Below W2.heap.size W2 W10 := J4.trans (M4.mono J4.size)
    obtain ⟨AR, HAR⟩ : ∃ v, Hid (v = areA hasI z m n) := ⟨_, rfl⟩
    have cZ1 := fun W' (h : Below W10.heap.size W10 W') => implAreAllies p3 z HO10.out.in.o1 HO10.out.in.o2 W' (HO10.out.later h).in.arg m n
    have cZ2 := fun W' (h : Below W10.heap.size W10 W') => implAreAllies p3 z HO10.out.in.o1 HO10.out.in.o2 W' (HO10.out.later h).in.arg n m
    have cZ3 := fun W' (h : Below W10.heap.size W10 W') => specAreAllies p3 z HO10.out.in.o1 HO10.out.in.o2 W' (HO10.out.later h).in.arg m n
    rw [← areA_same] at cZ3
    rw [areA_sym] at cZ2
    rw [← HAR.out] at cZ1 cZ2 cZ3
    have nAR : (AR != AR) = false := by simp
    have cB := fun W' (h : Below W10.heap.size W10 W') => HSb.out W' (M6.trans (h.mono M6.size))
    have nD : (D != D) = false := by simp
    have cyy := fun W' (h : Below W10.heap.size W10 W') => implAreAllies p2 y HO6.out.in.o1 HO6.out.in.o2 W' (HO6.out.later (M6.trans (h.mono M6.size))).in.arg k l
    have cYf := fun W' (h : Below W10.heap.size W10 W') => implWorldFault q2 Y HO8.out.in.o1 HO8.out.in.o2 W' (HO8.out.later (J10.trans (h.mono J10.size))).in.arg
    have cYa := fun W' (h : Below W10.heap.size W10 W') => implAreAllies q2 Y HO8.out.in.o1 HO8.out.in.o2 W' (HO8.out.later (J10.trans (h.mono J10.size))).in.arg k l
    have cYb := fun W' (h : Below W10.heap.size W10 W') => implAreAllies q2 Y HO8.out.in.o1 HO8.out.in.o2 W' (HO8.out.later (J10.trans (h.mono J10.size))).in.arg l k
    have fin : ∃ _ : Unit, True := ⟨(), trivial⟩
    cases eD : D == 0
    · have Dn : D ≠ 0 := by simpa using eD
      clear cyy cYf cYa cYb Hgb Dn
      have keep8 : ∀ w', Below W10.heap.size W10 w' → w'.cell? ⟨w9.heap.size, 0, none⟩ = some (.int .i64 z.t) ∧ w'.cell? ⟨w9.heap.size, 1, none⟩ = some (.int .i64 z.s) ∧ w'.cell? ⟨w9.heap.size, 2, none⟩ = some (.slice p3.u z.us.length p3.uc) ∧ w'.cell? ⟨w9.heap.size, 3, none⟩ = some (.slice p3.f z.fs.length p3.fc) ∧ w'.cell? ⟨w9.heap.size, 4, none⟩ = some (.slice p3.a z.fa.length p3.ac) ∧ w'.cell? ⟨w9.heap.size, 5, none⟩ = some (.slice p3.s z.se.length p3.sc) ∧ w'.cell? ⟨w9.heap.size, 6, none⟩ = some (.slice p3.o z.oo.length p3.oc) ∧ w'.cell? ⟨w7.heap.size, 0, none⟩ = some (.int .i64 D) ∧ w'.cell? ⟨w7.heap.size, 1, none⟩ = some (.int .i64 Y.t) ∧ w'.cell? ⟨w7.heap.size, 2, none⟩ = some (.int .i64 Y.s) ∧ w'.cell? ⟨w7.heap.size, 3, none⟩ = some (.slice q2.u Y.us.length q2.uc) ∧ w'.cell? ⟨w7.heap.size, 4, none⟩ = some (.slice q2.f Y.fs.length q2.fc) ∧ w'.cell? ⟨w7.heap.size, 5, none⟩ = some (.slice q2.a Y.fa.length q2.ac) ∧ w'.cell? ⟨w7.heap.size, 6, none⟩ = some (.slice q2.s Y.se.length q2.sc) ∧ w'.cell? ⟨w7.heap.size, 7, none⟩ = some (.slice q2.o Y.oo.length q2.oc) ∧ w'.cell? ⟨w5.heap.size, 0, none⟩ = some (.int .i64 y.t) ∧ w'.cell? ⟨w5.heap.size, 1, none⟩ = some (.int .i64 y.s) ∧ w'.cell? ⟨w5.heap.size, 2, none⟩ = some (.slice p2.u y.us.length p2.uc) ∧ w'.cell? ⟨w5.heap.size, 3, none⟩ = some (.slice p2.f y.fs.length p2.fc) ∧ w'.cell? ⟨w5.heap.size, 4, none⟩ = some (.slice p2.a y.fa.length p2.ac) ∧ w'.cell? ⟨w5.heap.size, 5, none⟩ = some (.slice p2.s y.se.length p2.sc) ∧ w'.cell? ⟨w5.heap.size, 6, none⟩ = some (.slice p2.o y.oo.length p2.oc) ∧ w1.heap.size < w'.heap.size ∧ w3.heap.size < w'.heap.size ∧ w5.heap.size < w'.heap.size ∧ w7.heap.size < w'.heap.size ∧ w9.heap.size < w'.heap.size := fun w' h => by
        have P7 := X8.out.below (J10.trans (h.mono J10.size))
        obtain ⟨z0, z1, z2, z3, z4, z5, z6, l5⟩ := (X10.out.below h).c7
        obtain ⟨y0, y1, y2, y3, y4, y5, y6, l3⟩ := (X6.out.below (M6.trans (h.mono M6.size))).c7
        exact ⟨z0, z1, z2, z3, z4, z5, z6, P7.cell rfl, P7.cell rfl, P7.cell rfl, P7.cell rfl, P7.cell rfl, P7.cell rfl, P7.cell rfl, P7.cell rfl, y0, y1, y2, y3, y4, y5, y6, (X2.out.below (M2.trans (h.mono M2.size))).lt, (X4.out.below (M4.trans (h.mono M4.size))).lt, l3, P7.lt, l5⟩
      have Bc : Below W10.heap.size W10 W10.drew := (Below.refl _ _).drew
      obtain ⟨z0, z1, z2, z3, z4, z5, z6, k0, k1, k2, k3, k4, k5, k6, k7, y0, y1, y2, y3, y4, y5, y6, lt0, lt1, lt2, lt3, lt4⟩ := keep8 _ (Below.refl _ _)
      refine wp_region_held_drew (S := (fun w' => w'.cell? ⟨w9.heap.size, 0, none⟩ = some (.int .i64 z.t) ∧ w'.cell? ⟨w9.heap.size, 1, none⟩ = some (.int .i64 z.s) ∧ w'.cell? ⟨w9.heap.size, 2, none⟩ = some (.slice p3.u z.us.length p3.uc) ∧ w'.cell? ⟨w9.heap.size, 3, none⟩ = some (.slice p3.f z.fs.length p3.fc) ∧ w'.cell? ⟨w9.heap.size, 4, none⟩ = some (.slice p3.a z.fa.length p3.ac) ∧ w'.cell? ⟨w9.heap.size, 5, none⟩ = some (.slice p3.s z.se.length p3.sc) ∧ w'.cell? ⟨w9.heap.size, 6, none⟩ = some (.slice p3.o z.oo.length p3.oc) ∧ w'.cell? ⟨w7.heap.size, 0, none⟩ = some (.int .i64 D) ∧ w'.cell? ⟨w7.heap.size, 1, none⟩ = some (.int .i64 Y.t) ∧ w'.cell? ⟨w7.heap.size, 2, none⟩ = some (.int .i64 Y.s) ∧ w'.cell? ⟨w7.heap.size, 3, none⟩ = some (.slice q2.u Y.us.length q2.uc) ∧ w'.cell? ⟨w7.heap.size, 4, none⟩ = some (.slice q2.f Y.fs.length q2.fc) ∧ w'.cell? ⟨w7.heap.size, 5, none⟩ = some (.slice q2.a Y.fa.length q2.ac) ∧ w'.cell? ⟨w7.heap.size, 6, none⟩ = some (.slice q2.s Y.se.length q2.sc) ∧ w'.cell? ⟨w7.heap.size, 7, none⟩ = some (.slice q2.o Y.oo.length q2.oc) ∧ w'.cell? ⟨w5.heap.size, 0, none⟩ = some (.int .i64 y.t) ∧ w'.cell? ⟨w5.heap.size, 1, none⟩ = some (.int .i64 y.s) ∧ w'.cell? ⟨w5.heap.size, 2, none⟩ = some (.slice p2.u y.us.length p2.uc) ∧ w'.cell? ⟨w5.heap.size, 3, none⟩ = some (.slice p2.f y.fs.length p2.fc) ∧ w'.cell? ⟨w5.heap.size, 4, none⟩ = some (.slice p2.a y.fa.length p2.ac) ∧ w'.cell? ⟨w5.heap.size, 5, none⟩ = some (.slice p2.s y.se.length p2.sc) ∧ w'.cell? ⟨w5.heap.size, 6, none⟩ = some (.slice p2.o y.oo.length p2.oc))) (by kernel_rfl) ?_ (fun hHeld => ?_)
      · (first | exact (by obtain ⟨z0, z1, z2, z3, z4, z5, z6, k0, k1, k2, k3, k4, k5, k6, k7, y0, y1, y2, y3, y4, y5, y6, _, _, _, _, _⟩ := keep8 _ Bc; exact ⟨z0, z1, z2, z3, z4, z5, z6, k0, k1, k2, k3, k4, k5, k6, k7, y0, y1, y2, y3, y4, y5, y6⟩) | go_keep)
      refine wpAnyH_take (i := 0) (oi := { dst := some 42, op := Op.load 32 (Operand.tmp 11), type := 32, pos := "laws.go:347", after := #[], guard := none }) (v := ?_) rfl (by kernel_rfl) (by kernel_rfl) (by kernel_rfl) (fun _ _ _ h => h) (Or.inl ⟨by rfl, ?_⟩) hHeld ?_
      rotate_left
      · (intro w9 hSw; (try dsimp only at hSw); go_simp; try with_reducible rfl)
      try simp only [Act.put, List.setIfInBounds_toArray, List.set_cons_zero, List.set_cons_succ]
      refine wpAnyH_take (i := 1) (oi := { dst := some 43, op := Op.move (Operand.tmp 12), type := 2, pos := "laws.go:347", after := #[], guard := none }) (v := ?_) rfl (by kernel_rfl) (by kernel_rfl) (by kernel_rfl) (fun _ _ _ h => h) (Or.inl ⟨by rfl, ?_⟩) hHeld ?_
      rotate_left
      · (intro w9 hSw; (try dsimp only at hSw); go_simp; try with_reducible rfl)
      try simp only [Act.put, List.setIfInBounds_toArray, List.set_cons_zero, List.set_cons_succ]
      refine wpAnyH_take (i := 2) (oi := { dst := some 44, op := Op.move (Operand.tmp 13), type := 2, pos := "laws.go:347", after := #[], guard := none }) (v := ?_) rfl (by kernel_rfl) (by kernel_rfl) (by kernel_rfl) (fun _ _ _ h => h) (Or.inl ⟨by rfl, ?_⟩) hHeld ?_
      rotate_left
      · (intro w9 hSw; (try dsimp only at hSw); go_simp; try with_reducible rfl)
      try simp only [Act.put, List.setIfInBounds_toArray, List.set_cons_zero, List.set_cons_succ]
      refine wpAnyH_take (i := 4) (oi := { dst := some 46, op := Op.load 32 (Operand.tmp 11), type := 32, pos := "laws.go:347", after := #[], guard := none }) (v := ?_) rfl (by kernel_rfl) (by kernel_rfl) (by kernel_rfl) (fun _ _ _ h => h) (Or.inl ⟨by rfl, ?_⟩) hHeld ?_
      rotate_left
      · (intro w9 hSw; (try dsimp only at hSw); go_simp; try with_reducible rfl)
      try simp only [Act.put, List.setIfInBounds_toArray, List.set_cons_zero, List.set_cons_succ]
      refine wpAnyH_take (i := 5) (oi := { dst := some 47, op := Op.move (Operand.tmp 12), type := 2, pos := "laws.go:347", after := #[], guard := none }) (v := ?_) rfl (by kernel_rfl) (by kernel_rfl) (by kernel_rfl) (fun _ _ _ h => h) (Or.inl ⟨by rfl, ?_⟩) hHeld ?_
      rotate_left
      · (intro w9 hSw; (try dsimp only at hSw); go_simp; try with_reducible rfl)
      try simp only [Act.put, List.setIfInBounds_toArray, List.set_cons_zero, List.set_cons_succ]
      refine wpAnyH_take (i := 6) (oi := { dst := some 48, op := Op.move (Operand.tmp 13), type := 2, pos := "laws.go:347", after := #[], guard := none }) (v := ?_) rfl (by kernel_rfl) (by kernel_rfl) (by kernel_rfl) (fun _ _ _ h => h) (Or.inl ⟨by rfl, ?_⟩) hHeld ?_
      rotate_left
      · (intro w9 hSw; (try dsimp only at hSw); go_simp; try with_reducible rfl)
      try simp only [Act.put, List.setIfInBounds_toArray, List.set_cons_zero, List.set_cons_succ]
      refine wpAnyH_ready (rs := [3]) (by kernel_rfl) (by simp) ?_
      refine AllReadyH.cons (o := { dst := some 45, op := Op.call { callee := Callee.value (Operand.func 11), args := #[Operand.tmp 42, Operand.tmp 43, Operand.tmp 44], argTypes := #[32, 2, 2] }, type := 4, pos := "laws.go:347", after := #[{ on := 0, ground := Ground.data }, { on := 1, ground := Ground.data }, { on := 2, ground := Ground.data }], guard := none }) rfl (fun K hK => ?_) AllReadyH.nil
      go_simp
      go_at_call 11; with_reducible refine (cZ1 _ Bc).mono ?_; rintro e wn ⟨rfl, kn⟩; have Bc := Bc.trans (kn.mono Bc.size); obtain ⟨z0, z1, z2, z3, z4, z5, z6, k0, k1, k2, k3, k4, k5, k6, k7, y0, y1, y2, y3, y4, y5, y6, lt0, lt1, lt2, lt3, lt4⟩ := keep8 _ Bc
      try go_wp2_with fail
      clear hHeld
      refine hK.out _ _ ?_ (fun hHeld => ?_)
      · (first | exact (by obtain ⟨z0, z1, z2, z3, z4, z5, z6, k0, k1, k2, k3, k4, k5, k6, k7, y0, y1, y2, y3, y4, y5, y6, _, _, _, _, _⟩ := keep8 _ Bc; exact ⟨z0, z1, z2, z3, z4, z5, z6, k0, k1, k2, k3, k4, k5, k6, k7, y0, y1, y2, y3, y4, y5, y6⟩) | go_keep)
      clear hK K
      try simp only [Act.put, List.setIfInBounds_toArray, List.set_cons_zero, List.set_cons_succ]
      refine wpAnyH_ready (rs := [7]) (by kernel_rfl) (by simp) ?_
      refine AllReadyH.cons (o := { dst := some 49, op := Op.call { callee := Callee.value (Operand.func 12), args := #[Operand.tmp 46, Operand.tmp 47, Operand.tmp 48], argTypes := #[32, 2, 2] }, type := 4, pos := "laws.go:347", after := #[{ on := 4, ground := Ground.data }, { on := 5, ground := Ground.data }, { on := 6, ground := Ground.data }, { on := 3, ground := Ground.chain }], guard := none }) rfl (fun K hK => ?_) AllReadyH.nil
      go_simp
      go_at_call 12; with_reducible refine (cZ3 _ Bc).mono ?_; rintro e wn ⟨rfl, kn⟩; have Bc := Bc.trans (kn.mono Bc.size); obtain ⟨z0, z1, z2, z3, z4, z5, z6, k0, k1, k2, k3, k4, k5, k6, k7, y0, y1, y2, y3, y4, y5, y6, lt0, lt1, lt2, lt3, lt4⟩ := keep8 _ Bc
      try go_wp2_with fail
      clear hHeld
      refine hK.out _ _ ?_ (fun hHeld => ?_)
      · (first | exact (by obtain ⟨z0, z1, z2, z3, z4, z5, z6, k0, k1, k2, k3, k4, k5, k6, k7, y0, y1, y2, y3, y4, y5, y6, _, _, _, _, _⟩ := keep8 _ Bc; exact ⟨z0, z1, z2, z3, z4, z5, z6, k0, k1, k2, k3, k4, k5, k6, k7, y0, y1, y2, y3, y4, y5, y6⟩) | go_keep)
      clear hK K
      try simp only [Act.put, List.setIfInBounds_toArray, List.set_cons_zero, List.set_cons_succ]
      refine wpAnyH_take (i := 8) (oi := { dst := some 50, op := Op.binOp BinOp.neq 4 (Operand.tmp 45) (Operand.tmp 49) 4, type := 4, pos := "laws.go:347", after := #[{ on := 3, ground := Ground.data }, { on := 7, ground := Ground.data }], guard := none }) (v := ?_) rfl (by kernel_rfl) (by kernel_rfl) (by kernel_rfl) (fun _ _ _ h => h) (Or.inl ⟨by rfl, ?_⟩) hHeld ?_
      rotate_left
      · (intro w9 hSw; (try dsimp only at hSw); go_simp; try with_reducible rfl)
      try simp only [Act.put, List.setIfInBounds_toArray, List.set_cons_zero, List.set_cons_succ]
      refine wpAnyH_take (i := 9) (oi := { dst := some 51, op := Op.move (Operand.tmp 50), type := 4, pos := "laws.go:347", after := #[{ on := 8, ground := Ground.data }, { on := 7, ground := Ground.chain }], guard := none }) (v := ?_) rfl (by kernel_rfl) (by kernel_rfl) (by kernel_rfl) (fun _ _ _ h => h) (Or.inl ⟨by rfl, ?_⟩) hHeld ?_
      rotate_left
      · (intro w9 hSw; (try dsimp only at hSw); go_simp; try with_reducible rfl)
      try simp only [Act.put, List.setIfInBounds_toArray, List.set_cons_zero, List.set_cons_succ]
      refine wpAnyH_take (i := 10) (oi := { dst := some 52, op := Op.load 32 (Operand.tmp 11), type := 32, pos := "laws.go:347", after := #[{ on := 9, ground := Ground.guard }], guard := some (9, false) }) (v := ?_) rfl (by kernel_rfl) (by kernel_rfl) (by kernel_rfl) (fun _ _ _ h => h) (Or.inl ⟨by rfl, ?_⟩) hHeld ?_
      rotate_left
      · (intro w9 hSw; (try dsimp only at hSw); go_simp; try with_reducible rfl)
      try simp only [Act.put, List.setIfInBounds_toArray, List.set_cons_zero, List.set_cons_succ]
      refine wpAnyH_take (i := 11) (oi := { dst := some 53, op := Op.move (Operand.tmp 12), type := 2, pos := "laws.go:347", after := #[{ on := 9, ground := Ground.guard }], guard := some (9, false) }) (v := ?_) rfl (by kernel_rfl) (by kernel_rfl) (by kernel_rfl) (fun _ _ _ h => h) (Or.inl ⟨by rfl, ?_⟩) hHeld ?_
      rotate_left
      · (intro w9 hSw; (try dsimp only at hSw); go_simp; try with_reducible rfl)
      try simp only [Act.put, List.setIfInBounds_toArray, List.set_cons_zero, List.set_cons_succ]
      refine wpAnyH_take (i := 12) (oi := { dst := some 54, op := Op.move (Operand.tmp 13), type := 2, pos := "laws.go:347", after := #[{ on := 9, ground := Ground.guard }], guard := some (9, false) }) (v := ?_) rfl (by kernel_rfl) (by kernel_rfl) (by kernel_rfl) (fun _ _ _ h => h) (Or.inl ⟨by rfl, ?_⟩) hHeld ?_
      rotate_left
      · (intro w9 hSw; (try dsimp only at hSw); go_simp; try with_reducible rfl)
      try simp only [Act.put, List.setIfInBounds_toArray, List.set_cons_zero, List.set_cons_succ]
      refine wpAnyH_take (i := 14) (oi := { dst := some 56, op := Op.load 32 (Operand.tmp 11), type := 32, pos := "laws.go:347", after := #[{ on := 9, ground := Ground.guard }], guard := some (9, false) }) (v := ?_) rfl (by kernel_rfl) (by kernel_rfl) (by kernel_rfl) (fun _ _ _ h => h) (Or.inl ⟨by rfl, ?_⟩) hHeld ?_
      rotate_left
      · (intro w9 hSw; (try dsimp only at hSw); go_simp; try with_reducible rfl)
      try simp only [Act.put, List.setIfInBounds_toArray, List.set_cons_zero, List.set_cons_succ]
      refine wpAnyH_take (i := 15) (oi := { dst := some 57, op := Op.move (Operand.tmp 13), type := 2, pos := "laws.go:347", after := #[{ on := 9, ground := Ground.guard }], guard := some (9, false) }) (v := ?_) rfl (by kernel_rfl) (by kernel_rfl) (by kernel_rfl) (fun _ _ _ h => h) (Or.inl ⟨by rfl, ?_⟩) hHeld ?_
      rotate_left
      · (intro w9 hSw; (try dsimp only at hSw); go_simp; try with_reducible rfl)
      try simp only [Act.put, List.setIfInBounds_toArray, List.set_cons_zero, List.set_cons_succ]
      refine wpAnyH_take (i := 16) (oi := { dst := some 58, op := Op.move (Operand.tmp 12), type := 2, pos := "laws.go:347", after := #[{ on := 9, ground := Ground.guard }], guard := some (9, false) }) (v := ?_) rfl (by kernel_rfl) (by kernel_rfl) (by kernel_rfl) (fun _ _ _ h => h) (Or.inl ⟨by rfl, ?_⟩) hHeld ?_
      rotate_left
      · (intro w9 hSw; (try dsimp only at hSw); go_simp; try with_reducible rfl)
      try simp only [Act.put, List.setIfInBounds_toArray, List.set_cons_zero, List.set_cons_succ]
      refine wpAnyH_ready (rs := [13]) (by kernel_rfl) (by simp) ?_
      refine AllReadyH.cons (o := { dst := some 55, op := Op.call { callee := Callee.value (Operand.func 11), args := #[Operand.tmp 52, Operand.tmp 53, Operand.tmp 54], argTypes := #[32, 2, 2] }, type := 4, pos := "laws.go:347", after := #[{ on := 10, ground := Ground.data }, { on := 11, ground := Ground.data }, { on := 12, ground := Ground.data }, { on := 9, ground := Ground.chain }, { on := 9, ground := Ground.guard }], guard := some (9, false) }) rfl (fun K hK => ?_) AllReadyH.nil
      go_simp
      go_at_call 11; with_reducible refine (cZ1 _ Bc).mono ?_; rintro e wn ⟨rfl, kn⟩; have Bc := Bc.trans (kn.mono Bc.size); obtain ⟨z0, z1, z2, z3, z4, z5, z6, k0, k1, k2, k3, k4, k5, k6, k7, y0, y1, y2, y3, y4, y5, y6, lt0, lt1, lt2, lt3, lt4⟩ := keep8 _ Bc
      try go_wp2_with fail
      clear hHeld
      refine hK.out _ _ ?_ (fun hHeld => ?_)
      · (first | exact (by obtain ⟨z0, z1, z2, z3, z4, z5, z6, k0, k1, k2, k3, k4, k5, k6, k7, y0, y1, y2, y3, y4, y5, y6, _, _, _, _, _⟩ := keep8 _ Bc; exact ⟨z0, z1, z2, z3, z4, z5, z6, k0, k1, k2, k3, k4, k5, k6, k7, y0, y1, y2, y3, y4, y5, y6⟩) | go_keep)
      clear hK K
      try simp only [Act.put, List.setIfInBounds_toArray, List.set_cons_zero, List.set_cons_succ]
      refine wpAnyH_ready (rs := [17]) (by kernel_rfl) (by simp) ?_
      refine AllReadyH.cons (o := { dst := some 59, op := Op.call { callee := Callee.value (Operand.func 11), args := #[Operand.tmp 56, Operand.tmp 57, Operand.tmp 58], argTypes := #[32, 2, 2] }, type := 4, pos := "laws.go:347", after := #[{ on := 14, ground := Ground.data }, { on := 15, ground := Ground.data }, { on := 16, ground := Ground.data }, { on := 13, ground := Ground.chain }, { on := 9, ground := Ground.guard }], guard := some (9, false) }) rfl (fun K hK => ?_) AllReadyH.nil
      go_simp
      go_at_call 11; with_reducible refine (cZ2 _ Bc).mono ?_; rintro e wn ⟨rfl, kn⟩; have Bc := Bc.trans (kn.mono Bc.size); obtain ⟨z0, z1, z2, z3, z4, z5, z6, k0, k1, k2, k3, k4, k5, k6, k7, y0, y1, y2, y3, y4, y5, y6, lt0, lt1, lt2, lt3, lt4⟩ := keep8 _ Bc
      try go_wp2_with fail
      clear hHeld
      refine hK.out _ _ ?_ (fun hHeld => ?_)
      · (first | exact (by obtain ⟨z0, z1, z2, z3, z4, z5, z6, k0, k1, k2, k3, k4, k5, k6, k7, y0, y1, y2, y3, y4, y5, y6, _, _, _, _, _⟩ := keep8 _ Bc; exact ⟨z0, z1, z2, z3, z4, z5, z6, k0, k1, k2, k3, k4, k5, k6, k7, y0, y1, y2, y3, y4, y5, y6⟩) | go_keep)
      clear hK K
      try simp only [Act.put, List.setIfInBounds_toArray, List.set_cons_zero, List.set_cons_succ]
      refine wpAnyH_take (i := 18) (oi := { dst := some 60, op := Op.binOp BinOp.neq 4 (Operand.tmp 55) (Operand.tmp 59) 4, type := 4, pos := "laws.go:347", after := #[{ on := 13, ground := Ground.data }, { on := 17, ground := Ground.data }, { on := 9, ground := Ground.guard }], guard := some (9, false) }) (v := ?_) rfl (by kernel_rfl) (by kernel_rfl) (by kernel_rfl) (fun _ _ _ h => h) (Or.inl ⟨by rfl, ?_⟩) hHeld ?_
      rotate_left
      · (intro w9 hSw; (try dsimp only at hSw); go_simp; try with_reducible rfl)
      try simp only [Act.put, List.setIfInBounds_toArray, List.set_cons_zero, List.set_cons_succ]
      refine wpAnyH_take (i := 19) (oi := { dst := some 61, op := Op.pick (Operand.tmp 51) (Operand.const (Value.bool true)) (Operand.tmp 60), type := 4, pos := "laws.go:347", after := #[{ on := 9, ground := Ground.data }, { on := 18, ground := Ground.data }], guard := none }) (v := ?_) rfl (by kernel_rfl) (by kernel_rfl) (by kernel_rfl) (fun _ _ _ h => h) (Or.inl ⟨by rfl, ?_⟩) hHeld ?_
      rotate_left
      · (intro w9 hSw; (try dsimp only at hSw); go_simp; try with_reducible rfl)
      try simp only [Act.put, List.setIfInBounds_toArray, List.set_cons_zero, List.set_cons_succ]
      refine wpAnyH_take (i := 20) (oi := { dst := some 62, op := Op.move (Operand.tmp 61), type := 4, pos := "laws.go:347", after := #[{ on := 19, ground := Ground.data }, { on := 17, ground := Ground.chain }], guard := none }) (v := ?_) rfl (by kernel_rfl) (by kernel_rfl) (by kernel_rfl) (fun _ _ _ h => h) (Or.inl ⟨by rfl, ?_⟩) hHeld ?_
      rotate_left
      · (intro w9 hSw; (try dsimp only at hSw); go_simp; try with_reducible rfl)
      try simp only [Act.put, List.setIfInBounds_toArray, List.set_cons_zero, List.set_cons_succ]
      refine wpAnyH_take (i := 21) (oi := { dst := some 63, op := Op.fieldAddr 36 (Operand.tmp 10) 0, type := 0, pos := "laws.go:347", after := #[{ on := 20, ground := Ground.guard }], guard := some (20, false) }) (v := ?_) rfl (by kernel_rfl) (by kernel_rfl) (by kernel_rfl) (fun _ _ _ h => h) (Or.inl ⟨by rfl, ?_⟩) hHeld ?_
      rotate_left
      · (intro w9 hSw; (try dsimp only at hSw); go_simp; try with_reducible rfl)
      try simp only [Act.put, List.setIfInBounds_toArray, List.set_cons_zero, List.set_cons_succ]
      refine wpAnyH_take (i := 22) (oi := { dst := some 64, op := Op.load 2 (Operand.tmp 63), type := 2, pos := "laws.go:347", after := #[{ on := 21, ground := Ground.data }, { on := 20, ground := Ground.guard }], guard := some (20, false) }) (v := ?_) rfl (by kernel_rfl) (by kernel_rfl) (by kernel_rfl) (fun _ _ _ h => h) (Or.inl ⟨by rfl, ?_⟩) hHeld ?_
      rotate_left
      · (intro w9 hSw; (try dsimp only at hSw); go_simp; try with_reducible rfl)
      try simp only [Act.put, List.setIfInBounds_toArray, List.set_cons_zero, List.set_cons_succ]
      refine wpAnyH_take (i := 23) (oi := { dst := some 65, op := Op.load 32 (Operand.tmp 7), type := 32, pos := "laws.go:347", after := #[{ on := 20, ground := Ground.guard }], guard := some (20, false) }) (v := ?_) rfl (by kernel_rfl) (by kernel_rfl) (by kernel_rfl) (fun _ _ _ h => h) (Or.inl ⟨by rfl, ?_⟩) hHeld ?_
      rotate_left
      · (intro w9 hSw; (try dsimp only at hSw); go_simp; try with_reducible rfl)
      try simp only [Act.put, List.setIfInBounds_toArray, List.set_cons_zero, List.set_cons_succ]
      refine wpAnyH_take (i := 24) (oi := { dst := some 66, op := Op.move (Operand.tmp 8), type := 2, pos := "laws.go:347", after := #[{ on := 20, ground := Ground.guard }], guard := some (20, false) }) (v := ?_) rfl (by kernel_rfl) (by kernel_rfl) (by kernel_rfl) (fun _ _ _ h => h) (Or.inl ⟨by rfl, ?_⟩) hHeld ?_
      rotate_left
      · (intro w9 hSw; (try dsimp only at hSw); go_simp; try with_reducible rfl)
      try simp only [Act.put, List.setIfInBounds_toArray, List.set_cons_zero, List.set_cons_succ]
      refine wpAnyH_take (i := 25) (oi := { dst := some 67, op := Op.move (Operand.tmp 9), type := 2, pos := "laws.go:347", after := #[{ on := 20, ground := Ground.guard }], guard := some (20, false) }) (v := ?_) rfl (by kernel_rfl) (by kernel_rfl) (by kernel_rfl) (fun _ _ _ h => h) (Or.inl ⟨by rfl, ?_⟩) hHeld ?_
      rotate_left
      · (intro w9 hSw; (try dsimp only at hSw); go_simp; try with_reducible rfl)
      try simp only [Act.put, List.setIfInBounds_toArray, List.set_cons_zero, List.set_cons_succ]
      refine wpAnyH_ready (rs := [26]) (by kernel_rfl) (by simp) ?_
      refine AllReadyH.cons (o := { dst := some 68, op := Op.call { callee := Callee.value (Operand.func 13), args := #[Operand.tmp 65, Operand.tmp 66, Operand.tmp 67], argTypes := #[32, 2, 2] }, type := 36, pos := "laws.go:347", after := #[{ on := 23, ground := Ground.data }, { on := 24, ground := Ground.data }, { on := 25, ground := Ground.data }, { on := 20, ground := Ground.chain }, { on := 20, ground := Ground.guard }], guard := some (20, false) }) rfl (fun K hK => ?_) AllReadyH.nil
      go_simp
      go_at_call 13; with_reducible refine (cB _ Bc).mono ?_; rintro e wn ⟨qn, rfl, _, _, kn⟩; have Bc := Bc.trans (kn.mono Bc.size); obtain ⟨z0, z1, z2, z3, z4, z5, z6, k0, k1, k2, k3, k4, k5, k6, k7, y0, y1, y2, y3, y4, y5, y6, lt0, lt1, lt2, lt3, lt4⟩ := keep8 _ Bc
      try go_wp2_with fail
      clear hHeld
      refine hK.out _ _ ?_ (fun hHeld => ?_)
      · (first | exact (by obtain ⟨z0, z1, z2, z3, z4, z5, z6, k0, k1, k2, k3, k4, k5, k6, k7, y0, y1, y2, y3, y4, y5, y6, _, _, _, _, _⟩ := keep8 _ Bc; exact ⟨z0, z1, z2, z3, z4, z5, z6, k0, k1, k2, k3, k4, k5, k6, k7, y0, y1, y2, y3, y4, y5, y6⟩) | go_keep)
      clear hK K
      try simp only [Act.put, List.setIfInBounds_toArray, List.set_cons_zero, List.set_cons_succ]
      refine wpAnyH_take (i := 27) (oi := { dst := some 69, op := Op.field 36 (Operand.tmp 68) 0, type := 2, pos := "laws.go:347", after := #[{ on := 26, ground := Ground.data }, { on := 20, ground := Ground.guard }], guard := some (20, false) }) (v := ?_) rfl (by kernel_rfl) (by kernel_rfl) (by kernel_rfl) (fun _ _ _ h => h) (Or.inl ⟨by rfl, ?_⟩) hHeld ?_
      rotate_left
      · (intro w9 hSw; (try dsimp only at hSw); go_simp; try with_reducible rfl)
      try simp only [Act.put, List.setIfInBounds_toArray, List.set_cons_zero, List.set_cons_succ]
      refine wpAnyH_take (i := 28) (oi := { dst := some 70, op := Op.binOp BinOp.neq 2 (Operand.tmp 64) (Operand.tmp 69) 2, type := 4, pos := "laws.go:347", after := #[{ on := 22, ground := Ground.data }, { on := 27, ground := Ground.data }, { on := 20, ground := Ground.guard }], guard := some (20, false) }) (v := ?_) rfl (by kernel_rfl) (by kernel_rfl) (by kernel_rfl) (fun _ _ _ h => h) (Or.inl ⟨by rfl, ?_⟩) hHeld ?_
      rotate_left
      · (intro w9 hSw; (try dsimp only at hSw); go_simp; try with_reducible rfl)
      try simp only [Act.put, List.setIfInBounds_toArray, List.set_cons_zero, List.set_cons_succ]
      refine wpAnyH_take (i := 29) (oi := { dst := some 71, op := Op.pick (Operand.tmp 62) (Operand.const (Value.bool true)) (Operand.tmp 70), type := 4, pos := "laws.go:347", after := #[{ on := 20, ground := Ground.data }, { on := 28, ground := Ground.data }], guard := none }) (v := ?_) rfl (by kernel_rfl) (by kernel_rfl) (by kernel_rfl) (fun _ _ _ h => h) (Or.inl ⟨by rfl, ?_⟩) hHeld ?_
      rotate_left
      · (intro w9 hSw; (try dsimp only at hSw); go_simp; try with_reducible rfl)
      try simp only [Act.put, List.setIfInBounds_toArray, List.set_cons_zero, List.set_cons_succ]
      refine wpAnyH_take (i := 30) (oi := { dst := some 72, op := Op.move (Operand.tmp 71), type := 4, pos := "laws.go:347", after := #[{ on := 29, ground := Ground.data }, { on := 26, ground := Ground.chain }], guard := none }) (v := ?_) rfl (by kernel_rfl) (by kernel_rfl) (by kernel_rfl) (fun _ _ _ h => h) (Or.inl ⟨by rfl, ?_⟩) hHeld ?_
      rotate_left
      · (intro w9 hSw; (try dsimp only at hSw); go_simp; try with_reducible rfl)
      try simp only [Act.put, List.setIfInBounds_toArray, List.set_cons_zero, List.set_cons_succ]
      refine wpAnyH_take (i := 31) (oi := { dst := some 73, op := Op.fieldAddr 36 (Operand.tmp 10) 0, type := 0, pos := "laws.go:347", after := #[{ on := 30, ground := Ground.guard }], guard := some (30, false) }) (v := ?_) rfl (by kernel_rfl) (by kernel_rfl) (by kernel_rfl) (fun _ _ _ h => h) (Or.inl ⟨by rfl, ?_⟩) hHeld ?_
      rotate_left
      · (intro w9 hSw; (try dsimp only at hSw); go_simp; try with_reducible rfl)
      try simp only [Act.put, List.setIfInBounds_toArray, List.set_cons_zero, List.set_cons_succ]
      refine wpAnyH_take (i := 32) (oi := { dst := some 74, op := Op.load 2 (Operand.tmp 73), type := 2, pos := "laws.go:347", after := #[{ on := 31, ground := Ground.data }, { on := 30, ground := Ground.guard }], guard := some (30, false) }) (v := ?_) rfl (by kernel_rfl) (by kernel_rfl) (by kernel_rfl) (fun _ _ _ h => h) (Or.inl ⟨by rfl, ?_⟩) hHeld ?_
      rotate_left
      · (intro w9 hSw; (try dsimp only at hSw); go_simp; try with_reducible rfl)
      try simp only [Act.put, List.setIfInBounds_toArray, List.set_cons_zero, List.set_cons_succ]
      refine wpAnyH_take (i := 33) (oi := { dst := some 75, op := Op.binOp BinOp.eql 2 (Operand.tmp 74) (Operand.const (Value.int IntKind.i64 0)) 2, type := 4, pos := "laws.go:347", after := #[{ on := 32, ground := Ground.data }, { on := 30, ground := Ground.guard }], guard := some (30, false) }) (v := ?_) rfl (by kernel_rfl) (by kernel_rfl) (by kernel_rfl) (fun _ _ _ h => h) (Or.inl ⟨by rfl, ?_⟩) hHeld ?_
      rotate_left
      · (intro w9 hSw; (try dsimp only at hSw); go_simp; try with_reducible rfl)
      try simp only [Act.put, List.setIfInBounds_toArray, List.set_cons_zero, List.set_cons_succ]
      refine wpAnyH_take (i := 34) (oi := { dst := some 76, op := Op.move (Operand.tmp 75), type := 4, pos := "laws.go:347", after := #[{ on := 33, ground := Ground.data }, { on := 30, ground := Ground.chain }, { on := 30, ground := Ground.guard }], guard := some (30, false) }) (v := ?_) rfl (by kernel_rfl) (by kernel_rfl) (by kernel_rfl) (fun _ _ _ h => h) (Or.inl ⟨by rfl, ?_⟩) hHeld ?_
      rotate_left
      · (intro w9 hSw; (try dsimp only at hSw); go_simp; try with_reducible rfl)
      try simp only [Act.put, List.setIfInBounds_toArray, List.set_cons_zero, List.set_cons_succ]
      refine wpAnyH_take (i := 35) (oi := { dst := some 77, op := Op.fieldAddr 36 (Operand.tmp 10) 1, type := 0, pos := "laws.go:347", after := #[{ on := 34, ground := Ground.guard }], guard := some (34, true) }) (v := undef) rfl (by kernel_rfl) (by kernel_rfl) (by kernel_rfl) (fun _ _ _ h => h) (Or.inr ⟨by rfl, rfl⟩) hHeld ?_
      try simp only [Act.put, List.setIfInBounds_toArray, List.set_cons_zero, List.set_cons_succ]
      refine wpAnyH_take (i := 36) (oi := { dst := some 78, op := Op.load 32 (Operand.tmp 77), type := 32, pos := "laws.go:347", after := #[{ on := 35, ground := Ground.data }, { on := 34, ground := Ground.guard }], guard := some (34, true) }) (v := undef) rfl (by kernel_rfl) (by kernel_rfl) (by kernel_rfl) (fun _ _ _ h => h) (Or.inr ⟨by rfl, rfl⟩) hHeld ?_
      try simp only [Act.put, List.setIfInBounds_toArray, List.set_cons_zero, List.set_cons_succ]
      refine wpAnyH_take (i := 37) (oi := { dst := some 79, op := Op.call { callee := Callee.value (Operand.func 14), args := #[Operand.tmp 78], argTypes := #[32] }, type := 2, pos := "laws.go:347", after := #[{ on := 36, ground := Ground.data }, { on := 34, ground := Ground.chain }, { on := 34, ground := Ground.guard }], guard := some (34, true) }) (v := undef) rfl (by kernel_rfl) (by kernel_rfl) (by kernel_rfl) (fun _ _ _ h => h) (Or.inr ⟨by rfl, rfl⟩) hHeld ?_
      try simp only [Act.put, List.setIfInBounds_toArray, List.set_cons_zero, List.set_cons_succ]
      refine wpAnyH_take (i := 38) (oi := { dst := some 80, op := Op.binOp BinOp.neq 2 (Operand.tmp 79) (Operand.const (Value.int IntKind.i64 0)) 2, type := 4, pos := "laws.go:347", after := #[{ on := 37, ground := Ground.data }, { on := 34, ground := Ground.guard }], guard := some (34, true) }) (v := undef) rfl (by kernel_rfl) (by kernel_rfl) (by kernel_rfl) (fun _ _ _ h => h) (Or.inr ⟨by rfl, rfl⟩) hHeld ?_
      try simp only [Act.put, List.setIfInBounds_toArray, List.set_cons_zero, List.set_cons_succ]
      refine wpAnyH_take (i := 39) (oi := { dst := some 81, op := Op.move (Operand.tmp 80), type := 4, pos := "laws.go:347", after := #[{ on := 38, ground := Ground.data }, { on := 37, ground := Ground.chain }, { on := 34, ground := Ground.guard }], guard := some (34, true) }) (v := undef) rfl (by kernel_rfl) (by kernel_rfl) (by kernel_rfl) (fun _ _ _ h => h) (Or.inr ⟨by rfl, rfl⟩) hHeld ?_
      try simp only [Act.put, List.setIfInBounds_toArray, List.set_cons_zero, List.set_cons_succ]
      refine wpAnyH_take (i := 40) (oi := { dst := some 82, op := Op.fieldAddr 36 (Operand.tmp 10) 1, type := 0, pos := "laws.go:347", after := #[{ on := 39, ground := Ground.guard }], guard := some (39, false) }) (v := undef) rfl (by kernel_rfl) (by kernel_rfl) (by kernel_rfl) (fun _ _ _ h => h) (Or.inr ⟨by rfl, rfl⟩) hHeld ?_
      try simp only [Act.put, List.setIfInBounds_toArray, List.set_cons_zero, List.set_cons_succ]
      refine wpAnyH_take (i := 41) (oi := { dst := some 83, op := Op.load 32 (Operand.tmp 82), type := 32, pos := "laws.go:347", after := #[{ on := 40, ground := Ground.data }, { on := 39, ground := Ground.guard }], guard := some (39, false) }) (v := undef) rfl (by kernel_rfl) (by kernel_rfl) (by kernel_rfl) (fun _ _ _ h => h) (Or.inr ⟨by rfl, rfl⟩) hHeld ?_
      try simp only [Act.put, List.setIfInBounds_toArray, List.set_cons_zero, List.set_cons_succ]
      refine wpAnyH_take (i := 42) (oi := { dst := some 84, op := Op.move (Operand.tmp 8), type := 2, pos := "laws.go:347", after := #[{ on := 39, ground := Ground.guard }], guard := some (39, false) }) (v := undef) rfl (by kernel_rfl) (by kernel_rfl) (by kernel_rfl) (fun _ _ _ h => h) (Or.inr ⟨by rfl, rfl⟩) hHeld ?_
      try simp only [Act.put, List.setIfInBounds_toArray, List.set_cons_zero, List.set_cons_succ]
      refine wpAnyH_take (i := 43) (oi := { dst := some 85, op := Op.move (Operand.tmp 9), type := 2, pos := "laws.go:347", after := #[{ on := 39, ground := Ground.guard }], guard := some (39, false) }) (v := undef) rfl (by kernel_rfl) (by kernel_rfl) (by kernel_rfl) (fun _ _ _ h => h) (Or.inr ⟨by rfl, rfl⟩) hHeld ?_
      try simp only [Act.put, List.setIfInBounds_toArray, List.set_cons_zero, List.set_cons_succ]
      refine wpAnyH_take (i := 44) (oi := { dst := some 86, op := Op.call { callee := Callee.value (Operand.func 11), args := #[Operand.tmp 83, Operand.tmp 84, Operand.tmp 85], argTypes := #[32, 2, 2] }, type := 4, pos := "laws.go:347", after := #[{ on := 41, ground := Ground.data }, { on := 42, ground := Ground.data }, { on := 43, ground := Ground.data }, { on := 39, ground := Ground.chain }, { on := 39, ground := Ground.guard }], guard := some (39, false) }) (v := undef) rfl (by kernel_rfl) (by kernel_rfl) (by kernel_rfl) (fun _ _ _ h => h) (Or.inr ⟨by rfl, rfl⟩) hHeld ?_
      try simp only [Act.put, List.setIfInBounds_toArray, List.set_cons_zero, List.set_cons_succ]
      refine wpAnyH_take (i := 45) (oi := { dst := some 87, op := Op.pick (Operand.tmp 81) (Operand.const (Value.bool true)) (Operand.tmp 86), type := 4, pos := "laws.go:347", after := #[{ on := 39, ground := Ground.data }, { on := 44, ground := Ground.data }, { on := 34, ground := Ground.guard }], guard := some (34, true) }) (v := undef) rfl (by kernel_rfl) (by kernel_rfl) (by kernel_rfl) (fun _ _ _ h => h) (Or.inr ⟨by rfl, rfl⟩) hHeld ?_
      try simp only [Act.put, List.setIfInBounds_toArray, List.set_cons_zero, List.set_cons_succ]
      refine wpAnyH_take (i := 46) (oi := { dst := some 88, op := Op.move (Operand.tmp 87), type := 4, pos := "laws.go:347", after := #[{ on := 45, ground := Ground.data }, { on := 44, ground := Ground.chain }, { on := 34, ground := Ground.guard }], guard := some (34, true) }) (v := undef) rfl (by kernel_rfl) (by kernel_rfl) (by kernel_rfl) (fun _ _ _ h => h) (Or.inr ⟨by rfl, rfl⟩) hHeld ?_
      try simp only [Act.put, List.setIfInBounds_toArray, List.set_cons_zero, List.set_cons_succ]
      refine wpAnyH_take (i := 47) (oi := { dst := some 89, op := Op.fieldAddr 36 (Operand.tmp 10) 1, type := 0, pos := "laws.go:347", after := #[{ on := 46, ground := Ground.guard }], guard := some (46, false) }) (v := undef) rfl (by kernel_rfl) (by kernel_rfl) (by kernel_rfl) (fun _ _ _ h => h) (Or.inr ⟨by rfl, rfl⟩) hHeld ?_
      try simp only [Act.put, List.setIfInBounds_toArray, List.set_cons_zero, List.set_cons_succ]
      refine wpAnyH_take (i := 48) (oi := { dst := some 90, op := Op.load 32 (Operand.tmp 89), type := 32, pos := "laws.go:347", after := #[{ on := 47, ground := Ground.data }, { on := 46, ground := Ground.guard }], guard := some (46, false) }) (v := undef) rfl (by kernel_rfl) (by kernel_rfl) (by kernel_rfl) (fun _ _ _ h => h) (Or.inr ⟨by rfl, rfl⟩) hHeld ?_
      try simp only [Act.put, List.setIfInBounds_toArray, List.set_cons_zero, List.set_cons_succ]
      refine wpAnyH_take (i := 49) (oi := { dst := some 91, op := Op.move (Operand.tmp 9), type := 2, pos := "laws.go:347", after := #[{ on := 46, ground := Ground.guard }], guard := some (46, false) }) (v := undef) rfl (by kernel_rfl) (by kernel_rfl) (by kernel_rfl) (fun _ _ _ h => h) (Or.inr ⟨by rfl, rfl⟩) hHeld ?_
      try simp only [Act.put, List.setIfInBounds_toArray, List.set_cons_zero, List.set_cons_succ]
      refine wpAnyH_take (i := 50) (oi := { dst := some 92, op := Op.move (Operand.tmp 8), type := 2, pos := "laws.go:347", after := #[{ on := 46, ground := Ground.guard }], guard := some (46, false) }) (v := undef) rfl (by kernel_rfl) (by kernel_rfl) (by kernel_rfl) (fun _ _ _ h => h) (Or.inr ⟨by rfl, rfl⟩) hHeld ?_
      try simp only [Act.put, List.setIfInBounds_toArray, List.set_cons_zero, List.set_cons_succ]
      refine wpAnyH_take (i := 51) (oi := { dst := some 93, op := Op.call { callee := Callee.value (Operand.func 11), args := #[Operand.tmp 90, Operand.tmp 91, Operand.tmp 92], argTypes := #[32, 2, 2] }, type := 4, pos := "laws.go:347", after := #[{ on := 48, ground := Ground.data }, { on := 49, ground := Ground.data }, { on := 50, ground := Ground.data }, { on := 46, ground := Ground.chain }, { on := 46, ground := Ground.guard }], guard := some (46, false) }) (v := undef) rfl (by kernel_rfl) (by kernel_rfl) (by kernel_rfl) (fun _ _ _ h => h) (Or.inr ⟨by rfl, rfl⟩) hHeld ?_
      try simp only [Act.put, List.setIfInBounds_toArray, List.set_cons_zero, List.set_cons_succ]
      refine wpAnyH_take (i := 52) (oi := { dst := some 94, op := Op.pick (Operand.tmp 88) (Operand.const (Value.bool true)) (Operand.tmp 93), type := 4, pos := "laws.go:347", after := #[{ on := 46, ground := Ground.data }, { on := 51, ground := Ground.data }, { on := 34, ground := Ground.guard }], guard := some (34, true) }) (v := undef) rfl (by kernel_rfl) (by kernel_rfl) (by kernel_rfl) (fun _ _ _ h => h) (Or.inr ⟨by rfl, rfl⟩) hHeld ?_
      try simp only [Act.put, List.setIfInBounds_toArray, List.set_cons_zero, List.set_cons_succ]
      refine wpAnyH_take (i := 53) (oi := { dst := some 95, op := Op.move (Operand.tmp 94), type := 4, pos := "laws.go:347", after := #[{ on := 52, ground := Ground.data }, { on := 51, ground := Ground.chain }, { on := 34, ground := Ground.guard }], guard := some (34, true) }) (v := undef) rfl (by kernel_rfl) (by kernel_rfl) (by kernel_rfl) (fun _ _ _ h => h) (Or.inr ⟨by rfl, rfl⟩) hHeld ?_
      try simp only [Act.put, List.setIfInBounds_toArray, List.set_cons_zero, List.set_cons_succ]
      refine wpAnyH_take (i := 54) (oi := { dst := some 96, op := Op.load 32 (Operand.tmp 7), type := 32, pos := "laws.go:347", after := #[{ on := 53, ground := Ground.guard }], guard := some (53, false) }) (v := undef) rfl (by kernel_rfl) (by kernel_rfl) (by kernel_rfl) (fun _ _ _ h => h) (Or.inr ⟨by rfl, rfl⟩) hHeld ?_
      try simp only [Act.put, List.setIfInBounds_toArray, List.set_cons_zero, List.set_cons_succ]
      refine wpAnyH_take (i := 55) (oi := { dst := some 97, op := Op.move (Operand.tmp 8), type := 2, pos := "laws.go:347", after := #[{ on := 53, ground := Ground.guard }], guard := some (53, false) }) (v := undef) rfl (by kernel_rfl) (by kernel_rfl) (by kernel_rfl) (fun _ _ _ h => h) (Or.inr ⟨by rfl, rfl⟩) hHeld ?_
      try simp only [Act.put, List.setIfInBounds_toArray, List.set_cons_zero, List.set_cons_succ]
      refine wpAnyH_take (i := 56) (oi := { dst := some 98, op := Op.move (Operand.tmp 9), type := 2, pos := "laws.go:347", after := #[{ on := 53, ground := Ground.guard }], guard := some (53, false) }) (v := undef) rfl (by kernel_rfl) (by kernel_rfl) (by kernel_rfl) (fun _ _ _ h => h) (Or.inr ⟨by rfl, rfl⟩) hHeld ?_
      try simp only [Act.put, List.setIfInBounds_toArray, List.set_cons_zero, List.set_cons_succ]
      refine wpAnyH_take (i := 57) (oi := { dst := some 99, op := Op.call { callee := Callee.value (Operand.func 11), args := #[Operand.tmp 96, Operand.tmp 97, Operand.tmp 98], argTypes := #[32, 2, 2] }, type := 4, pos := "laws.go:347", after := #[{ on := 54, ground := Ground.data }, { on := 55, ground := Ground.data }, { on := 56, ground := Ground.data }, { on := 53, ground := Ground.chain }, { on := 53, ground := Ground.guard }], guard := some (53, false) }) (v := undef) rfl (by kernel_rfl) (by kernel_rfl) (by kernel_rfl) (fun _ _ _ h => h) (Or.inr ⟨by rfl, rfl⟩) hHeld ?_
      try simp only [Act.put, List.setIfInBounds_toArray, List.set_cons_zero, List.set_cons_succ]
      refine wpAnyH_take (i := 58) (oi := { dst := some 100, op := Op.unOp UnOp.not 4 (Operand.tmp 99), type := 4, pos := "laws.go:347", after := #[{ on := 57, ground := Ground.data }, { on := 53, ground := Ground.guard }], guard := some (53, false) }) (v := undef) rfl (by kernel_rfl) (by kernel_rfl) (by kernel_rfl) (fun _ _ _ h => h) (Or.inr ⟨by rfl, rfl⟩) hHeld ?_
      try simp only [Act.put, List.setIfInBounds_toArray, List.set_cons_zero, List.set_cons_succ]
      refine wpAnyH_take (i := 59) (oi := { dst := some 101, op := Op.pick (Operand.tmp 95) (Operand.const (Value.bool true)) (Operand.tmp 100), type := 4, pos := "laws.go:347", after := #[{ on := 53, ground := Ground.data }, { on := 58, ground := Ground.data }, { on := 34, ground := Ground.guard }], guard := some (34, true) }) (v := undef) rfl (by kernel_rfl) (by kernel_rfl) (by kernel_rfl) (fun _ _ _ h => h) (Or.inr ⟨by rfl, rfl⟩) hHeld ?_
      try simp only [Act.put, List.setIfInBounds_toArray, List.set_cons_zero, List.set_cons_succ]
      refine wpAnyH_take (i := 60) (oi := { dst := some 102, op := Op.pick (Operand.tmp 76) (Operand.tmp 101) (Operand.const (Value.bool false)), type := 4, pos := "laws.go:347", after := #[{ on := 34, ground := Ground.data }, { on := 59, ground := Ground.data }, { on := 30, ground := Ground.guard }], guard := some (30, false) }) (v := ?_) rfl (by kernel_rfl) (by kernel_rfl) (by kernel_rfl) (fun _ _ _ h => h) (Or.inl ⟨by rfl, ?_⟩) hHeld ?_
      rotate_left
      · (intro w9 hSw; (try dsimp only at hSw); go_simp; try with_reducible rfl)
      try simp only [Act.put, List.setIfInBounds_toArray, List.set_cons_zero, List.set_cons_succ]
      refine wpAnyH_take (i := 61) (oi := { dst := some 103, op := Op.pick (Operand.tmp 72) (Operand.const (Value.bool true)) (Operand.tmp 102), type := 4, pos := "laws.go:347", after := #[{ on := 30, ground := Ground.data }, { on := 60, ground := Ground.data }], guard := none }) (v := ?_) rfl (by kernel_rfl) (by kernel_rfl) (by kernel_rfl) (fun _ _ _ h => h) (Or.inl ⟨by rfl, ?_⟩) hHeld ?_
      rotate_left
      · (intro w9 hSw; (try dsimp only at hSw); go_simp; try with_reducible rfl)
      try simp only [Act.put, List.setIfInBounds_toArray, List.set_cons_zero, List.set_cons_succ]
      refine wpAnyH_done (by kernel_rfl) ?_ _
      obtain ⟨w11, Hw11⟩ : ∃ v, Hid (v = wn) := ⟨_, rfl⟩
      rw [← Hw11.out] at Bc ⊢
      clear hHeld keep8 z0 z1 z2 z3 z4 z5 z6 k0 k1 k2 k3 k4 k5 k6 k7 y0 y1 y2 y3 y4 y5 y6 lt0 lt1 lt2 lt3 lt4 nAR nD eD Hw11
      have M4' : Below W4.heap.size W4 w11 := M4.trans (Bc.mono M4.size)
      have P4 := X4.out.below M4'
      have c0 : w11.cell? ⟨w3.heap.size, 0, none⟩ = some (.int .i64 C) := P4.cell (i := 0) rfl
      have cl := P4.lt
      have B11 : Below W10.heap.size W10 w11 := Bc
      have sA := fun W' (h : Below W10.heap.size W10 W') => HS.out W' (M2.trans (h.mono M2.size))
      clear P4
      cases e2 : C == 0
      · have n7 : (C != 0) = true := by simp only [bne, e2]; rfl
        have nCC : (C == C) = true := by simp
        have keepE : ∀ w', Below W10.heap.size W10 w' → w'.cell? ⟨w1.heap.size, 0, none⟩ = some (.int .i64 x.t) ∧ w'.cell? ⟨w1.heap.size, 1, none⟩ = some (.int .i64 x.s) ∧ w'.cell? ⟨w1.heap.size, 2, none⟩ = some (.slice p.u x.us.length p.uc) ∧ w'.cell? ⟨w1.heap.size, 3, none⟩ = some (.slice p.f x.fs.length p.fc) ∧ w'.cell? ⟨w1.heap.size, 4, none⟩ = some (.slice p.a x.fa.length p.ac) ∧ w'.cell? ⟨w1.heap.size, 5, none⟩ = some (.slice p.s x.se.length p.sc) ∧ w'.cell? ⟨w1.heap.size, 6, none⟩ = some (.slice p.o x.oo.length p.oc) ∧ w'.cell? ⟨w3.heap.size, 0, none⟩ = some (.int .i64 C) ∧ w1.heap.size < w'.heap.size ∧ w3.heap.size < w'.heap.size := fun w' h => by
          have P7 := X4.out.below (M4.trans (h.mono M4.size))
          obtain ⟨a0, a1, a2, a3, a4, a5, a6, l1⟩ := (X2.out.below (M2.trans (h.mono M2.size))).c7
          exact ⟨a0, a1, a2, a3, a4, a5, a6, P7.cell rfl, l1, P7.lt⟩
        obtain ⟨a0, a1, a2, a3, a4, a5, a6, c0, al, cl⟩ := keepE _ Bc
        have Bd : Below W10.heap.size W10 w11.drew := Bc.trans ((Below.refl _ _).drew.mono Bc.size)
        go_upto_region 11 with fail
        go_region_held3 (fun w' => w'.cell? ⟨w1.heap.size, 0, none⟩ = some (.int .i64 x.t) ∧ w'.cell? ⟨w1.heap.size, 1, none⟩ = some (.int .i64 x.s) ∧ w'.cell? ⟨w1.heap.size, 2, none⟩ = some (.slice p.u x.us.length p.uc) ∧ w'.cell? ⟨w1.heap.size, 3, none⟩ = some (.slice p.f x.fs.length p.fc) ∧ w'.cell? ⟨w1.heap.size, 4, none⟩ = some (.slice p.a x.fa.length p.ac) ∧ w'.cell? ⟨w1.heap.size, 5, none⟩ = some (.slice p.s x.se.length p.sc) ∧ w'.cell? ⟨w1.heap.size, 6, none⟩ = some (.slice p.o x.oo.length p.oc) ∧ w'.cell? ⟨w3.heap.size, 0, none⟩ = some (.int .i64 C)) (first | exact (by obtain ⟨a0, a1, a2, a3, a4, a5, a6, c0, _, _⟩ := keepE _ Bd; exact ⟨a0, a1, a2, a3, a4, a5, a6, c0⟩) | go_keep) (first
          | (go_at_call 15; refine (sA _ Bd).mono ?_; rintro e wn ⟨qn, rfl, _, kn⟩; have Bd := Bd.trans (kn.mono Bd.size); obtain ⟨a0, a1, a2, a3, a4, a5, a6, c0, al, cl⟩ := keepE _ Bd))
        all_goals
          go_wp2_with fail
          go_ret
          exact ⟨rfl, L10.trans (Bd.mono L10.size)⟩
      · obtain rfl : C = 0 := by simpa using e2
        obtain ⟨hwf, hab, hba, hno⟩ := Hg.out rfl
        have keepF : ∀ w', Below W10.heap.size W10 w' → w'.cell? ⟨w1.heap.size, 0, none⟩ = some (.int .i64 x.t) ∧ w'.cell? ⟨w1.heap.size, 1, none⟩ = some (.int .i64 x.s) ∧ w'.cell? ⟨w1.heap.size, 2, none⟩ = some (.slice p.u x.us.length p.uc) ∧ w'.cell? ⟨w1.heap.size, 3, none⟩ = some (.slice p.f x.fs.length p.fc) ∧ w'.cell? ⟨w1.heap.size, 4, none⟩ = some (.slice p.a x.fa.length p.ac) ∧ w'.cell? ⟨w1.heap.size, 5, none⟩ = some (.slice p.s x.se.length p.sc) ∧ w'.cell? ⟨w1.heap.size, 6, none⟩ = some (.slice p.o x.oo.length p.oc) ∧ w'.cell? ⟨w3.heap.size, 0, none⟩ = some (.int .i64 0) ∧ w'.cell? ⟨w3.heap.size, 1, none⟩ = some (.int .i64 X.t) ∧ w'.cell? ⟨w3.heap.size, 2, none⟩ = some (.int .i64 X.s) ∧ w'.cell? ⟨w3.heap.size, 3, none⟩ = some (.slice q.u X.us.length q.uc) ∧ w'.cell? ⟨w3.heap.size, 4, none⟩ = some (.slice q.f X.fs.length q.fc) ∧ w'.cell? ⟨w3.heap.size, 5, none⟩ = some (.slice q.a X.fa.length q.ac) ∧ w'.cell? ⟨w3.heap.size, 6, none⟩ = some (.slice q.s X.se.length q.sc) ∧ w'.cell? ⟨w3.heap.size, 7, none⟩ = some (.slice q.o X.oo.length q.oc) ∧ w1.heap.size < w'.heap.size ∧ w3.heap.size < w'.heap.size := fun w' h => by
          have P7 := X4.out.below (M4.trans (h.mono M4.size))
          obtain ⟨a0, a1, a2, a3, a4, a5, a6, l1⟩ := (X2.out.below (M2.trans (h.mono M2.size))).c7
          exact ⟨a0, a1, a2, a3, a4, a5, a6, P7.cell rfl, P7.cell rfl, P7.cell rfl, P7.cell rfl, P7.cell rfl, P7.cell rfl, P7.cell rfl, P7.cell rfl, l1, P7.lt⟩
        have vF := fun W' (h : Below W10.heap.size W10 W') => implWorldFault q X HO4.out.in.o1 HO4.out.in.o2 W' (HO4.out.later (M4.trans (h.mono M4.size))).in.arg
        have vA := fun W' (h : Below W10.heap.size W10 W') => implAreAllies q X HO4.out.in.o1 HO4.out.in.o2 W' (HO4.out.later (M4.trans (h.mono M4.size))).in.arg i j
        have vB := fun W' (h : Below W10.heap.size W10 W') => implAreAllies q X HO4.out.in.o1 HO4.out.in.o2 W' (HO4.out.later (M4.trans (h.mono M4.size))).in.arg j i
        have vx := fun W' (h : Below W10.heap.size W10 W') => implAreAllies p x HO2.out.in.o1 HO2.out.in.o2 W' (HO2.out.later (M2.trans (h.mono M2.size))).in.arg i j
        rw [hwf] at vF
        rw [hab] at vA
        rw [hba] at vB
        rw [hno] at vx
        have z := good_sz hwf
        have sW := fun (q3 : WP) W' (O3 : ArgW W' q3 X) (h : Below W10.heap.size W10 W') => sameW_in q q3 X W' (HO4.out.later (M4.trans (h.mono M4.size))).in.arg O3 z.u z.f z.a z.s z.o
        clear hwf hab hba hno z e2
        obtain ⟨a0, a1, a2, a3, a4, a5, a6, d0, d1, d2, d3, d4, d5, d6, d7, al, cl⟩ := keepF _ Bc
        clear c0
        have Bd : Below W10.heap.size W10 w11.drew := Bc.trans ((Below.refl _ _).drew.mono Bc.size)
        go_upto_region 12 with fail
        go_region_held3 (fun w' => w'.cell? ⟨w1.heap.size, 0, none⟩ = some (.int .i64 x.t) ∧ w'.cell? ⟨w1.heap.size, 1, none⟩ = some (.int .i64 x.s) ∧ w'.cell? ⟨w1.heap.size, 2, none⟩ = some (.slice p.u x.us.length p.uc) ∧ w'.cell? ⟨w1.heap.size, 3, none⟩ = some (.slice p.f x.fs.length p.fc) ∧ w'.cell? ⟨w1.heap.size, 4, none⟩ = some (.slice p.a x.fa.length p.ac) ∧ w'.cell? ⟨w1.heap.size, 5, none⟩ = some (.slice p.s x.se.length p.sc) ∧ w'.cell? ⟨w1.heap.size, 6, none⟩ = some (.slice p.o x.oo.length p.oc) ∧ w'.cell? ⟨w3.heap.size, 0, none⟩ = some (.int .i64 0) ∧ w'.cell? ⟨w3.heap.size, 1, none⟩ = some (.int .i64 X.t) ∧ w'.cell? ⟨w3.heap.size, 2, none⟩ = some (.int .i64 X.s) ∧ w'.cell? ⟨w3.heap.size, 3, none⟩ = some (.slice q.u X.us.length q.uc) ∧ w'.cell? ⟨w3.heap.size, 4, none⟩ = some (.slice q.f X.fs.length q.fc) ∧ w'.cell? ⟨w3.heap.size, 5, none⟩ = some (.slice q.a X.fa.length q.ac) ∧ w'.cell? ⟨w3.heap.size, 6, none⟩ = some (.slice q.s X.se.length q.sc) ∧ w'.cell? ⟨w3.heap.size, 7, none⟩ = some (.slice q.o X.oo.length q.oc)) (first | exact (by obtain ⟨a0, a1, a2, a3, a4, a5, a6, d0, d1, d2, d3, d4, d5, d6, d7, _, _⟩ := keepF _ Bd; exact ⟨a0, a1, a2, a3, a4, a5, a6, d0, d1, d2, d3, d4, d5, d6, d7⟩) | go_keep) (first
          | (go_at_call 14; refine (vF _ Bd).mono ?_; rintro e wn ⟨rfl, kn⟩; have Bd := Bd.trans (kn.mono Bd.size); obtain ⟨a0, a1, a2, a3, a4, a5, a6, d0, d1, d2, d3, d4, d5, d6, d7, al, cl⟩ := keepF _ Bd)
          | (go_at_call 11; with_reducible refine (vA _ Bd).mono ?_; rintro e wn ⟨rfl, kn⟩; have Bd := Bd.trans (kn.mono Bd.size); obtain ⟨a0, a1, a2, a3, a4, a5, a6, d0, d1, d2, d3, d4, d5, d6, d7, al, cl⟩ := keepF _ Bd)
          | (go_at_call 11; with_reducible refine (vB _ Bd).mono ?_; rintro e wn ⟨rfl, kn⟩; have Bd := Bd.trans (kn.mono Bd.size); obtain ⟨a0, a1, a2, a3, a4, a5, a6, d0, d1, d2, d3, d4, d5, d6, d7, al, cl⟩ := keepF _ Bd)
          | (go_at_call 11; with_reducible refine (vx _ Bd).mono ?_; rintro e wn ⟨rfl, kn⟩; have Bd := Bd.trans (kn.mono Bd.size); obtain ⟨a0, a1, a2, a3, a4, a5, a6, d0, d1, d2, d3, d4, d5, d6, d7, al, cl⟩ := keepF _ Bd)
          | (go_at_call 15; refine (sA _ Bd).mono ?_; rintro e wn ⟨q3, rfl, On, kn⟩; have O3 := On.in.arg; have Bd := Bd.trans (kn.mono Bd.size); obtain ⟨a0, a1, a2, a3, a4, a5, a6, d0, d1, d2, d3, d4, d5, d6, d7, al, cl⟩ := keepF _ Bd)
          | (go_at_call 16; refine (sW q3 _ O3 Bd).mono ?_; rintro e wn ⟨rfl, kn⟩; have Bd := Bd.trans (kn.mono Bd.size); obtain ⟨a0, a1, a2, a3, a4, a5, a6, d0, d1, d2, d3, d4, d5, d6, d7, al, cl⟩ := keepF _ Bd))
        all_goals
          go_wp2_with fail
          go_ret
          exact ⟨rfl, L10.trans (Bd.mono L10.size)⟩
    · obtain rfl : D = 0 := by simpa using eD
      obtain ⟨hwf, hab, hba, hyes⟩ := Hgb.out rfl
      have cF := cYf
      have cY1 := cYa
      have cY2 := cYb
      have cy := cyy
      rw [hwf] at cF
      rw [hab] at cY1
      rw [hba] at cY2
      rw [hyes] at cy
      clear cyy cYf cYa cYb Hgb hwf hab hba hyes
      have keep8 : ∀ w', Below W10.heap.size W10 w' → w'.cell? ⟨w9.heap.size, 0, none⟩ = some (.int .i64 z.t) ∧ w'.cell? ⟨w9.heap.size, 1, none⟩ = some (.int .i64 z.s) ∧ w'.cell? ⟨w9.heap.size, 2, none⟩ = some (.slice p3.u z.us.length p3.uc) ∧ w'.cell? ⟨w9.heap.size, 3, none⟩ = some (.slice p3.f z.fs.length p3.fc) ∧ w'.cell? ⟨w9.heap.size, 4, none⟩ = some (.slice p3.a z.fa.length p3.ac) ∧ w'.cell? ⟨w9.heap.size, 5, none⟩ = some (.slice p3.s z.se.length p3.sc) ∧ w'.cell? ⟨w9.heap.size, 6, none⟩ = some (.slice p3.o z.oo.length p3.oc) ∧ w'.cell? ⟨w7.heap.size, 0, none⟩ = some (.int .i64 0) ∧ w'.cell? ⟨w7.heap.size, 1, none⟩ = some (.int .i64 Y.t) ∧ w'.cell? ⟨w7.heap.size, 2, none⟩ = some (.int .i64 Y.s) ∧ w'.cell? ⟨w7.heap.size, 3, none⟩ = some (.slice q2.u Y.us.length q2.uc) ∧ w'.cell? ⟨w7.heap.size, 4, none⟩ = some (.slice q2.f Y.fs.length q2.fc) ∧ w'.cell? ⟨w7.heap.size, 5, none⟩ = some (.slice q2.a Y.fa.length q2.ac) ∧ w'.cell? ⟨w7.heap.size, 6, none⟩ = some (.slice q2.s Y.se.length q2.sc) ∧ w'.cell? ⟨w7.heap.size, 7, none⟩ = some (.slice q2.o Y.oo.length q2.oc) ∧ w'.cell? ⟨w5.heap.size, 0, none⟩ = some (.int .i64 y.t) ∧ w'.cell? ⟨w5.heap.size, 1, none⟩ = some (.int .i64 y.s) ∧ w'.cell? ⟨w5.heap.size, 2, none⟩ = some (.slice p2.u y.us.length p2.uc) ∧ w'.cell? ⟨w5.heap.size, 3, none⟩ = some (.slice p2.f y.fs.length p2.fc) ∧ w'.cell? ⟨w5.heap.size, 4, none⟩ = some (.slice p2.a y.fa.length p2.ac) ∧ w'.cell? ⟨w5.heap.size, 5, none⟩ = some (.slice p2.s y.se.length p2.sc) ∧ w'.cell? ⟨w5.heap.size, 6, none⟩ = some (.slice p2.o y.oo.length p2.oc) ∧ w1.heap.size < w'.heap.size ∧ w3.heap.size < w'.heap.size ∧ w5.heap.size < w'.heap.size ∧ w7.heap.size < w'.heap.size ∧ w9.heap.size < w'.heap.size := fun w' h => by
        have P7 := X8.out.below (J10.trans (h.mono J10.size))
        obtain ⟨z0, z1, z2, z3, z4, z5, z6, l5⟩ := (X10.out.below h).c7
        obtain ⟨y0, y1, y2, y3, y4, y5, y6, l3⟩ := (X6.out.below (M6.trans (h.mono M6.size))).c7
        exact ⟨z0, z1, z2, z3, z4, z5, z6, P7.cell rfl, P7.cell rfl, P7.cell rfl, P7.cell rfl, P7.cell rfl, P7.cell rfl, P7.cell rfl, P7.cell rfl, y0, y1, y2, y3, y4, y5, y6, (X2.out.below (M2.trans (h.mono M2.size))).lt, (X4.out.below (M4.trans (h.mono M4.size))).lt, l3, P7.lt, l5⟩
      have Bc : Below W10.heap.size W10 W10.drew := (Below.refl _ _).drew
      obtain ⟨z0, z1, z2, z3, z4, z5, z6, k0, k1, k2, k3, k4, k5, k6, k7, y0, y1, y2, y3, y4, y5, y6, lt0, lt1, lt2, lt3, lt4⟩ := keep8 _ (Below.refl _ _)
      go_region_held3 (fun w' => w'.cell? ⟨w9.heap.size, 0, none⟩ = some (.int .i64 z.t) ∧ w'.cell? ⟨w9.heap.size, 1, none⟩ = some (.int .i64 z.s) ∧ w'.cell? ⟨w9.heap.size, 2, none⟩ = some (.slice p3.u z.us.length p3.uc) ∧ w'.cell? ⟨w9.heap.size, 3, none⟩ = some (.slice p3.f z.fs.length p3.fc) ∧ w'.cell? ⟨w9.heap.size, 4, none⟩ = some (.slice p3.a z.fa.length p3.ac) ∧ w'.cell? ⟨w9.heap.size, 5, none⟩ = some (.slice p3.s z.se.length p3.sc) ∧ w'.cell? ⟨w9.heap.size, 6, none⟩ = some (.slice p3.o z.oo.length p3.oc) ∧ w'.cell? ⟨w7.heap.size, 0, none⟩ = some (.int .i64 0) ∧ w'.cell? ⟨w7.heap.size, 1, none⟩ = some (.int .i64 Y.t) ∧ w'.cell? ⟨w7.heap.size, 2, none⟩ = some (.int .i64 Y.s) ∧ w'.cell? ⟨w7.heap.size, 3, none⟩ = some (.slice q2.u Y.us.length q2.uc) ∧ w'.cell? ⟨w7.heap.size, 4, none⟩ = some (.slice q2.f Y.fs.length q2.fc) ∧ w'.cell? ⟨w7.heap.size, 5, none⟩ = some (.slice q2.a Y.fa.length q2.ac) ∧ w'.cell? ⟨w7.heap.size, 6, none⟩ = some (.slice q2.s Y.se.length q2.sc) ∧ w'.cell? ⟨w7.heap.size, 7, none⟩ = some (.slice q2.o Y.oo.length q2.oc) ∧ w'.cell? ⟨w5.heap.size, 0, none⟩ = some (.int .i64 y.t) ∧ w'.cell? ⟨w5.heap.size, 1, none⟩ = some (.int .i64 y.s) ∧ w'.cell? ⟨w5.heap.size, 2, none⟩ = some (.slice p2.u y.us.length p2.uc) ∧ w'.cell? ⟨w5.heap.size, 3, none⟩ = some (.slice p2.f y.fs.length p2.fc) ∧ w'.cell? ⟨w5.heap.size, 4, none⟩ = some (.slice p2.a y.fa.length p2.ac) ∧ w'.cell? ⟨w5.heap.size, 5, none⟩ = some (.slice p2.s y.se.length p2.sc) ∧ w'.cell? ⟨w5.heap.size, 6, none⟩ = some (.slice p2.o y.oo.length p2.oc)) (first | exact (by obtain ⟨z0, z1, z2, z3, z4, z5, z6, k0, k1, k2, k3, k4, k5, k6, k7, y0, y1, y2, y3, y4, y5, y6, _, _, _, _, _⟩ := keep8 _ Bc; exact ⟨z0, z1, z2, z3, z4, z5, z6, k0, k1, k2, k3, k4, k5, k6, k7, y0, y1, y2, y3, y4, y5, y6⟩) | go_keep) (first
        | (go_at_call 11; with_reducible refine (cZ1 _ Bc).mono ?_; rintro e wn ⟨rfl, kn⟩; have Bc := Bc.trans (kn.mono Bc.size); obtain ⟨z0, z1, z2, z3, z4, z5, z6, k0, k1, k2, k3, k4, k5, k6, k7, y0, y1, y2, y3, y4, y5, y6, lt0, lt1, lt2, lt3, lt4⟩ := keep8 _ Bc)
        | (go_at_call 11; with_reducible refine (cZ2 _ Bc).mono ?_; rintro e wn ⟨rfl, kn⟩; have Bc := Bc.trans (kn.mono Bc.size); obtain ⟨z0, z1, z2, z3, z4, z5, z6, k0, k1, k2, k3, k4, k5, k6, k7, y0, y1, y2, y3, y4, y5, y6, lt0, lt1, lt2, lt3, lt4⟩ := keep8 _ Bc)
        | (go_at_call 11; with_reducible refine (cY1 _ Bc).mono ?_; rintro e wn ⟨rfl, kn⟩; have Bc := Bc.trans (kn.mono Bc.size); obtain ⟨z0, z1, z2, z3, z4, z5, z6, k0, k1, k2, k3, k4, k5, k6, k7, y0, y1, y2, y3, y4, y5, y6, lt0, lt1, lt2, lt3, lt4⟩ := keep8 _ Bc)
        | (go_at_call 11; with_reducible refine (cY2 _ Bc).mono ?_; rintro e wn ⟨rfl, kn⟩; have Bc := Bc.trans (kn.mono Bc.size); obtain ⟨z0, z1, z2, z3, z4, z5, z6, k0, k1, k2, k3, k4, k5, k6, k7, y0, y1, y2, y3, y4, y5, y6, lt0, lt1, lt2, lt3, lt4⟩ := keep8 _ Bc)
        | (go_at_call 11; with_reducible refine (cy _ Bc).mono ?_; rintro e wn ⟨rfl, kn⟩; have Bc := Bc.trans (kn.mono Bc.size); obtain ⟨z0, z1, z2, z3, z4, z5, z6, k0, k1, k2, k3, k4, k5, k6, k7, y0, y1, y2, y3, y4, y5, y6, lt0, lt1, lt2, lt3, lt4⟩ := keep8 _ Bc)
        | (go_at_call 14; refine (cF _ Bc).mono ?_; rintro e wn ⟨rfl, kn⟩; have Bc := Bc.trans (kn.mono Bc.size); obtain ⟨z0, z1, z2, z3, z4, z5, z6, k0, k1, k2, k3, k4, k5, k6, k7, y0, y1, y2, y3, y4, y5, y6, lt0, lt1, lt2, lt3, lt4⟩ := keep8 _ Bc)
        | (go_at_call 12; refine (cZ3 _ Bc).mono ?_; rintro e wn ⟨rfl, kn⟩; have Bc := Bc.trans (kn.mono Bc.size); obtain ⟨z0, z1, z2, z3, z4, z5, z6, k0, k1, k2, k3, k4, k5, k6, k7, y0, y1, y2, y3, y4, y5, y6, lt0, lt1, lt2, lt3, lt4⟩ := keep8 _ Bc)
        | (go_at_call 13; refine (cB _ Bc).mono ?_; rintro e wn ⟨qn, rfl, _, _, kn⟩; have Bc := Bc.trans (kn.mono Bc.size); obtain ⟨z0, z1, z2, z3, z4, z5, z6, k0, k1, k2, k3, k4, k5, k6, k7, y0, y1, y2, y3, y4, y5, y6, lt0, lt1, lt2, lt3, lt4⟩ := keep8 _ Bc))
      clear keep8 z0 z1 z2 z3 z4 z5 z6 k0 k1 k2 k3 k4 k5 k6 k7 y0 y1 y2 y3 y4 y5 y6 lt0 lt1 lt2 lt3 lt4
      all_goals
        obtain ⟨w11, Hw11⟩ : ∃ v, Hid (v = wn) := ⟨_, rfl⟩
        rw [← Hw11.out] at Bc ⊢
        clear Hw11
        have M4' : Below W4.heap.size W4 w11 := M4.trans (Bc.mono M4.size)
        have P4 := X4.out.below M4'
        have c0 : w11.cell? ⟨w3.heap.size, 0, none⟩ = some (.int .i64 C) := P4.cell (i := 0) rfl
        have cl := P4.lt
        have B11 : Below W10.heap.size W10 w11 := Bc
        have sA := fun W' (h : Below W10.heap.size W10 W') => HS.out W' (M2.trans (h.mono M2.size))
        clear P4
        cases e2 : C == 0
        · have n7 : (C != 0) = true := by simp only [bne, e2]; rfl
          have nCC : (C == C) = true := by simp
          have keepE : ∀ w', Below W10.heap.size W10 w' → w'.cell? ⟨w1.heap.size, 0, none⟩ = some (.int .i64 x.t) ∧ w'.cell? ⟨w1.heap.size, 1, none⟩ = some (.int .i64 x.s) ∧ w'.cell? ⟨w1.heap.size, 2, none⟩ = some (.slice p.u x.us.length p.uc) ∧ w'.cell? ⟨w1.heap.size, 3, none⟩ = some (.slice p.f x.fs.length p.fc) ∧ w'.cell? ⟨w1.heap.size, 4, none⟩ = some (.slice p.a x.fa.length p.ac) ∧ w'.cell? ⟨w1.heap.size, 5, none⟩ = some (.slice p.s x.se.length p.sc) ∧ w'.cell? ⟨w1.heap.size, 6, none⟩ = some (.slice p.o x.oo.length p.oc) ∧ w'.cell? ⟨w3.heap.size, 0, none⟩ = some (.int .i64 C) ∧ w1.heap.size < w'.heap.size ∧ w3.heap.size < w'.heap.size := fun w' h => by
            have P7 := X4.out.below (M4.trans (h.mono M4.size))
            obtain ⟨a0, a1, a2, a3, a4, a5, a6, l1⟩ := (X2.out.below (M2.trans (h.mono M2.size))).c7
            exact ⟨a0, a1, a2, a3, a4, a5, a6, P7.cell rfl, l1, P7.lt⟩
          obtain ⟨a0, a1, a2, a3, a4, a5, a6, c0, al, cl⟩ := keepE _ Bc
          have Bd : Below W10.heap.size W10 w11.drew := Bc.trans ((Below.refl _ _).drew.mono Bc.size)
          go_upto_region 11 with fail
          go_region_held3 (fun w' => w'.cell? ⟨w1.heap.size, 0, none⟩ = some (.int .i64 x.t) ∧ w'.cell? ⟨w1.heap.size, 1, none⟩ = some (.int .i64 x.s) ∧ w'.cell? ⟨w1.heap.size, 2, none⟩ = some (.slice p.u x.us.length p.uc) ∧ w'.cell? ⟨w1.heap.size, 3, none⟩ = some (.slice p.f x.fs.length p.fc) ∧ w'.cell? ⟨w1.heap.size, 4, none⟩ = some (.slice p.a x.fa.length p.ac) ∧ w'.cell? ⟨w1.heap.size, 5, none⟩ = some (.slice p.s x.se.length p.sc) ∧ w'.cell? ⟨w1.heap.size, 6, none⟩ = some (.slice p.o x.oo.length p.oc) ∧ w'.cell? ⟨w3.heap.size, 0, none⟩ = some (.int .i64 C)) (first | exact (by obtain ⟨a0, a1, a2, a3, a4, a5, a6, c0, _, _⟩ := keepE _ Bd; exact ⟨a0, a1, a2, a3, a4, a5, a6, c0⟩) | go_keep) (first
            | (go_at_call 15; refine (sA _ Bd).mono ?_; rintro e wn ⟨qn, rfl, _, kn⟩; have Bd := Bd.trans (kn.mono Bd.size); obtain ⟨a0, a1, a2, a3, a4, a5, a6, c0, al, cl⟩ := keepE _ Bd))
          all_goals
            go_wp2_with fail
            go_ret
            exact ⟨rfl, L10.trans (Bd.mono L10.size)⟩
        · obtain rfl : C = 0 := by simpa using e2
          obtain ⟨hwf, hab, hba, hno⟩ := Hg.out rfl
          have keepF : ∀ w', Below W10.heap.size W10 w' → w'.cell? ⟨w1.heap.size, 0, none⟩ = some (.int .i64 x.t) ∧ w'.cell? ⟨w1.heap.size, 1, none⟩ = some (.int .i64 x.s) ∧ w'.cell? ⟨w1.heap.size, 2, none⟩ = some (.slice p.u x.us.length p.uc) ∧ w'.cell? ⟨w1.heap.size, 3, none⟩ = some (.slice p.f x.fs.length p.fc) ∧ w'.cell? ⟨w1.heap.size, 4, none⟩ = some (.slice p.a x.fa.length p.ac) ∧ w'.cell? ⟨w1.heap.size, 5, none⟩ = some (.slice p.s x.se.length p.sc) ∧ w'.cell? ⟨w1.heap.size, 6, none⟩ = some (.slice p.o x.oo.length p.oc) ∧ w'.cell? ⟨w3.heap.size, 0, none⟩ = some (.int .i64 0) ∧ w'.cell? ⟨w3.heap.size, 1, none⟩ = some (.int .i64 X.t) ∧ w'.cell? ⟨w3.heap.size, 2, none⟩ = some (.int .i64 X.s) ∧ w'.cell? ⟨w3.heap.size, 3, none⟩ = some (.slice q.u X.us.length q.uc) ∧ w'.cell? ⟨w3.heap.size, 4, none⟩ = some (.slice q.f X.fs.length q.fc) ∧ w'.cell? ⟨w3.heap.size, 5, none⟩ = some (.slice q.a X.fa.length q.ac) ∧ w'.cell? ⟨w3.heap.size, 6, none⟩ = some (.slice q.s X.se.length q.sc) ∧ w'.cell? ⟨w3.heap.size, 7, none⟩ = some (.slice q.o X.oo.length q.oc) ∧ w1.heap.size < w'.heap.size ∧ w3.heap.size < w'.heap.size := fun w' h => by
            have P7 := X4.out.below (M4.trans (h.mono M4.size))
            obtain ⟨a0, a1, a2, a3, a4, a5, a6, l1⟩ := (X2.out.below (M2.trans (h.mono M2.size))).c7
            exact ⟨a0, a1, a2, a3, a4, a5, a6, P7.cell rfl, P7.cell rfl, P7.cell rfl, P7.cell rfl, P7.cell rfl, P7.cell rfl, P7.cell rfl, P7.cell rfl, l1, P7.lt⟩
          have vF := fun W' (h : Below W10.heap.size W10 W') => implWorldFault q X HO4.out.in.o1 HO4.out.in.o2 W' (HO4.out.later (M4.trans (h.mono M4.size))).in.arg
          have vA := fun W' (h : Below W10.heap.size W10 W') => implAreAllies q X HO4.out.in.o1 HO4.out.in.o2 W' (HO4.out.later (M4.trans (h.mono M4.size))).in.arg i j
          have vB := fun W' (h : Below W10.heap.size W10 W') => implAreAllies q X HO4.out.in.o1 HO4.out.in.o2 W' (HO4.out.later (M4.trans (h.mono M4.size))).in.arg j i
          have vx := fun W' (h : Below W10.heap.size W10 W') => implAreAllies p x HO2.out.in.o1 HO2.out.in.o2 W' (HO2.out.later (M2.trans (h.mono M2.size))).in.arg i j
          rw [hwf] at vF
          rw [hab] at vA
          rw [hba] at vB
          rw [hno] at vx
          have z := good_sz hwf
          have sW := fun (q3 : WP) W' (O3 : ArgW W' q3 X) (h : Below W10.heap.size W10 W') => sameW_in q q3 X W' (HO4.out.later (M4.trans (h.mono M4.size))).in.arg O3 z.u z.f z.a z.s z.o
          clear hwf hab hba hno z e2
          obtain ⟨a0, a1, a2, a3, a4, a5, a6, d0, d1, d2, d3, d4, d5, d6, d7, al, cl⟩ := keepF _ Bc
          clear c0
          have Bd : Below W10.heap.size W10 w11.drew := Bc.trans ((Below.refl _ _).drew.mono Bc.size)
          go_upto_region 12 with fail
          go_region_held3 (fun w' => w'.cell? ⟨w1.heap.size, 0, none⟩ = some (.int .i64 x.t) ∧ w'.cell? ⟨w1.heap.size, 1, none⟩ = some (.int .i64 x.s) ∧ w'.cell? ⟨w1.heap.size, 2, none⟩ = some (.slice p.u x.us.length p.uc) ∧ w'.cell? ⟨w1.heap.size, 3, none⟩ = some (.slice p.f x.fs.length p.fc) ∧ w'.cell? ⟨w1.heap.size, 4, none⟩ = some (.slice p.a x.fa.length p.ac) ∧ w'.cell? ⟨w1.heap.size, 5, none⟩ = some (.slice p.s x.se.length p.sc) ∧ w'.cell? ⟨w1.heap.size, 6, none⟩ = some (.slice p.o x.oo.length p.oc) ∧ w'.cell? ⟨w3.heap.size, 0, none⟩ = some (.int .i64 0) ∧ w'.cell? ⟨w3.heap.size, 1, none⟩ = some (.int .i64 X.t) ∧ w'.cell? ⟨w3.heap.size, 2, none⟩ = some (.int .i64 X.s) ∧ w'.cell? ⟨w3.heap.size, 3, none⟩ = some (.slice q.u X.us.length q.uc) ∧ w'.cell? ⟨w3.heap.size, 4, none⟩ = some (.slice q.f X.fs.length q.fc) ∧ w'.cell? ⟨w3.heap.size, 5, none⟩ = some (.slice q.a X.fa.length q.ac) ∧ w'.cell? ⟨w3.heap.size, 6, none⟩ = some (.slice q.s X.se.length q.sc) ∧ w'.cell? ⟨w3.heap.size, 7, none⟩ = some (.slice q.o X.oo.length q.oc)) (first | exact (by obtain ⟨a0, a1, a2, a3, a4, a5, a6, d0, d1, d2, d3, d4, d5, d6, d7, _, _⟩ := keepF _ Bd; exact ⟨a0, a1, a2, a3, a4, a5, a6, d0, d1, d2, d3, d4, d5, d6, d7⟩) | go_keep) (first
            | (go_at_call 14; refine (vF _ Bd).mono ?_; rintro e wn ⟨rfl, kn⟩; have Bd := Bd.trans (kn.mono Bd.size); obtain ⟨a0, a1, a2, a3, a4, a5, a6, d0, d1, d2, d3, d4, d5, d6, d7, al, cl⟩ := keepF _ Bd)
            | (go_at_call 11; with_reducible refine (vA _ Bd).mono ?_; rintro e wn ⟨rfl, kn⟩; have Bd := Bd.trans (kn.mono Bd.size); obtain ⟨a0, a1, a2, a3, a4, a5, a6, d0, d1, d2, d3, d4, d5, d6, d7, al, cl⟩ := keepF _ Bd)
            | (go_at_call 11; with_reducible refine (vB _ Bd).mono ?_; rintro e wn ⟨rfl, kn⟩; have Bd := Bd.trans (kn.mono Bd.size); obtain ⟨a0, a1, a2, a3, a4, a5, a6, d0, d1, d2, d3, d4, d5, d6, d7, al, cl⟩ := keepF _ Bd)
            | (go_at_call 11; with_reducible refine (vx _ Bd).mono ?_; rintro e wn ⟨rfl, kn⟩; have Bd := Bd.trans (kn.mono Bd.size); obtain ⟨a0, a1, a2, a3, a4, a5, a6, d0, d1, d2, d3, d4, d5, d6, d7, al, cl⟩ := keepF _ Bd)
            | (go_at_call 15; refine (sA _ Bd).mono ?_; rintro e wn ⟨q3, rfl, On, kn⟩; have O3 := On.in.arg; have Bd := Bd.trans (kn.mono Bd.size); obtain ⟨a0, a1, a2, a3, a4, a5, a6, d0, d1, d2, d3, d4, d5, d6, d7, al, cl⟩ := keepF _ Bd)
            | (go_at_call 16; refine (sW q3 _ O3 Bd).mono ?_; rintro e wn ⟨rfl, kn⟩; have Bd := Bd.trans (kn.mono Bd.size); obtain ⟨a0, a1, a2, a3, a4, a5, a6, d0, d1, d2, d3, d4, d5, d6, d7, al, cl⟩ := keepF _ Bd))
          all_goals
            go_wp2_with fail
            go_ret
            exact ⟨rfl, L10.trans (Bd.mono L10.size)⟩
  · go_enter Tryz.func3, Tryz.ntmps3
    go_wp2_with (go_at_call 5; refine (lwBig_yes _ a len cap (by omega)).mono ?_; rintro e w1 ⟨rfl, hw1⟩; obtain rfl := hw1.symm)
    go_ret
    exact ⟨rfl, Below.refl _ _⟩
end Go.Proofs.YtmfdggaijbcijaaGreat
end
