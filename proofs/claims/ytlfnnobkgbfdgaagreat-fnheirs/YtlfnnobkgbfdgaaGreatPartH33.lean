/- Texts of mine put together (a claim holds at most 60 files): HandImpl. -/
import Derived.Test.YtlfnnobkgbfdgaaGreatPartH24
import Derived.Test.YtlfnnobkgbfdgaaGreatPartH29

/- HandImpl -/
/- The contracts of withoutJob and handedTo (as in GiveImpl). No condition. -/
section
namespace Go.Proofs.YtlfnnobkgbfdgaaGreat
open Go.ChangeShapes Go.WideShapes Go.ChangeAt Go.RowKit
open Bd
set_option linter.unusedVariables false

theorem set10_blk {W : World} {g : Nat} {y : K10} {t : TypeId} (R : Blk W g y.v t) (x : K10) : Blk (set10 W g x) g x.v t := by
  have s0 : Blk _ g #[.int .i64 x.c0, .int .i64 y.c1, .int .i64 y.c2, .int .i64 y.c3, .int .i64 y.c4, .int .i64 y.c5, .int .i64 y.c6, .int .i64 y.c7, .int .i64 y.c8, .int .i64 y.c9] t := R.set 0 (.int .i64 x.c0)
  have s1 : Blk _ g #[.int .i64 x.c0, .int .i64 x.c1, .int .i64 y.c2, .int .i64 y.c3, .int .i64 y.c4, .int .i64 y.c5, .int .i64 y.c6, .int .i64 y.c7, .int .i64 y.c8, .int .i64 y.c9] t := s0.set 1 (.int .i64 x.c1)
  have s2 : Blk _ g #[.int .i64 x.c0, .int .i64 x.c1, .int .i64 x.c2, .int .i64 y.c3, .int .i64 y.c4, .int .i64 y.c5, .int .i64 y.c6, .int .i64 y.c7, .int .i64 y.c8, .int .i64 y.c9] t := s1.set 2 (.int .i64 x.c2)
  have s3 : Blk _ g #[.int .i64 x.c0, .int .i64 x.c1, .int .i64 x.c2, .int .i64 x.c3, .int .i64 y.c4, .int .i64 y.c5, .int .i64 y.c6, .int .i64 y.c7, .int .i64 y.c8, .int .i64 y.c9] t := s2.set 3 (.int .i64 x.c3)
  have s4 : Blk _ g #[.int .i64 x.c0, .int .i64 x.c1, .int .i64 x.c2, .int .i64 x.c3, .int .i64 x.c4, .int .i64 y.c5, .int .i64 y.c6, .int .i64 y.c7, .int .i64 y.c8, .int .i64 y.c9] t := s3.set 4 (.int .i64 x.c4)
  have s5 : Blk _ g #[.int .i64 x.c0, .int .i64 x.c1, .int .i64 x.c2, .int .i64 x.c3, .int .i64 x.c4, .int .i64 x.c5, .int .i64 y.c6, .int .i64 y.c7, .int .i64 y.c8, .int .i64 y.c9] t := s4.set 5 (.int .i64 x.c5)
  have s6 : Blk _ g #[.int .i64 x.c0, .int .i64 x.c1, .int .i64 x.c2, .int .i64 x.c3, .int .i64 x.c4, .int .i64 x.c5, .int .i64 x.c6, .int .i64 y.c7, .int .i64 y.c8, .int .i64 y.c9] t := s5.set 6 (.int .i64 x.c6)
  have s7 : Blk _ g #[.int .i64 x.c0, .int .i64 x.c1, .int .i64 x.c2, .int .i64 x.c3, .int .i64 x.c4, .int .i64 x.c5, .int .i64 x.c6, .int .i64 x.c7, .int .i64 y.c8, .int .i64 y.c9] t := s6.set 7 (.int .i64 x.c7)
  have s8 : Blk _ g #[.int .i64 x.c0, .int .i64 x.c1, .int .i64 x.c2, .int .i64 x.c3, .int .i64 x.c4, .int .i64 x.c5, .int .i64 x.c6, .int .i64 x.c7, .int .i64 x.c8, .int .i64 y.c9] t := s7.set 8 (.int .i64 x.c8)
  have s9 : Blk _ g #[.int .i64 x.c0, .int .i64 x.c1, .int .i64 x.c2, .int .i64 x.c3, .int .i64 x.c4, .int .i64 x.c5, .int .i64 x.c6, .int .i64 x.c7, .int .i64 x.c8, .int .i64 x.c9] t := s8.set 9 (.int .i64 x.c9)
  exact s9
theorem set10_below {n : Nat} {w W : World} {g : Nat} (h : Below n w W) (hg : n ≤ g) (x : K10) : Below n w (set10 W g x) :=
  (bel_set (bel_set (bel_set (bel_set (bel_set (bel_set (bel_set (bel_set (bel_set (bel_set h g 0 hg (.int .i64 x.c0)) g 1 hg (.int .i64 x.c1)) g 2 hg (.int .i64 x.c2)) g 3 hg (.int .i64 x.c3)) g 4 hg (.int .i64 x.c4)) g 5 hg (.int .i64 x.c5)) g 6 hg (.int .i64 x.c6)) g 7 hg (.int .i64 x.c7)) g 8 hg (.int .i64 x.c8)) g 9 hg (.int .i64 x.c9))
theorem set10_other {W : World} {g q : Nat} {cs : Array Value} {t : TypeId} (h : Blk W q cs t) (hq : q ≠ g) (x : K10) : Blk (set10 W g x) q cs t :=
  ((((((((((h.setOther (a := ⟨g, 0, none⟩) hq _).setOther (a := ⟨g, 1, none⟩) hq _).setOther (a := ⟨g, 2, none⟩) hq _).setOther (a := ⟨g, 3, none⟩) hq _).setOther (a := ⟨g, 4, none⟩) hq _).setOther (a := ⟨g, 5, none⟩) hq _).setOther (a := ⟨g, 6, none⟩) hq _).setOther (a := ⟨g, 7, none⟩) hq _).setOther (a := ⟨g, 8, none⟩) hq _).setOther (a := ⟨g, 9, none⟩) hq _)
set_option maxRecDepth 20000 in
set_option maxHeartbeats 8000000 in
theorem withoutJob_g (u : K10) (w : World) :
    Calls Tryz.prog 113 #[.agg u.v] w fun e w' => e = .returned (.agg (idle u).v) ∧ Below w.heap.size w w' := by
  obtain ⟨W1, HW1⟩ : ∃ W1, Hid (W1 = (w.alloc (.cells u.v 68)).alloc (.cells #[.int .i64 0, .int .i64 0, .int .i64 0, .int .i64 0, .int .i64 0, .int .i64 0, .int .i64 0, .int .i64 0, .int .i64 0, .int .i64 0] 68)) := ⟨_, rfl⟩
  have B1 : Below w.heap.size w W1 := by rw [HW1.out]; exact ((Below.refl _ _).alloc (Nat.le_refl _) _).alloc (by rw [size_new]; omega) _
  have P : Blk W1 w.heap.size u.v 68 := by rw [HW1.out]; have h := Bk.new w u.v 68; exact (h.alloc _)
  have R : Blk W1 (w.heap.size + 1) K10.z.v 68 := by rw [HW1.out]; have h := Blk.new (w.alloc (.cells u.v 68)) K10.z.v 68; rw [size_new] at h; exact h
  obtain ⟨W2, HW2⟩ : ∃ W2, Hid (W2 = (((W1.setCell ⟨w.heap.size, 6, none⟩ (.int .i64 0)).setCell ⟨w.heap.size, 7, none⟩ (.int .i64 0)).setCell ⟨w.heap.size, 8, none⟩ (.int .i64 0)).setCell ⟨w.heap.size, 9, none⟩ (.int .i64 0)) := ⟨_, rfl⟩
  have hne : w.heap.size + 1 ≠ w.heap.size := by omega
  have P2 : Blk W2 w.heap.size (idle u).v 68 := by
    rw [HW2.out]
    have q6 : Blk _ w.heap.size #[.int .i64 u.c0, .int .i64 u.c1, .int .i64 u.c2, .int .i64 u.c3, .int .i64 u.c4, .int .i64 u.c5, .int .i64 0, .int .i64 u.c7, .int .i64 u.c8, .int .i64 u.c9] 68 := P.set 6 (.int .i64 0)
    have q7 : Blk _ w.heap.size #[.int .i64 u.c0, .int .i64 u.c1, .int .i64 u.c2, .int .i64 u.c3, .int .i64 u.c4, .int .i64 u.c5, .int .i64 0, .int .i64 0, .int .i64 u.c8, .int .i64 u.c9] 68 := q6.set 7 (.int .i64 0)
    have q8 : Blk _ w.heap.size #[.int .i64 u.c0, .int .i64 u.c1, .int .i64 u.c2, .int .i64 u.c3, .int .i64 u.c4, .int .i64 u.c5, .int .i64 0, .int .i64 0, .int .i64 0, .int .i64 u.c9] 68 := q7.set 8 (.int .i64 0)
    have q9 : Blk _ w.heap.size #[.int .i64 u.c0, .int .i64 u.c1, .int .i64 u.c2, .int .i64 u.c3, .int .i64 u.c4, .int .i64 u.c5, .int .i64 0, .int .i64 0, .int .i64 0, .int .i64 0] 68 := q8.set 9 (.int .i64 0)
    exact q9
  have R2 : Blk W2 (w.heap.size + 1) K10.z.v 68 := by rw [HW2.out]; exact (((R.setOther (a := ⟨w.heap.size, 6, none⟩) hne _).setOther (a := ⟨w.heap.size, 7, none⟩) hne _).setOther (a := ⟨w.heap.size, 8, none⟩) hne _).setOther (a := ⟨w.heap.size, 9, none⟩) hne _
  have B2 : Below w.heap.size w W2 := by rw [HW2.out]; exact bel_set (bel_set (bel_set (bel_set B1 _ _ (Nat.le_refl _) _) _ _ (Nat.le_refl _) _) _ _ (Nat.le_refl _) _) _ _ (Nat.le_refl _) _
  have R3 := set10_blk R2 (idle u)
  have B3 := set10_below B2 (show w.heap.size ≤ w.heap.size + 1 by omega) (idle u)
  have z6 := P.frozen 6
  have z7 := P.frozen 7
  have z8 := P.frozen 8
  have z9 := P.frozen 9
  obtain ⟨s0, s1, s2, s3, s4, s5, s6, s7, s8, s9, sl⟩ := P.unit
  clear B1 R
  go_enter Tryz.func113, Tryz.ntmps113
  go_upto_region 1 with fail
  rw [← HW1.out]
  go_upto_region 2 with fail
  rw [← HW2.out]
  clear s0 s1 s2 s3 s4 s5 s6 s7 s8 s9 sl z6 z7 z8 z9
  obtain ⟨s0, s1, s2, s3, s4, s5, s6, s7, s8, s9, sl⟩ := P2.unit
  have y0 := R2.frozen 0
  have y1 := R2.frozen 1
  have y2 := R2.frozen 2
  have y3 := R2.frozen 3
  have y4 := R2.frozen 4
  have y5 := R2.frozen 5
  have y6 := R2.frozen 6
  have y7 := R2.frozen 7
  have y8 := R2.frozen 8
  have y9 := R2.frozen 9
  obtain ⟨d0, d1, d2, d3, d4, d5, d6, d7, d8, d9, dl⟩ := R2.unit
  go_wp2_with fail
  exact bodyPost_ret (v := .agg (idle u).v) (resultU Tryz.results113 R3 _ rfl) rfl ⟨rfl, B3⟩
set_option maxRecDepth 20000 in
set_option maxHeartbeats 8000000 in
theorem handedTo_c (o : Int) (u : K10) (w : World) :
    Calls Tryz.prog 90 #[.int .i64 o, .agg u.v] w fun e w' => e = .returned (.agg (handed u o).v) ∧ Below w.heap.size w w' := by
  obtain ⟨W1, HW1⟩ : ∃ W1, Hid (W1 = (w.alloc (.cells u.v 68)).alloc (.cells #[.int .i64 0, .int .i64 0, .int .i64 0, .int .i64 0, .int .i64 0, .int .i64 0, .int .i64 0, .int .i64 0, .int .i64 0, .int .i64 0] 68)) := ⟨_, rfl⟩
  have B1 : Below w.heap.size w W1 := by rw [HW1.out]; exact ((Below.refl _ _).alloc (Nat.le_refl _) _).alloc (by rw [size_new]; omega) _
  have P : Blk W1 w.heap.size u.v 68 := by rw [HW1.out]; have h := Bk.new w u.v 68; exact (h.alloc _)
  have R : Blk W1 (w.heap.size + 1) K10.z.v 68 := by rw [HW1.out]; have h := Blk.new (w.alloc (.cells u.v 68)) K10.z.v 68; rw [size_new] at h; exact h
  have cW := withoutJob_g u W1
  have hne : w.heap.size + 1 ≠ w.heap.size := by omega
  obtain ⟨s0, s1, s2, s3, s4, s5, s6, s7, s8, s9, sl⟩ := P.unit
  go_enter Tryz.func90, Tryz.ntmps90
  go_upto_region 1 with fail
  rw [← HW1.out]
  go_wp2_with fail
  refine cW.mono ?_
  rintro e w1 ⟨rfl, k1⟩
  have P1 := P.below k1
  have R1 := R.below k1
  have B2 := B1.trans (k1.mono B1.size)
  clear s0 s1 s2 s3 s4 s5 s6 s7 s8 s9 sl cW
  obtain ⟨W2, HW2⟩ : ∃ W2, Hid (W2 = ((((((((((w1.setCell ⟨w.heap.size, 0, none⟩ (.int .i64 (idle u).c0)).setCell ⟨w.heap.size, 1, none⟩ (.int .i64 (idle u).c1)).setCell ⟨w.heap.size, 2, none⟩ (.int .i64 (idle u).c2)).setCell ⟨w.heap.size, 3, none⟩ (.int .i64 (idle u).c3)).setCell ⟨w.heap.size, 4, none⟩ (.int .i64 (idle u).c4)).setCell ⟨w.heap.size, 5, none⟩ (.int .i64 (idle u).c5)).setCell ⟨w.heap.size, 6, none⟩ (.int .i64 (idle u).c6)).setCell ⟨w.heap.size, 7, none⟩ (.int .i64 (idle u).c7)).setCell ⟨w.heap.size, 8, none⟩ (.int .i64 (idle u).c8)).setCell ⟨w.heap.size, 9, none⟩ (.int .i64 (idle u).c9))) := ⟨_, rfl⟩
  have P2 : Blk W2 w.heap.size (idle u).v 68 := by rw [HW2.out]; exact set10_blk P1 (idle u)
  have R2 : Blk W2 (w.heap.size + 1) K10.z.v 68 := by rw [HW2.out]; exact set10_other R1 hne (idle u)
  have B3 : Below w.heap.size w W2 := by rw [HW2.out]; exact set10_below B2 (Nat.le_refl _) (idle u)
  obtain ⟨W3, HW3⟩ : ∃ W3, Hid (W3 = W2.setCell ⟨w.heap.size, 1, none⟩ (.int .i64 o)) := ⟨_, rfl⟩
  have P3 : Blk W3 w.heap.size (handed u o).v 68 := by
    rw [HW3.out]
    have q1 : Blk _ w.heap.size #[.int .i64 u.c0, .int .i64 o, .int .i64 u.c2, .int .i64 u.c3, .int .i64 u.c4, .int .i64 u.c5, .int .i64 0, .int .i64 0, .int .i64 0, .int .i64 0] 68 := P2.set 1 (.int .i64 o)
    exact q1
  have R3 : Blk W3 (w.heap.size + 1) K10.z.v 68 := by rw [HW3.out]; exact R2.setOther (a := ⟨w.heap.size, 1, none⟩) hne _
  have B4 : Below w.heap.size w W3 := by rw [HW3.out]; exact bel_set B3 _ _ (Nat.le_refl _) _
  have R4 := set10_blk R3 (handed u o)
  have B5 := set10_below B4 (show w.heap.size ≤ w.heap.size + 1 by omega) (handed u o)
  obtain ⟨s0, s1, s2, s3, s4, s5, s6, s7, s8, s9, sl⟩ := P1.unit
  have z0 := P1.frozen 0
  have z1 := P1.frozen 1
  have z2 := P1.frozen 2
  have z3 := P1.frozen 3
  have z4 := P1.frozen 4
  have z5 := P1.frozen 5
  have z6 := P1.frozen 6
  have z7 := P1.frozen 7
  have z8 := P1.frozen 8
  have z9 := P1.frozen 9
  go_upto_region 2 with fail
  rw [← HW2.out]
  clear s0 s1 s2 s3 s4 s5 s6 s7 s8 s9 sl z0 z1 z2 z3 z4 z5 z6 z7 z8 z9
  obtain ⟨s0, s1, s2, s3, s4, s5, s6, s7, s8, s9, sl⟩ := P2.unit
  have z0 := P2.frozen 0
  have z1 := P2.frozen 1
  have z2 := P2.frozen 2
  have z3 := P2.frozen 3
  have z4 := P2.frozen 4
  have z5 := P2.frozen 5
  have z6 := P2.frozen 6
  have z7 := P2.frozen 7
  have z8 := P2.frozen 8
  have z9 := P2.frozen 9
  go_upto_region 3 with fail
  rw [← HW3.out]
  clear s0 s1 s2 s3 s4 s5 s6 s7 s8 s9 sl z0 z1 z2 z3 z4 z5 z6 z7 z8 z9
  obtain ⟨s0, s1, s2, s3, s4, s5, s6, s7, s8, s9, sl⟩ := P3.unit
  have y0 := R3.frozen 0
  have y1 := R3.frozen 1
  have y2 := R3.frozen 2
  have y3 := R3.frozen 3
  have y4 := R3.frozen 4
  have y5 := R3.frozen 5
  have y6 := R3.frozen 6
  have y7 := R3.frozen 7
  have y8 := R3.frozen 8
  have y9 := R3.frozen 9
  obtain ⟨d0, d1, d2, d3, d4, d5, d6, d7, d8, d9, dl⟩ := R3.unit
  go_wp2_with fail
  exact bodyPost_ret (v := .agg (handed u o).v) (resultU Tryz.results90 R4 _ rfl) rfl ⟨rfl, B5⟩
end Go.Proofs.YtlfnnobkgbfdgaaGreat
end
