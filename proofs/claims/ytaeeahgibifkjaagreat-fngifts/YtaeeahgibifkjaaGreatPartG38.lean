/- Texts of mine put together (a claim holds at most 60 files): WldGive. -/
import Derived.Test.YtaeeahgibifkjaaGreatPartG37

/- WldGive -/
/- The contract of DrawGiveUnit. Condition: the code has at most 1048576 bytes, which can be read. -/
section
namespace Go.Proofs.YtaeeahgibifkjaaGreat
open Go.ChangeShapes Go.WideShapes Go.ChangeAt Go.RowKit
open Bd
set_option linter.unusedVariables false

theorem set10_blk {W : World} {g : Nat} {y : K10} {t : TypeId} (R : Blk W g y.v t) (x : K10) : Blk (set10 W g x) g x.v t := by
  have s0 : Blk _ g #[.int .i64 x.c0, .int .i64 y.c1, .int .i64 y.c2, .int .i64 y.c3, .int .i64 y.c4, .int .i64 y.c5, .int .i64 y.c6, .int .i64 y.c7, .int .i64 y.c8, .int .i64 y.c9] t := R.set 0 (.int .i64 x.c0)
  have s1 : Blk _ g #[.int .i64 x.c0, .int .i64 x.c1, .int .i64 y.c2, .int .i64 y.c3, .int .i64 y.c4, .int .i64 y.c5, .int .i64 y.c6, .int .i64 y.c7, .int .i64 y.c8, .int .i64 y.c9] t := s0.set 1 (.int .i64 x.c1)
  have s2 : Blk _ g #[.int .i64 x.c0, .int .i64 x.c1, .int .i64 x.c2, .int .i64 y.c3, .int .i64 y.c4, .int .i64 y.c5, .int .i64 y.c6, .int .i64 y.c7, .int .i64 y.c8, .int .i64 y.c9] t := s1.set 2 (.int .i64 x.c2)
  have s3 : Blk _ g #[.int .i64 x.c0, .int .i64 x.c1, .int .i64 x.c2, .int .i64 x.c3, .int .i64 y.c4, .int .i64 y.c5, .int .i64 y.c6, .int .i64 y.c7, .int .i64 y.c8, .int .i64 y.c9] t := s2.set 3 (.int .i64 x.c3)
  have s4 : Blk _ g #[.int .i64 x.c0, .int .i64 x.c1, .int .i64 x.c2, .int .i64 x.c3, .int .i64 x.c4, .int .i64 y.c5, .int .i64 y.c6, .int .i64 y.c7, .int .i64 y.c8, .int .i64 y.c9] t := s3.set 4 (.int .i64 x.c4)
  have s5 : Blk _ g #[.int .i64 x.c0, .int .i64 x.c1, .int .i64 x.c2, .int .i64 x.c3, .int .i64 x.c4, .int .i64 x.c5, .int .i64 y.c6, .int .i64 y.c7, .int .i64 y.c8, .int .i64 y.c9] t := s4.set 5 (.int .i64 x.c5)
  have s6 : Blk _ g #[.int .i64 x.c0, .int .i64 x.c1, .int .i64 x.c2, .int .i64 x.c3, .int .i64 x.c4, .int .i64 x.c5, .int .i64 x.c6, .int .i64 y.c7, .int .i64 y.c8, .int .i64 y.c9] t := s5.set 6 (.int .i64 x.c6)
  have s7 : Blk _ g #[.int .i64 x.c0, .int .i64 x.c1, .int .i64 x.c2, .int .i64 x.c3, .int .i64 x.c4, .int .i64 x.c5, .int .i64 x.c6, .int .i64 x.c7, .int .i64 y.c8, .int .i64 y.c9] t := s6.set 7 (.int .i64 x.c7)
  have s8 : Blk _ g #[.int .i64 x.c0, .int .i64 x.c1, .int .i64 x.c2, .int .i64 x.c3, .int .i64 x.c4, .int .i64 x.c5, .int .i64 x.c6, .int .i64 x.c7, .int .i64 x.c8, .int .i64 y.c9] t := s7.set 8 (.int .i64 x.c8)
  have s9 : Blk _ g #[.int .i64 x.c0, .int .i64 x.c1, .int .i64 x.c2, .int .i64 x.c3, .int .i64 x.c4, .int .i64 x.c5, .int .i64 x.c6, .int .i64 x.c7, .int .i64 x.c8, .int .i64 x.c9] t := s8.set 9 (.int .i64 x.c9)
  exact s9
theorem set10_below {n : Nat} {w W : World} {g : Nat} (h : Below n w W) (hg : n ≤ g) (x : K10) : Below n w (set10 W g x) :=
  (bel_set (bel_set (bel_set (bel_set (bel_set (bel_set (bel_set (bel_set (bel_set (bel_set h g 0 hg (.int .i64 x.c0)) g 1 hg (.int .i64 x.c1)) g 2 hg (.int .i64 x.c2)) g 3 hg (.int .i64 x.c3)) g 4 hg (.int .i64 x.c4)) g 5 hg (.int .i64 x.c5)) g 6 hg (.int .i64 x.c6)) g 7 hg (.int .i64 x.c7)) g 8 hg (.int .i64 x.c8)) g 9 hg (.int .i64 x.c9))
structure JG6 (w W3 : World) (rb B : Nat) (y : K10) (j : Int) (p : WP) (x : KW) (d : Nat → Bool) (x3 x4 x5 x43 x44 x45 x46 x47 x48 : Value) (W : World) : Prop where
  f0 : d 0 = true → x43 = .agg (p.v x)
  f1 : d 1 = true → x44 = .pointer (some ⟨B, 1, none⟩)
  f2 : d 2 = true → x45 = .int .i64 y.c1
  f3 : d 3 = true → x46 = .pointer (some ⟨B, 0, none⟩)
  f4 : d 4 = true → x47 = .int .i64 y.c0
  f5 : d 5 = true → x48 = .int .i64 j
  f7 : d 7 = true → x3 = .int .i64 y.c1
  f8 : d 8 = true → x4 = .int .i64 y.c0
  f9 : d 9 = true → x5 = .int .i64 j
  Y : Blk W B y.v 54
  A : d 6 = false → Below W3.heap.size W3 W
  G : d 6 = true → Blk W rb (p.v x) 32 ∧ OwW W w.heap.size p x ∧ Below w.heap.size w W
structure JGu (W3 w3 w6 : World) (wb mu : Nat) (u : Option Addr) (uc : Nat) (us : List K10) (a0 : Option Addr) (len cap : Nat) (d : Nat → Bool) (x11 x32 x33 x34 x35 x36 x37 x38 x39 x40 x41 x42 : Value) (W : World) : Prop where
  f0 : d 0 = true → x32 = .pointer (some ⟨wb, 2, none⟩)
  f1 : d 1 = true → x33 = .pointer (some ⟨wb, 2, none⟩)
  f2 : d 2 = true → x34 = .slice u mu uc
  f3 : d 3 = true → x35 = .pointer (some ⟨W3.heap.size, 0, none⟩)
  f4 : d 4 = true → x36 = .pointer (some ⟨wb, 2, none⟩)
  f5 : d 5 = true → x37 = .pointer (some ⟨wb, 2, none⟩)
  f6 : d 6 = true → x38 = .slice u mu uc
  f7 : d 7 = true → x39 = .int .i64 mu
  f8 : d 8 = true → ∃ n : Nat, x40 = .int .i64 n ∧ n < mu
  f9 : d 9 = true → d 10 = false → ∃ b off, ∃ n : Nat, ∃ y : K10, us[n]? = some y ∧ x41 = .pointer (some ⟨b, off + n * 10, none⟩) ∧ U1 W b (off + n * 10) y
  f10 : d 10 = true → ∃ y : K10, y ∈ us ∧ x42 = .agg y.v
  f11 : d 11 = true → ∃ B, w6.heap.size ≤ B ∧ x11 = .pointer (some ⟨B, 0, none⟩) ∧ (d 12 = false → Blk W B K10.z.v 54) ∧ (d 12 = true → ∃ y : K10, y ∈ us ∧ Blk W B y.v 54)
  A : d 8 = false → Dn W3 w3 W a0 len cap 28
  B : Below W3.heap.size W3 W
  Z : w6.heap.size ≤ W.heap.size
set_option maxRecDepth 20000 in
set_option maxHeartbeats 32000000 in
theorem drawGiveUnit_c (w : World) (a0 : Option Addr) (len cap : Nat) (hb : Bytes w a0 len w.heap.size) (hl : len ≤ 1048576) :
    Calls Tryz.prog 29 #[.slice a0 len cap] w fun e w' => ∃ p x i k j, e = .returned (.tuple #[.agg (WP.v p x), .int .i64 i, .int .i64 k, .int .i64 j]) ∧ OwW w' w.heap.size p x ∧ DW x ∧ Below w.heap.size w w' ∧ ((1 ≤ k ∧ k ≤ 7) ∨ ∃ y ∈ x.us, k = y.c0) := by
  obtain ⟨W1, HW1⟩ : ∃ W1, Hid (W1 = w.alloc (.cells zW 32)) := ⟨_, rfl⟩
  have A0 : Below w.heap.size w W1 := by rw [HW1.out]; exact (Below.refl _ _).alloc (Nat.le_refl _) _
  have R0 : Blk W1 w.heap.size zW 32 := by rw [HW1.out]; exact Blk.new w zW 32
  have cD := l7Draw_c W1 a0 len cap (hb.later A0) hl
  have hs1 := A0.size
  have Hb : Hid (Bytes w a0 len w.heap.size) := hb
  clear hb
  go_enter Tryz.func29, Tryz.ntmps29
  go_upto_region 1 with fail
  rw [← HW1.out]
  go_wp2_with fail
  refine cD.mono ?_
  rintro e w2 ⟨p, x, i, j, rfl, O2, dw, B2⟩
  obtain ⟨t, s, us, fs, fa, se, oo⟩ := x
  obtain ⟨u, uc, f, fc, a, ac, q, qc, r, rc⟩ := p
  obtain ⟨W3, HW3⟩ : ∃ W3, Hid (W3 = w2.alloc (.cells (wv t s u us.length uc f fs.length fc a fa.length ac q se.length qc r oo.length rc) 32)) := ⟨_, rfl⟩
  have B3 : Below w2.heap.size w2 W3 := by rw [HW3.out]; exact (Below.refl _ _).alloc (Nat.le_refl _) _
  have G3 : Blk W3 w2.heap.size (wv t s u us.length uc f fs.length fc a fa.length ac q se.length qc r oo.length rc) 32 := by rw [HW3.out]; exact Blk.new w2 _ _
  have R3 := (R0.below B2).below B3
  have O3 := O2.later B3
  have Bw : Below w.heap.size w W3 := A0.trans ((B2.trans (B3.mono B2.size)).mono hs1)
  have cx : Cx W3 a0 len := ⟨Hb.out.later Bw, hl⟩
  have HG : Hid (Blk W3 w2.heap.size (wv t s u us.length uc f fs.length fc a fa.length ac q se.length qc r oo.length rc) 32) := G3
  have HR : Hid (Blk W3 w.heap.size zW 32) := R3
  have HO : Hid (OwW W3 W1.heap.size ⟨u, uc, f, fc, a, ac, q, qc, r, rc⟩ ⟨t, s, us, fs, fa, se, oo⟩) := O3
  have HB : Hid (Below w.heap.size w W3) := Bw
  have Hdw : Hid (DW ⟨t, s, us, fs, fa, se, oo⟩) := dw
  have hus : us.length ≤ 8 := dw.u
  have hsW := Bw.size
  clear cD O2 B2 B3 R0 G3 R3 O3 Bw dw A0 hl
  go_upto_region 2 with fail
  rw [← HW3.out]
  go_wp2_with fail
  refine (later_c W3 a0 len cap 3 (by omega) (by omega)).mono ?_
  rintro e w3 ⟨rfl, st3⟩
  have d3 := Dn.begin (by omega) st3
  clear st3
  go_wp2_with fail
  refine (drawsD cx d3 7 (by omega) (by omega) (by omega)).mono ?_
  rintro e w4 ⟨k, rfl, k0, k1, d4, g4⟩
  clear d3 g4
  have K4 := d4.below
  have fin : ∀ W, Below W3.heap.size W3 W → Blk (st7 W w.heap.size ⟨u, uc, f, fc, a, ac, q, qc, r, rc⟩ ⟨t, s, us, fs, fa, se, oo⟩) w.heap.size (wv t s u us.length uc f fs.length fc a fa.length ac q se.length qc r oo.length rc) 32 ∧ OwW (st7 W w.heap.size ⟨u, uc, f, fc, a, ac, q, qc, r, rc⟩ ⟨t, s, us, fs, fa, se, oo⟩) w.heap.size ⟨u, uc, f, fc, a, ac, q, qc, r, rc⟩ ⟨t, s, us, fs, fa, se, oo⟩ ∧ Below w.heap.size w (st7 W w.heap.size ⟨u, uc, f, fc, a, ac, q, qc, r, rc⟩ ⟨t, s, us, fs, fa, se, oo⟩) := fun W hW => fill7 (HR.out.below hW) (HO.out.later hW) (HB.out.trans (hW.mono hsW)) (Nat.le_refl _) hs1
  obtain ⟨q0, q1, q2, q3, q4, q5, q6, ql⟩ := (HG.out.below K4).c7
  by_cases hz : us.length = 0
  · obtain rfl : us = [] := List.eq_nil_of_length_eq_zero hz
    simp only [List.length_nil] at q2
    obtain ⟨F1, F2, F3⟩ := fin w4 K4
    dsimp only [st7, WP.v, List.length_nil] at F1 F2 F3
    obtain ⟨y0, y1, y2, y3, y4, y5, y6, z0, z1, z2, z3, z4, z5, z6, rl⟩ := (HR.out.below K4).z7
    clear hz hus fin
    go_wp2_with fail
    obtain ⟨c0, c1, c2, c3, c4, c5, c6, cl⟩ := F1.c7
    refine bodyPost_ret (v := .tuple #[.agg (wv t s u 0 uc f fs.length fc a fa.length ac q se.length qc r oo.length rc), .int .i64 i, .int .i64 (1 + k), .int .i64 j]) ?_ rfl ⟨⟨u, uc, f, fc, a, ac, q, qc, r, rc⟩, ⟨t, s, [], fs, fa, se, oo⟩, i, 1 + k, j, rfl, F2, Hdw.out, F3, .inl ⟨by omega, by omega⟩⟩
    simp [results, Tryz.results29, go_sem, c0, c1, c2, c3, c4, c5, c6]
    done
  · have hzi : 0 < ((us.length : Int)) := by omega
    have cC := chanceD cx d4 2 (by omega) (by omega) (by omega)
    go_wp2_with fail
    refine cC.mono ?_
    rintro e w6 ⟨b, rfl, d6, g6⟩
    clear cC g6 d4 q0 q1 q2 q3 q4 q5 q6 ql
    have K6 := d6.below
    obtain ⟨q0, q1, q2, q3, q4, q5, q6, ql⟩ := (HG.out.below K6).c7
    cases b
    · obtain ⟨F1, F2, F3⟩ := fin w6 K6
      obtain ⟨y0, y1, y2, y3, y4, y5, y6, z0, z1, z2, z3, z4, z5, z6, rl⟩ := (HR.out.below K6).z7
      clear fin
      go_wp2_with fail
      obtain ⟨c0, c1, c2, c3, c4, c5, c6, cl⟩ := F1.c7
      refine bodyPost_ret (v := .tuple #[.agg (wv t s u us.length uc f fs.length fc a fa.length ac q se.length qc r oo.length rc), .int .i64 i, .int .i64 (1 + k), .int .i64 j]) ?_ rfl ⟨⟨u, uc, f, fc, a, ac, q, qc, r, rc⟩, ⟨t, s, us, fs, fa, se, oo⟩, i, 1 + k, j, rfl, F2, Hdw.out, F3, .inl ⟨by omega, by omega⟩⟩
      simp [results, Tryz.results29, go_sem, c0, c1, c2, c3, c4, c5, c6]
      done
    · obtain ⟨mu, Hmu⟩ : ∃ m, Hid (us.length = m) := ⟨_, rfl⟩
      rw [Hmu.out] at q2 hus hz hzi
      clear q0 q1 q2 q3 q4 q5 q6 ql
      go_upto_region 5 with fail
      have HD : Hid (Dn W3 w3 w6.drew a0 len cap 28) := (d6.mono (by omega)).drew
      have h6 : W3.heap.size < w6.heap.size := d6.le
      clear d6
      refine wp_region_slots (by kernel_rfl) 11 (fun d xs W => ∃ x11 y12 y13 y14 y15 y16 y17 y18 y19 y20 y21 y22 y23 y24 y25 y26 y27 y28 y29 y30 y31 x32 x33 x34 x35 x36 x37 x38 x39 x40 x41 x42, xs = [x11, y12, y13, y14, y15, y16, y17, y18, y19, y20, y21, y22, y23, y24, y25, y26, y27, y28, y29, y30, y31, x32, x33, x34, x35, x36, x37, x38, x39, x40, x41, x42] ∧ JGu W3 w3 w6 w2.heap.size mu u uc us a0 len cap d x11 x32 x33 x34 x35 x36 x37 x38 x39 x40 x41 x42 W) (by kernel_rfl) [_, _, _, _, _, _, _, _, _, _, _, _, _, _, _, _, _, _, _, _, _, _, _, _, _, _, _, _, _, _, _, _] rfl ?_ ?_ ?_
      · exact ⟨_, _, _, _, _, _, _, _, _, _, _, _, _, _, _, _, _, _, _, _, _, _, _, _, _, _, _, _, _, _, _, _, rfl, ⟨(fun h => by cases h), (fun h => by cases h), (fun h => by cases h), (fun h => by cases h), (fun h => by cases h), (fun h => by cases h), (fun h => by cases h), (fun h => by cases h), (fun h => by cases h), (fun h => by cases h), (fun h => by cases h), (fun h => by cases h), fun _ => HD.out, HD.out.below, Nat.le_refl _⟩⟩
      · rintro d xs Wx i1 K hi hd hdep hcl ⟨x11, y12, y13, y14, y15, y16, y17, y18, y19, y20, y21, y22, y23, y24, y25, y26, y27, y28, y29, y30, y31, x32, x33, x34, x35, x36, x37, x38, x39, x40, x41, x42, rfl, J⟩ hK
        have hi' : i1 < 13 := hi
        have hdp : ∀ j, (depsOf _ i1).contains j = true → d j = true := fun j hj => hdep j (by simpa using hj)
        clear hi hdep
        have h18 : i1 = 0 ∨ i1 = 1 ∨ i1 = 2 ∨ i1 = 3 ∨ i1 = 4 ∨ i1 = 5 ∨ i1 = 6 ∨ i1 = 7 ∨ i1 = 8 ∨ i1 = 9 ∨ i1 = 10 ∨ i1 = 11 ∨ i1 = 12 := by omega
        rcases h18 with rfl | rfl | rfl | rfl | rfl | rfl | rfl | rfl | rfl | rfl | rfl | rfl | rfl
        · refine wpOp_of rfl rfl ?_
          dsimp only [win, List.take_succ_cons, List.take_zero, List.drop_succ_cons, List.drop_zero, List.cons_append, List.nil_append, List.length_cons, List.length_nil, Nat.reduceAdd]
          go_simp
          exact hK [x11, y12, y13, y14, y15, y16, y17, y18, y19, y20, y21, y22, y23, y24, y25, y26, y27, y28, y29, y30, y31, (.pointer (some ⟨w2.heap.size, 2, none⟩)), x33, x34, x35, x36, x37, x38, x39, x40, x41, x42] _ ⟨_, _, _, _, _, _, _, _, _, _, _, _, _, _, _, _, _, _, _, _, _, _, _, _, _, _, _, _, _, _, _, _, rfl, ⟨(fun _ => rfl), J.f1, J.f2, J.f3, J.f4, J.f5, J.f6, J.f7, J.f8, J.f9, J.f10, J.f11, J.A, J.B, J.Z⟩⟩
        · obtain rfl := J.f0 (hdp 0 (by kernel_rfl))
          refine wpOp_of rfl rfl ?_
          dsimp only [win, List.take_succ_cons, List.take_zero, List.drop_succ_cons, List.drop_zero, List.cons_append, List.nil_append, List.length_cons, List.length_nil, Nat.reduceAdd]
          go_simp
          exact hK [x11, y12, y13, y14, y15, y16, y17, y18, y19, y20, y21, y22, y23, y24, y25, y26, y27, y28, y29, y30, y31, (.pointer (some ⟨w2.heap.size, 2, none⟩)), (.pointer (some ⟨w2.heap.size, 2, none⟩)), x34, x35, x36, x37, x38, x39, x40, x41, x42] _ ⟨_, _, _, _, _, _, _, _, _, _, _, _, _, _, _, _, _, _, _, _, _, _, _, _, _, _, _, _, _, _, _, _, rfl, ⟨J.f0, (fun _ => rfl), J.f2, J.f3, J.f4, J.f5, J.f6, J.f7, J.f8, J.f9, J.f10, J.f11, J.A, J.B, J.Z⟩⟩
        · obtain rfl := J.f1 (hdp 1 (by kernel_rfl))
          have q2 : Wx.cell? ⟨w2.heap.size, 2, none⟩ = some (.slice u mu uc) := by have := (HG.out.below J.B).c7.c2; rw [Hmu.out] at this; exact this
          refine wpOp_of rfl rfl ?_
          dsimp only [win, List.take_succ_cons, List.take_zero, List.drop_succ_cons, List.drop_zero, List.cons_append, List.nil_append, List.length_cons, List.length_nil, Nat.reduceAdd]
          go_simp
          exact hK [x11, y12, y13, y14, y15, y16, y17, y18, y19, y20, y21, y22, y23, y24, y25, y26, y27, y28, y29, y30, y31, x32, (.pointer (some ⟨w2.heap.size, 2, none⟩)), (.slice u mu uc), x35, x36, x37, x38, x39, x40, x41, x42] _ ⟨_, _, _, _, _, _, _, _, _, _, _, _, _, _, _, _, _, _, _, _, _, _, _, _, _, _, _, _, _, _, _, _, rfl, ⟨J.f0, J.f1, (fun _ => rfl), J.f3, J.f4, J.f5, J.f6, J.f7, J.f8, J.f9, J.f10, J.f11, J.A, J.B, J.Z⟩⟩
        · refine wpOp_of rfl rfl ?_
          dsimp only [win, List.take_succ_cons, List.take_zero, List.drop_succ_cons, List.drop_zero, List.cons_append, List.nil_append, List.length_cons, List.length_nil, Nat.reduceAdd]
          go_simp
          exact hK [x11, y12, y13, y14, y15, y16, y17, y18, y19, y20, y21, y22, y23, y24, y25, y26, y27, y28, y29, y30, y31, x32, x33, x34, (.pointer (some ⟨W3.heap.size, 0, none⟩)), x36, x37, x38, x39, x40, x41, x42] _ ⟨_, _, _, _, _, _, _, _, _, _, _, _, _, _, _, _, _, _, _, _, _, _, _, _, _, _, _, _, _, _, _, _, rfl, ⟨J.f0, J.f1, J.f2, (fun _ => rfl), J.f4, J.f5, J.f6, J.f7, J.f8, J.f9, J.f10, J.f11, J.A, J.B, J.Z⟩⟩
        · refine wpOp_of rfl rfl ?_
          dsimp only [win, List.take_succ_cons, List.take_zero, List.drop_succ_cons, List.drop_zero, List.cons_append, List.nil_append, List.length_cons, List.length_nil, Nat.reduceAdd]
          go_simp
          exact hK [x11, y12, y13, y14, y15, y16, y17, y18, y19, y20, y21, y22, y23, y24, y25, y26, y27, y28, y29, y30, y31, x32, x33, x34, x35, (.pointer (some ⟨w2.heap.size, 2, none⟩)), x37, x38, x39, x40, x41, x42] _ ⟨_, _, _, _, _, _, _, _, _, _, _, _, _, _, _, _, _, _, _, _, _, _, _, _, _, _, _, _, _, _, _, _, rfl, ⟨J.f0, J.f1, J.f2, J.f3, (fun _ => rfl), J.f5, J.f6, J.f7, J.f8, J.f9, J.f10, J.f11, J.A, J.B, J.Z⟩⟩
        · obtain rfl := J.f4 (hdp 4 (by kernel_rfl))
          refine wpOp_of rfl rfl ?_
          dsimp only [win, List.take_succ_cons, List.take_zero, List.drop_succ_cons, List.drop_zero, List.cons_append, List.nil_append, List.length_cons, List.length_nil, Nat.reduceAdd]
          go_simp
          exact hK [x11, y12, y13, y14, y15, y16, y17, y18, y19, y20, y21, y22, y23, y24, y25, y26, y27, y28, y29, y30, y31, x32, x33, x34, x35, (.pointer (some ⟨w2.heap.size, 2, none⟩)), (.pointer (some ⟨w2.heap.size, 2, none⟩)), x38, x39, x40, x41, x42] _ ⟨_, _, _, _, _, _, _, _, _, _, _, _, _, _, _, _, _, _, _, _, _, _, _, _, _, _, _, _, _, _, _, _, rfl, ⟨J.f0, J.f1, J.f2, J.f3, J.f4, (fun _ => rfl), J.f6, J.f7, J.f8, J.f9, J.f10, J.f11, J.A, J.B, J.Z⟩⟩
        · obtain rfl := J.f5 (hdp 5 (by kernel_rfl))
          have q2 : Wx.cell? ⟨w2.heap.size, 2, none⟩ = some (.slice u mu uc) := by have := (HG.out.below J.B).c7.c2; rw [Hmu.out] at this; exact this
          refine wpOp_of rfl rfl ?_
          dsimp only [win, List.take_succ_cons, List.take_zero, List.drop_succ_cons, List.drop_zero, List.cons_append, List.nil_append, List.length_cons, List.length_nil, Nat.reduceAdd]
          go_simp
          exact hK [x11, y12, y13, y14, y15, y16, y17, y18, y19, y20, y21, y22, y23, y24, y25, y26, y27, y28, y29, y30, y31, x32, x33, x34, x35, x36, (.pointer (some ⟨w2.heap.size, 2, none⟩)), (.slice u mu uc), x39, x40, x41, x42] _ ⟨_, _, _, _, _, _, _, _, _, _, _, _, _, _, _, _, _, _, _, _, _, _, _, _, _, _, _, _, _, _, _, _, rfl, ⟨J.f0, J.f1, J.f2, J.f3, J.f4, J.f5, (fun _ => rfl), J.f7, J.f8, J.f9, J.f10, J.f11, J.A, J.B, J.Z⟩⟩
        · obtain rfl := J.f6 (hdp 6 (by kernel_rfl))
          refine wpOp_of rfl rfl ?_
          dsimp only [win, List.take_succ_cons, List.take_zero, List.drop_succ_cons, List.drop_zero, List.cons_append, List.nil_append, List.length_cons, List.length_nil, Nat.reduceAdd]
          go_simp
          exact hK [x11, y12, y13, y14, y15, y16, y17, y18, y19, y20, y21, y22, y23, y24, y25, y26, y27, y28, y29, y30, y31, x32, x33, x34, x35, x36, x37, (.slice u mu uc), (.int .i64 (mu : Int)), x40, x41, x42] _ ⟨_, _, _, _, _, _, _, _, _, _, _, _, _, _, _, _, _, _, _, _, _, _, _, _, _, _, _, _, _, _, _, _, rfl, ⟨J.f0, J.f1, J.f2, J.f3, J.f4, J.f5, J.f6, (fun _ => rfl), J.f8, J.f9, J.f10, J.f11, J.A, J.B, J.Z⟩⟩
        · obtain rfl := J.f3 (hdp 3 (by kernel_rfl))
          obtain rfl := J.f7 (hdp 7 (by kernel_rfl))
          have dA := J.A hd
          refine wpOp_of rfl rfl ?_
          dsimp only [win, List.take_succ_cons, List.take_zero, List.drop_succ_cons, List.drop_zero, List.cons_append, List.nil_append, List.length_cons, List.length_nil, Nat.reduceAdd]
          refine call_wp 59 #[.pointer (some ⟨W3.heap.size, 0, none⟩), .int .i64 (mu : Int)] (by kernel_rfl) _ (drawsD cx dA mu (by omega) (by omega) (by omega)) ?_
          rintro e w7 ⟨n, rfl, n0, n1, d7, g7⟩
          refine ⟨_, rfl, ?_⟩
          have hn : ((n.toNat : Nat) : Int) = n := Int.toNat_of_nonneg n0
          have hz7 := g7.size
          have h8 : d 9 = false := hcl.no 9 hd (by kernel_rfl)
          exact hK [x11, y12, y13, y14, y15, y16, y17, y18, y19, y20, y21, y22, y23, y24, y25, y26, y27, y28, y29, y30, y31, x32, x33, x34, (.pointer (some ⟨W3.heap.size, 0, none⟩)), x36, x37, x38, (.int .i64 (mu : Int)), (.int .i64 n), x41, x42] _ ⟨_, _, _, _, _, _, _, _, _, _, _, _, _, _, _, _, _, _, _, _, _, _, _, _, _, _, _, _, _, _, _, _, rfl, ⟨J.f0, J.f1, J.f2, J.f3, J.f4, J.f5, J.f6, J.f7, (fun _ => ⟨n.toNat, by rw [hn], by omega⟩), (fun h _ => by have h' : d 9 = true := h; rw [h8] at h'; cases h'), J.f10, (fun h => by obtain ⟨B, hB, e, bz, by_⟩ := J.f11 h; exact ⟨B, hB, e, fun h => (bz h).grown g7 (fun e => by have := Option.some.inj e; omega), fun h => by obtain ⟨y, hy, b⟩ := by_ h; exact ⟨y, hy, b.grown g7 (fun e => by have := Option.some.inj e; omega)⟩⟩), (fun h => by simp [upd] at h), d7.below, (Nat.le_trans J.Z hz7)⟩⟩
        · obtain rfl := J.f2 (hdp 2 (by kernel_rfl))
          obtain ⟨n, rfl, hn⟩ := J.f8 (hdp 8 (by kernel_rfl))
          obtain ⟨y, hy⟩ : ∃ y, us[n]? = some y := ⟨_, List.getElem?_eq_getElem (by have := Hmu.out; omega)⟩
          obtain ⟨pb, ob, hpb, hpl, hat⟩ := (HO.out.later J.B).in.u.arg.at hy
          dsimp only at hpb
          subst hpb
          have hU := hat.one hpl hy
          have hnI : (n : Int) < (mu : Int) := by omega
          refine wpOp_of rfl rfl ?_
          dsimp only [win, List.take_succ_cons, List.take_zero, List.drop_succ_cons, List.drop_zero, List.cons_append, List.nil_append, List.length_cons, List.length_nil, Nat.reduceAdd]
          go_simp
          exact hK [x11, y12, y13, y14, y15, y16, y17, y18, y19, y20, y21, y22, y23, y24, y25, y26, y27, y28, y29, y30, y31, x32, x33, (.slice (some ⟨pb, ob, none⟩) mu uc), x35, x36, x37, x38, x39, (.int .i64 (n : Int)), (.pointer (some ⟨pb, ob + n * 10, none⟩)), x42] _ ⟨_, _, _, _, _, _, _, _, _, _, _, _, _, _, _, _, _, _, _, _, _, _, _, _, _, _, _, _, _, _, _, _, rfl, ⟨J.f0, J.f1, J.f2, J.f3, J.f4, J.f5, J.f6, J.f7, J.f8, (fun _ _ => ⟨pb, ob, n, y, hy, rfl, hU⟩), J.f10, J.f11, J.A, J.B, J.Z⟩⟩
        · obtain ⟨pb, ob, n, y, hy, rfl, hU⟩ := J.f9 (hdp 9 (by kernel_rfl)) hd
          obtain ⟨u0, u1, u2, u3, u4, u5, u6, u7, u8, u9, ul⟩ := hU
          refine wpOp_of rfl rfl ?_
          dsimp only [win, List.take_succ_cons, List.take_zero, List.drop_succ_cons, List.drop_zero, List.cons_append, List.nil_append, List.length_cons, List.length_nil, Nat.reduceAdd]
          go_simp
          exact hK [x11, y12, y13, y14, y15, y16, y17, y18, y19, y20, y21, y22, y23, y24, y25, y26, y27, y28, y29, y30, y31, x32, x33, x34, x35, x36, x37, x38, x39, x40, (.pointer (some ⟨pb, ob + n * 10, none⟩)), (.agg y.v)] _ ⟨_, _, _, _, _, _, _, _, _, _, _, _, _, _, _, _, _, _, _, _, _, _, _, _, _, _, _, _, _, _, _, _, rfl, ⟨J.f0, J.f1, J.f2, J.f3, J.f4, J.f5, J.f6, J.f7, J.f8, (fun _ h => by cases h), (fun _ => ⟨y, List.mem_of_getElem? hy, rfl⟩), J.f11, J.A, J.B, J.Z⟩⟩
        · have hz := J.Z
          have bel : Below Wx.heap.size Wx (Wx.alloc (.cells K10.z.v 54)) := (Below.refl _ _).alloc (Nat.le_refl _) _
          have h12 : d 12 = false := hcl.no 12 hd (by kernel_rfl)
          refine wpOp_of rfl rfl ?_
          dsimp only [win, List.take_succ_cons, List.take_zero, List.drop_succ_cons, List.drop_zero, List.cons_append, List.nil_append, List.length_cons, List.length_nil, Nat.reduceAdd]
          go_simp
          exact hK [(.pointer (some ⟨Wx.heap.size, 0, none⟩)), y12, y13, y14, y15, y16, y17, y18, y19, y20, y21, y22, y23, y24, y25, y26, y27, y28, y29, y30, y31, x32, x33, x34, x35, x36, x37, x38, x39, x40, x41, x42] _ ⟨_, _, _, _, _, _, _, _, _, _, _, _, _, _, _, _, _, _, _, _, _, _, _, _, _, _, _, _, _, _, _, _, rfl, ⟨J.f0, J.f1, J.f2, J.f3, J.f4, J.f5, J.f6, J.f7, J.f8, (fun h h2 => by obtain ⟨pb, ob, n, y, hy, e, hU⟩ := J.f9 h h2; exact ⟨pb, ob, n, y, hy, e, hU.later bel⟩), J.f10, (fun _ => ⟨_, hz, rfl, fun _ => Blk.new _ _ _, fun h => by have h' : d 12 = true := h; rw [h12] at h'; cases h'⟩), (fun h => (J.A h).alloc _), (J.B.alloc J.B.size _), (Nat.le_trans hz bel.size)⟩⟩
        · obtain ⟨y, hy, rfl⟩ := J.f10 (hdp 10 (by kernel_rfl))
          obtain ⟨B, hB, rfl, bz, _⟩ := J.f11 (hdp 11 (by kernel_rfl))
          have b0 := bz hd
          have zz := fun i => b0.frozen i
          obtain ⟨v0, v1, v2, v3, v4, v5, v6, v7, v8, v9, vl⟩ := b0.unit
          have f0 := zz 0
          have f1 := zz 1
          have f2 := zz 2
          have f3 := zz 3
          have f4 := zz 4
          have f5 := zz 5
          have f6 := zz 6
          have f7 := zz 7
          have f8 := zz 8
          have f9 := zz 9
          have hd10 : d 10 = true := hdp 10 (by kernel_rfl)
          have hd8 : d 8 = true := by cases h : d 8 with | true => rfl | false => exact absurd hd10 (by rw [hcl.no 13 h (i := 10) (by kernel_rfl)]; decide)
          have Fb := set10_blk b0 y
          refine wpOp_of rfl rfl ?_
          dsimp only [win, List.take_succ_cons, List.take_zero, List.drop_succ_cons, List.drop_zero, List.cons_append, List.nil_append, List.length_cons, List.length_nil, Nat.reduceAdd]
          go_simp
          exact hK [(.pointer (some ⟨B, 0, none⟩)), y12, y13, y14, y15, y16, y17, y18, y19, y20, y21, y22, y23, y24, y25, y26, y27, y28, y29, y30, y31, x32, x33, x34, x35, x36, x37, x38, x39, x40, x41, (.agg y.v)] _ ⟨_, _, _, _, _, _, _, _, _, _, _, _, _, _, _, _, _, _, _, _, _, _, _, _, _, _, _, _, _, _, _, _, rfl, ⟨J.f0, J.f1, J.f2, J.f3, J.f4, J.f5, J.f6, J.f7, J.f8, (fun _ h => by have h' : d 10 = false := h; rw [hd10] at h'; cases h'), J.f10, (fun _ => ⟨B, hB, rfl, (fun h => by cases h), fun _ => ⟨y, hy, Fb⟩⟩), (fun h => by have h' : d 8 = false := h; rw [hd8] at h'; cases h'), (set10_below J.B (by omega) y), (Nat.le_trans J.Z (Nat.le_of_eq (by simp [World.setCell])))⟩⟩
      · rintro d xs Wx hall ⟨x11, y12, y13, y14, y15, y16, y17, y18, y19, y20, y21, y22, y23, y24, y25, y26, y27, y28, y29, y30, y31, x32, x33, x34, x35, x36, x37, x38, x39, x40, x41, x42, rfl, J⟩
        obtain ⟨B, hB, rfl, _, by_⟩ := J.f11 (hall 11 (by decide))
        obtain ⟨y, hy, b0⟩ := by_ (hall 12 (by decide))
        have K7 := J.B
        clear J hall
        dsimp only [win, List.take_succ_cons, List.take_zero, List.drop_succ_cons, List.drop_zero, List.cons_append, List.nil_append, List.length_cons, List.length_nil, Nat.reduceAdd]
        have HY : Hid (Blk Wx B y.v 54) := b0
        have hrb := HR.out.lt
        go_upto_region 6 with fail
        refine wp_region_slots (by kernel_rfl) 3 (fun d xs W => ∃ x3 x4 x5 z7 z9 z10 z12 z13 z14 z15 z16 z17 z18 z19 z20 z21 z22 z23 z24 z25 z26 z27 z28 z29 z30 z31 z32 z33 z34 z35 z36 z37 z38 z39 z40 z41 z42 x43 x44 x45 x46 x47 x48, xs = [x3, x4, x5, (.pointer (some ⟨w2.heap.size, 0, none⟩)), z7, (.int .i64 j), z9, z10, (.pointer (some ⟨B, 0, none⟩)), z12, z13, z14, z15, z16, z17, z18, z19, z20, z21, z22, z23, z24, z25, z26, z27, z28, z29, z30, z31, z32, z33, z34, z35, z36, z37, z38, z39, z40, z41, z42, x43, x44, x45, x46, x47, x48] ∧ JG6 w W3 w.heap.size B y j ⟨u, uc, f, fc, a, ac, q, qc, r, rc⟩ ⟨t, s, us, fs, fa, se, oo⟩ d x3 x4 x5 x43 x44 x45 x46 x47 x48 W) (by kernel_rfl) [_, _, _, _, _, _, _, _, _, _, _, _, _, _, _, _, _, _, _, _, _, _, _, _, _, _, _, _, _, _, _, _, _, _, _, _, _, _, _, _, _, _, _, _, _, _] rfl ?_ ?_ ?_
        · exact ⟨_, _, _, _, _, _, _, _, _, _, _, _, _, _, _, _, _, _, _, _, _, _, _, _, _, _, _, _, _, _, _, _, _, _, _, _, _, _, _, _, _, _, _, rfl, ⟨(fun h => by cases h), (fun h => by cases h), (fun h => by cases h), (fun h => by cases h), (fun h => by cases h), (fun h => by cases h), (fun h => by cases h), (fun h => by cases h), (fun h => by cases h), HY.out.drew, fun _ => K7.drew, (fun h => by cases h)⟩⟩
        · rintro d xs Wz i1 K hi hd hdep hcl ⟨x3, x4, x5, z7, z9, z10, z12, z13, z14, z15, z16, z17, z18, z19, z20, z21, z22, z23, z24, z25, z26, z27, z28, z29, z30, z31, z32, z33, z34, z35, z36, z37, z38, z39, z40, z41, z42, x43, x44, x45, x46, x47, x48, rfl, J⟩ hK
          have hi' : i1 < 10 := hi
          have hdp : ∀ j, (depsOf _ i1).contains j = true → d j = true := fun j hj => hdep j (by simpa using hj)
          clear hi hdep
          have h18 : i1 = 0 ∨ i1 = 1 ∨ i1 = 2 ∨ i1 = 3 ∨ i1 = 4 ∨ i1 = 5 ∨ i1 = 6 ∨ i1 = 7 ∨ i1 = 8 ∨ i1 = 9 := by omega
          rcases h18 with rfl | rfl | rfl | rfl | rfl | rfl | rfl | rfl | rfl | rfl
          · have K8 := J.A (hcl.no 10 hd (by kernel_rfl))
            obtain ⟨q0, q1, q2, q3, q4, q5, q6, ql⟩ := (HG.out.below K8).c7
            refine wpOp_of rfl rfl ?_
            dsimp only [win, List.take_succ_cons, List.take_zero, List.drop_succ_cons, List.drop_zero, List.cons_append, List.nil_append, List.length_cons, List.length_nil, Nat.reduceAdd]
            go_simp
            exact hK [x3, x4, x5, (.pointer (some ⟨w2.heap.size, 0, none⟩)), z7, (.int .i64 j), z9, z10, (.pointer (some ⟨B, 0, none⟩)), z12, z13, z14, z15, z16, z17, z18, z19, z20, z21, z22, z23, z24, z25, z26, z27, z28, z29, z30, z31, z32, z33, z34, z35, z36, z37, z38, z39, z40, z41, z42, (.agg (wv t s u us.length uc f fs.length fc a fa.length ac q se.length qc r oo.length rc)), x44, x45, x46, x47, x48] _ ⟨_, _, _, _, _, _, _, _, _, _, _, _, _, _, _, _, _, _, _, _, _, _, _, _, _, _, _, _, _, _, _, _, _, _, _, _, _, _, _, _, _, _, _, rfl, ⟨(fun _ => rfl), J.f1, J.f2, J.f3, J.f4, J.f5, J.f7, J.f8, J.f9, J.Y, J.A, J.G⟩⟩
          · refine wpOp_of rfl rfl ?_
            dsimp only [win, List.take_succ_cons, List.take_zero, List.drop_succ_cons, List.drop_zero, List.cons_append, List.nil_append, List.length_cons, List.length_nil, Nat.reduceAdd]
            go_simp
            exact hK [x3, x4, x5, (.pointer (some ⟨w2.heap.size, 0, none⟩)), z7, (.int .i64 j), z9, z10, (.pointer (some ⟨B, 0, none⟩)), z12, z13, z14, z15, z16, z17, z18, z19, z20, z21, z22, z23, z24, z25, z26, z27, z28, z29, z30, z31, z32, z33, z34, z35, z36, z37, z38, z39, z40, z41, z42, x43, (.pointer (some ⟨B, 1, none⟩)), x45, x46, x47, x48] _ ⟨_, _, _, _, _, _, _, _, _, _, _, _, _, _, _, _, _, _, _, _, _, _, _, _, _, _, _, _, _, _, _, _, _, _, _, _, _, _, _, _, _, _, _, rfl, ⟨J.f0, (fun _ => rfl), J.f2, J.f3, J.f4, J.f5, J.f7, J.f8, J.f9, J.Y, J.A, J.G⟩⟩
          · obtain rfl := J.f1 (hdp 1 (by kernel_rfl))
            obtain ⟨v0, v1, v2, v3, v4, v5, v6, v7, v8, v9, vl⟩ := J.Y.unit
            refine wpOp_of rfl rfl ?_
            dsimp only [win, List.take_succ_cons, List.take_zero, List.drop_succ_cons, List.drop_zero, List.cons_append, List.nil_append, List.length_cons, List.length_nil, Nat.reduceAdd]
            go_simp
            exact hK [x3, x4, x5, (.pointer (some ⟨w2.heap.size, 0, none⟩)), z7, (.int .i64 j), z9, z10, (.pointer (some ⟨B, 0, none⟩)), z12, z13, z14, z15, z16, z17, z18, z19, z20, z21, z22, z23, z24, z25, z26, z27, z28, z29, z30, z31, z32, z33, z34, z35, z36, z37, z38, z39, z40, z41, z42, x43, (.pointer (some ⟨B, 1, none⟩)), (.int .i64 y.c1), x46, x47, x48] _ ⟨_, _, _, _, _, _, _, _, _, _, _, _, _, _, _, _, _, _, _, _, _, _, _, _, _, _, _, _, _, _, _, _, _, _, _, _, _, _, _, _, _, _, _, rfl, ⟨J.f0, J.f1, (fun _ => rfl), J.f3, J.f4, J.f5, J.f7, J.f8, J.f9, J.Y, J.A, J.G⟩⟩
          · refine wpOp_of rfl rfl ?_
            dsimp only [win, List.take_succ_cons, List.take_zero, List.drop_succ_cons, List.drop_zero, List.cons_append, List.nil_append, List.length_cons, List.length_nil, Nat.reduceAdd]
            go_simp
            exact hK [x3, x4, x5, (.pointer (some ⟨w2.heap.size, 0, none⟩)), z7, (.int .i64 j), z9, z10, (.pointer (some ⟨B, 0, none⟩)), z12, z13, z14, z15, z16, z17, z18, z19, z20, z21, z22, z23, z24, z25, z26, z27, z28, z29, z30, z31, z32, z33, z34, z35, z36, z37, z38, z39, z40, z41, z42, x43, x44, x45, (.pointer (some ⟨B, 0, none⟩)), x47, x48] _ ⟨_, _, _, _, _, _, _, _, _, _, _, _, _, _, _, _, _, _, _, _, _, _, _, _, _, _, _, _, _, _, _, _, _, _, _, _, _, _, _, _, _, _, _, rfl, ⟨J.f0, J.f1, J.f2, (fun _ => rfl), J.f4, J.f5, J.f7, J.f8, J.f9, J.Y, J.A, J.G⟩⟩
          · obtain rfl := J.f3 (hdp 3 (by kernel_rfl))
            obtain ⟨v0, v1, v2, v3, v4, v5, v6, v7, v8, v9, vl⟩ := J.Y.unit
            refine wpOp_of rfl rfl ?_
            dsimp only [win, List.take_succ_cons, List.take_zero, List.drop_succ_cons, List.drop_zero, List.cons_append, List.nil_append, List.length_cons, List.length_nil, Nat.reduceAdd]
            go_simp
            exact hK [x3, x4, x5, (.pointer (some ⟨w2.heap.size, 0, none⟩)), z7, (.int .i64 j), z9, z10, (.pointer (some ⟨B, 0, none⟩)), z12, z13, z14, z15, z16, z17, z18, z19, z20, z21, z22, z23, z24, z25, z26, z27, z28, z29, z30, z31, z32, z33, z34, z35, z36, z37, z38, z39, z40, z41, z42, x43, x44, x45, (.pointer (some ⟨B, 0, none⟩)), (.int .i64 y.c0), x48] _ ⟨_, _, _, _, _, _, _, _, _, _, _, _, _, _, _, _, _, _, _, _, _, _, _, _, _, _, _, _, _, _, _, _, _, _, _, _, _, _, _, _, _, _, _, rfl, ⟨J.f0, J.f1, J.f2, J.f3, (fun _ => rfl), J.f5, J.f7, J.f8, J.f9, J.Y, J.A, J.G⟩⟩
          · refine wpOp_of rfl rfl ?_
            dsimp only [win, List.take_succ_cons, List.take_zero, List.drop_succ_cons, List.drop_zero, List.cons_append, List.nil_append, List.length_cons, List.length_nil, Nat.reduceAdd]
            go_simp
            exact hK [x3, x4, x5, (.pointer (some ⟨w2.heap.size, 0, none⟩)), z7, (.int .i64 j), z9, z10, (.pointer (some ⟨B, 0, none⟩)), z12, z13, z14, z15, z16, z17, z18, z19, z20, z21, z22, z23, z24, z25, z26, z27, z28, z29, z30, z31, z32, z33, z34, z35, z36, z37, z38, z39, z40, z41, z42, x43, x44, x45, x46, x47, (.int .i64 j)] _ ⟨_, _, _, _, _, _, _, _, _, _, _, _, _, _, _, _, _, _, _, _, _, _, _, _, _, _, _, _, _, _, _, _, _, _, _, _, _, _, _, _, _, _, _, rfl, ⟨J.f0, J.f1, J.f2, J.f3, J.f4, (fun _ => rfl), J.f7, J.f8, J.f9, J.Y, J.A, J.G⟩⟩
          · obtain rfl := J.f0 (hdp 0 (by kernel_rfl))
            have K8 := J.A hd
            have hF := fin Wz K8
            obtain ⟨y0, y1, y2, y3, y4, y5, y6, zz0, zz1, zz2, zz3, zz4, zz5, zz6, rl⟩ := (HR.out.below K8).z7
            have FY : Blk (st7 Wz w.heap.size ⟨u, uc, f, fc, a, ac, q, qc, r, rc⟩ ⟨t, s, us, fs, fa, se, oo⟩) B y.v 54 := (set7_other (W := Wz) (g := w.heap.size) (.int .i64 t) (.int .i64 s) (.slice u us.length uc) (.slice f fs.length fc) (.slice a fa.length ac) (.slice q se.length qc) (.slice r oo.length rc) B (by omega)).trans J.Y
            refine wpOp_of rfl rfl ?_
            dsimp only [win, List.take_succ_cons, List.take_zero, List.drop_succ_cons, List.drop_zero, List.cons_append, List.nil_append, List.length_cons, List.length_nil, Nat.reduceAdd]
            go_simp
            exact hK [x3, x4, x5, (.pointer (some ⟨w2.heap.size, 0, none⟩)), z7, (.int .i64 j), z9, z10, (.pointer (some ⟨B, 0, none⟩)), z12, z13, z14, z15, z16, z17, z18, z19, z20, z21, z22, z23, z24, z25, z26, z27, z28, z29, z30, z31, z32, z33, z34, z35, z36, z37, z38, z39, z40, z41, z42, (.agg (wv t s u us.length uc f fs.length fc a fa.length ac q se.length qc r oo.length rc)), x44, x45, x46, x47, x48] _ ⟨_, _, _, _, _, _, _, _, _, _, _, _, _, _, _, _, _, _, _, _, _, _, _, _, _, _, _, _, _, _, _, _, _, _, _, _, _, _, _, _, _, _, _, rfl, ⟨J.f0, J.f1, J.f2, J.f3, J.f4, J.f5, J.f7, J.f8, J.f9, FY, (fun h => by cases h), (fun _ => hF)⟩⟩
          · obtain rfl := J.f2 (hdp 2 (by kernel_rfl))
            refine wpOp_of rfl rfl ?_
            dsimp only [win, List.take_succ_cons, List.take_zero, List.drop_succ_cons, List.drop_zero, List.cons_append, List.nil_append, List.length_cons, List.length_nil, Nat.reduceAdd]
            go_simp
            exact hK [(.int .i64 y.c1), x4, x5, (.pointer (some ⟨w2.heap.size, 0, none⟩)), z7, (.int .i64 j), z9, z10, (.pointer (some ⟨B, 0, none⟩)), z12, z13, z14, z15, z16, z17, z18, z19, z20, z21, z22, z23, z24, z25, z26, z27, z28, z29, z30, z31, z32, z33, z34, z35, z36, z37, z38, z39, z40, z41, z42, x43, x44, (.int .i64 y.c1), x46, x47, x48] _ ⟨_, _, _, _, _, _, _, _, _, _, _, _, _, _, _, _, _, _, _, _, _, _, _, _, _, _, _, _, _, _, _, _, _, _, _, _, _, _, _, _, _, _, _, rfl, ⟨J.f0, J.f1, J.f2, J.f3, J.f4, J.f5, (fun _ => rfl), J.f8, J.f9, J.Y, J.A, J.G⟩⟩
          · obtain rfl := J.f4 (hdp 4 (by kernel_rfl))
            refine wpOp_of rfl rfl ?_
            dsimp only [win, List.take_succ_cons, List.take_zero, List.drop_succ_cons, List.drop_zero, List.cons_append, List.nil_append, List.length_cons, List.length_nil, Nat.reduceAdd]
            go_simp
            exact hK [x3, (.int .i64 y.c0), x5, (.pointer (some ⟨w2.heap.size, 0, none⟩)), z7, (.int .i64 j), z9, z10, (.pointer (some ⟨B, 0, none⟩)), z12, z13, z14, z15, z16, z17, z18, z19, z20, z21, z22, z23, z24, z25, z26, z27, z28, z29, z30, z31, z32, z33, z34, z35, z36, z37, z38, z39, z40, z41, z42, x43, x44, x45, x46, (.int .i64 y.c0), x48] _ ⟨_, _, _, _, _, _, _, _, _, _, _, _, _, _, _, _, _, _, _, _, _, _, _, _, _, _, _, _, _, _, _, _, _, _, _, _, _, _, _, _, _, _, _, rfl, ⟨J.f0, J.f1, J.f2, J.f3, J.f4, J.f5, J.f7, (fun _ => rfl), J.f9, J.Y, J.A, J.G⟩⟩
          · obtain rfl := J.f5 (hdp 5 (by kernel_rfl))
            refine wpOp_of rfl rfl ?_
            dsimp only [win, List.take_succ_cons, List.take_zero, List.drop_succ_cons, List.drop_zero, List.cons_append, List.nil_append, List.length_cons, List.length_nil, Nat.reduceAdd]
            go_simp
            exact hK [x3, x4, (.int .i64 j), (.pointer (some ⟨w2.heap.size, 0, none⟩)), z7, (.int .i64 j), z9, z10, (.pointer (some ⟨B, 0, none⟩)), z12, z13, z14, z15, z16, z17, z18, z19, z20, z21, z22, z23, z24, z25, z26, z27, z28, z29, z30, z31, z32, z33, z34, z35, z36, z37, z38, z39, z40, z41, z42, x43, x44, x45, x46, x47, (.int .i64 j)] _ ⟨_, _, _, _, _, _, _, _, _, _, _, _, _, _, _, _, _, _, _, _, _, _, _, _, _, _, _, _, _, _, _, _, _, _, _, _, _, _, _, _, _, _, _, rfl, ⟨J.f0, J.f1, J.f2, J.f3, J.f4, J.f5, J.f7, J.f8, (fun _ => rfl), J.Y, J.A, J.G⟩⟩
        · rintro d xs Wz hall ⟨x3, x4, x5, z7, z9, z10, z12, z13, z14, z15, z16, z17, z18, z19, z20, z21, z22, z23, z24, z25, z26, z27, z28, z29, z30, z31, z32, z33, z34, z35, z36, z37, z38, z39, z40, z41, z42, x43, x44, x45, x46, x47, x48, rfl, J⟩
          obtain rfl := J.f7 (hall 7 (by decide))
          obtain rfl := J.f8 (hall 8 (by decide))
          obtain rfl := J.f9 (hall 9 (by decide))
          obtain ⟨F1, F2, F3⟩ := J.G (hall 6 (by decide))
          clear J hall fin
          dsimp only [win, List.take_succ_cons, List.take_zero, List.drop_succ_cons, List.drop_zero, List.cons_append, List.nil_append, List.length_cons, List.length_nil, Nat.reduceAdd]
          go_wp2_with fail
          obtain ⟨c0, c1, c2, c3, c4, c5, c6, cl⟩ := F1.c7
          refine bodyPost_ret (v := .tuple #[.agg (wv t s u us.length uc f fs.length fc a fa.length ac q se.length qc r oo.length rc), .int .i64 y.c1, .int .i64 y.c0, .int .i64 j]) ?_ rfl ⟨⟨u, uc, f, fc, a, ac, q, qc, r, rc⟩, ⟨t, s, us, fs, fa, se, oo⟩, y.c1, y.c0, j, rfl, F2, Hdw.out, F3, .inr ⟨y, hy, rfl⟩⟩
          simp [results, Tryz.results29, go_sem, c0, c1, c2, c3, c4, c5, c6]
          done
end Go.Proofs.YtaeeahgibifkjaaGreat
end
