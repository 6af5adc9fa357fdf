/- The walk of the law FnBoards. No condition. -/
import Derived.Test.YtibkdkjcncfmgaaLawBoards0
import Derived.Test.YtibkdkjcncfmgaaBrdDraws5
import Derived.Test.YtibkdkjcncfmgaaBrdPlain
import Derived.Test.YtibkdkjcncfmgaaOneWalks2
import Derived.Test.YtibkdkjcncfmgaaSumWalks2
namespace Go.Proofs.Ytibkdkjcncfmgaa
open Go.ChangeShapes Go.WideShapes Go.ChangeAt Go.RowKit
open Bd
set_option linter.unusedVariables false

theorem wf_small {i : Int} (h : PSmall i) : (Lit.int .i64 i).wf = true := wf_int (by have := h.1; omega) (by have := h.2; omega)
theorem neqU_same (x : K10) (w : World) : (binOp .neq 29 (.agg x.v) (.agg x.v)).run Try.prog w = .ok (.bool false) w := by rw [neqU, K10.b_self]; rfl
set_option maxHeartbeats 1000000 in
theorem eqlU_same (x : K10) (w : World) : (binOp .eql 29 (.agg x.v) (.agg x.v)).run Try.prog w = .ok (.bool true) w := by
  rw [run_eql_struct, show (10000 : Nat) = 9999 + 1 from rfl, run_equalIn_agg w 9999 29 _ _ (by kernel_rfl) (by kernel_rfl)]
  simp only [Program.fieldsOf, Try.underlying29]
  go_simp
  try rfl
/- what a slice of a board's lists is, its length named -/
theorem SlU.named {w : World} {base : Nat} {v : Value} {l : List K10} (h : SlU w base v l) : ∃ p c m, v = .slice p m c ∧ Hid (l.length = m) ∧ InU w p m c l := by
  obtain ⟨p, c, e, i⟩ := h.in
  exact ⟨p, c, _, e, rfl, i⟩
theorem SlF.named {w : World} {base : Nat} {v : Value} {l : List K3} (h : SlF w base v l) : ∃ p c m, v = .slice p m c ∧ Hid (l.length = m) ∧ InF w p m c l := by
  obtain ⟨p, c, e, i⟩ := h.in
  exact ⟨p, c, _, e, rfl, i⟩
theorem SlI.named {w : World} {base : Nat} {v : Value} {l : List Int} (h : SlI w base v l) : ∃ p c m, v = .slice p m c := by
  obtain ⟨p, c, e⟩ := h.form
  exact ⟨p, c, _, e⟩

set_option maxRecDepth 20000 in
set_option maxHeartbeats 16000000 in
theorem boards_walk (a : Option Addr) (len cap : Nat) (W : World) (hb : Bytes W a len W.heap.size) :
    Calls Try.prog 3 #[.slice a len cap] W fun e w' => e = .returned (.bool true) ∧ Below W.heap.size W w' := by
  by_cases hl : len ≤ 1048576
  · have cB := fun w => lwBig_no w a len cap hl
    go_enter Try.func3, Try.ntmps3
    go_wp2_with (go_at_call 11; refine (cB _).mono ?_; rintro e w1 ⟨rfl, hw1⟩; obtain rfl := hw1.symm)
    refine (drawPutUnit_c W a len cap hb hl).mono ?_
    rintro e w1 ⟨v1, f1, us, fs, u, rfl, S1, F1, hus, hfs, k1⟩
    obtain ⟨p1, c1, m1, rfl, Hm1, U1⟩ := S1.named
    obtain ⟨p1', c1', m1', rfl, Hm1', G1⟩ := F1.named
    obtain ⟨W2, HW2⟩ : ∃ W2, Hid (W2 = (w1.alloc (.cells #[.slice p1 m1 c1, .slice p1' m1' c1'] 27)).alloc (.cells u.v 29)) := ⟨_, rfl⟩
    have k2 : Below w1.heap.size w1 W2 := by rw [HW2.out]; exact ((Below.refl _ _).alloc (Nat.le_refl _) _).alloc (by rw [size_new]; omega) _
    have Bb : Blk W2 w1.heap.size #[.slice p1 m1 c1, .slice p1' m1' c1'] 27 := by rw [HW2.out]; exact (Blk.new w1 #[.slice p1 m1 c1, .slice p1' m1' c1'] 27).alloc _
    have Ub : Blk W2 (w1.heap.size + 1) u.v 29 := by rw [HW2.out]; have h := Blk.new (w1.alloc (.cells #[.slice p1 m1 c1, .slice p1' m1' c1'] 27)) u.v 29; rw [size_new] at h; exact h
    have B2 := k1.trans (k2.mono k1.size)
    have cP := fun W h h' => implPutUnit_i p1 c1 p1' c1' us fs u W h h'
    rw [Hm1.out, Hm1'.out] at cP
    clear S1 F1
    go_upto_region 4 with fail
    rw [← HW2.out]
    obtain ⟨b0, b1⟩ : W2.cell? ⟨w1.heap.size, 0, none⟩ = some (.slice p1 m1 c1) ∧ W2.cell? ⟨w1.heap.size, 1, none⟩ = some (.slice p1' m1' c1') := ⟨Bb.cell rfl, Bb.cell rfl⟩
    have bl := Bb.lt
    obtain ⟨cu0, cu1, cu2, cu3, cu4, cu5, cu6, cu7, cu8, cu9, ul⟩ := Ub.unit
    go_wp2_with fail
    refine (cP _ (U1.later k2) (G1.later k2)).mono ?_
    clear b0 b1 bl cu0 cu1 cu2 cu3 cu4 cu5 cu6 cu7 cu8 cu9 ul
    obtain ⟨C, HC⟩ : ∃ C, Hid (puC us fs u = C) := ⟨_, rfl⟩
    obtain ⟨PL, HPL⟩ : ∃ PL, Hid (puU us fs u = PL) := ⟨_, rfl⟩
    obtain ⟨PF, HPF⟩ : ∃ PF, Hid (puF us fs u = PF) := ⟨_, rfl⟩
    rw [HC.out, HPL.out, HPF.out]
    rintro e w3 ⟨v3, f3, rfl, S3, F3, k3⟩
    obtain ⟨p2, c2, m2, rfl, Hm2, U2⟩ := S3.named
    obtain ⟨p2', c2', m2', rfl, Hm2', G2⟩ := F3.named
    obtain ⟨W4, HW4⟩ : ∃ W4, Hid (W4 = w3.alloc (.cells #[.int .i64 C, .slice p2 m2 c2, .slice p2' m2' c2'] 33)) := ⟨_, rfl⟩
    have k4 : Below w3.heap.size w3 W4 := by rw [HW4.out]; exact (Below.refl _ _).alloc (Nat.le_refl _) _
    have Pb : Blk W4 w3.heap.size #[.int .i64 C, .slice p2 m2 c2, .slice p2' m2' c2'] 33 := by rw [HW4.out]; exact Blk.new w3 #[.int .i64 C, .slice p2 m2 c2, .slice p2' m2' c2'] 33
    have B4 := (B2.trans (k3.mono B2.size)).trans (k4.mono (B2.trans (k3.mono B2.size)).size)
    have k24 : Below W2.heap.size W2 W4 := k3.trans (k4.mono k3.size)
    replace Bb := Bb.below k24
    replace Ub := Ub.below k24
    replace U1 := (U1.later k2).later k24
    replace G1 := (G1.later k2).later k24
    replace U2 := U2.later k4
    replace G2 := G2.later k4
    clear S3 F3 cP
    go_upto_region 5 with fail
    rw [← HW4.out]
    go_wp2_with fail
    refine (dDrawOwnedBy_c _ a len cap (hb.later B4) hl).mono ?_
    rintro e w5 ⟨v5, f5, us5, fs5, ow, rfl, S5, F5, hus5, hfs5, how, k5⟩
    obtain ⟨p5, c5, m5, rfl, Hm5, U5⟩ := S5.named
    obtain ⟨p5', c5', m5', rfl, Hm5', G5⟩ := F5.named
    obtain ⟨W6, HW6⟩ : ∃ W6, Hid (W6 = w5.alloc (.cells #[.slice p5 m5 c5, .slice p5' m5' c5'] 27)) := ⟨_, rfl⟩
    have k6 : Below w5.heap.size w5 W6 := by rw [HW6.out]; exact (Below.refl _ _).alloc (Nat.le_refl _) _
    have Xb : Blk W6 w5.heap.size #[.slice p5 m5 c5, .slice p5' m5' c5'] 27 := by rw [HW6.out]; exact Blk.new w5 #[.slice p5 m5 c5, .slice p5' m5' c5'] 27
    have k46 : Below W4.heap.size W4 W6 := k5.trans (k6.mono k5.size)
    have B6 := B4.trans (k46.mono B4.size)
    replace U5 := U5.later k6
    replace G5 := G5.later k6
    have cO := fun W h h' => implOwnedBy p5 m5 c5 p5' m5' c5' us5 fs5 ow Hm5.out Hm5'.out W h h'
    clear S5 F5
    go_upto_region 6 with fail
    rw [← HW6.out]
    obtain ⟨b0, b1⟩ : W6.cell? ⟨w5.heap.size, 0, none⟩ = some (.slice p5 m5 c5) ∧ W6.cell? ⟨w5.heap.size, 1, none⟩ = some (.slice p5' m5' c5') := ⟨Xb.cell rfl, Xb.cell rfl⟩
    have bl := Xb.lt
    go_wp2_with fail
    refine (cO _ U5.arg G5.arg).mono ?_
    clear b0 b1 bl
    obtain ⟨oC, HoC⟩ : ∃ oC, Hid (owC us5 fs5 ow = oC) := ⟨_, rfl⟩
    obtain ⟨oL, HoL⟩ : ∃ oL, Hid (obL us5 fs5 ow = oL) := ⟨_, rfl⟩
    rw [HoC.out, HoL.out]
    rintro e w7 ⟨v7, rfl, S7, k7⟩
    obtain ⟨po, co, mo, rfl⟩ := S7.named
    obtain ⟨W8, HW8⟩ : ∃ W8, Hid (W8 = w7.alloc (.cells #[.int .i64 oC, .slice po mo co] 39)) := ⟨_, rfl⟩
    have k8 : Below w7.heap.size w7 W8 := by rw [HW8.out]; exact (Below.refl _ _).alloc (Nat.le_refl _) _
    have Ob : Blk W8 w7.heap.size #[.int .i64 oC, .slice po mo co] 39 := by rw [HW8.out]; exact Blk.new w7 #[.int .i64 oC, .slice po mo co] 39
    have k68 : Below W6.heap.size W6 W8 := k7.trans (k8.mono k7.size)
    have B8 := B6.trans (k68.mono B6.size)
    replace S7 := S7.below k8
    go_upto_region 7 with fail
    rw [← HW8.out]
    go_wp2_with fail
    refine (dDrawUnitOf_c _ a len cap (hb.later B8) hl).mono ?_
    rintro e w9 ⟨v9, f9, us9, fs9, iu, rfl, S9, F9, hus9, hfs9, hiu, k9⟩
    obtain ⟨p9, c9, m9, rfl, Hm9, U9⟩ := S9.named
    obtain ⟨p9', c9', m9', rfl, Hm9', G9⟩ := F9.named
    obtain ⟨W10, HW10⟩ : ∃ W10, Hid (W10 = w9.alloc (.cells #[.slice p9 m9 c9, .slice p9' m9' c9'] 27)) := ⟨_, rfl⟩
    have k10 : Below w9.heap.size w9 W10 := by rw [HW10.out]; exact (Below.refl _ _).alloc (Nat.le_refl _) _
    have Yb : Blk W10 w9.heap.size #[.slice p9 m9 c9, .slice p9' m9' c9'] 27 := by rw [HW10.out]; exact Blk.new w9 #[.slice p9 m9 c9, .slice p9' m9' c9'] 27
    have k810 : Below W8.heap.size W8 W10 := k9.trans (k10.mono k9.size)
    have k610 := k68.trans (k810.mono k68.size)
    have k410 := k46.trans (k610.mono k46.size)
    have B10 := B8.trans (k810.mono B8.size)
    replace U9 := U9.later k10
    replace G9 := G9.later k10
    replace Bb := Bb.below k410
    replace Ub := Ub.below k410
    replace Pb := Pb.below k410
    replace Xb := Xb.below k610
    replace Ob := Ob.below k810
    replace U1 := U1.later k410
    replace G1 := G1.later k410
    replace U2 := U2.later k410
    replace G2 := G2.later k410
    replace U5 := U5.later k610
    replace G5 := G5.later k610
    replace S7 := S7.below k810
    clear S9 F9 k1 k2 k3 k4 k24 k5 k6 k46 k7 k8 k68 k9 k10 k810 k610 k410 B2 B4 B6 B8
    -- the contracts of the region's callees, at any world behind W10
    have sO := fun W' (h : Below W10.heap.size W10 W') => specOwnedBy p5 m5 c5 p5' m5' c5' us5 fs5 ow Hm5.out Hm5'.out W' (U5.later h).arg (G5.later h).arg
    have sC := fun W' (h : Below W10.heap.size W10 W') => specCarriedBy p5 m5 c5 p5' m5' c5' us5 fs5 ow Hm5.out Hm5'.out W' (U5.later h).arg (G5.later h).arg
    have iC := fun W' (h : Below W10.heap.size W10 W') => implCarriedBy p5 m5 c5 p5' m5' c5' us5 fs5 ow Hm5.out Hm5'.out W' (U5.later h).arg (G5.later h).arg
    have sU := fun W' (h : Below W10.heap.size W10 W') => specUnitOf p9 m9 c9 p9' m9' c9' us9 fs9 iu Hm9.out Hm9'.out W' (U9.later h).arg (G9.later h).arg
    have iU := fun W' (h : Below W10.heap.size W10 W') => implUnitOf p9 m9 c9 p9' m9' c9' us9 fs9 iu (wf_small hiu) Hm9.out Hm9'.out W' (U9.later h).arg (G9.later h).arg
    have sF := fun W' => specUnitFault u W'
    have iF := fun W' => implUnitFault u W'
    have hoL : oL.length ≤ 1000 := by rw [← HoL.out]; have := obL_le us5 fs5 ow; omega
    rw [HoC.out, HoL.out] at sO
    rw [HoC.out] at sC iC
    generalize cbV us5 fs5 ow = cV at sC iC
    generalize uoC us9 fs9 iu = uC at sU iU
    generalize uoU us9 fs9 iu = uV at sU iU
    generalize hUF : uf u = uF at sF iF
    have HUF : Hid (uf u = uF) := hUF
    clear hUF
    have n1 : (oC != oC) = false := by simp
    have n2 : (cV != cV) = false := by simp
    have n3 : (uC != uC) = false := by simp
    have n4 : (uF != uF) = false := by simp
    have n5 := fun w => neqU_same uV w
    have keep : ∀ w', Below W10.heap.size W10 w' → w'.cell? ⟨w7.heap.size, 0, none⟩ = some (.int .i64 oC) ∧ w'.cell? ⟨w7.heap.size, 1, none⟩ = some (.slice po mo co) ∧ w'.cell? ⟨w5.heap.size, 0, none⟩ = some (.slice p5 m5 c5) ∧ w'.cell? ⟨w5.heap.size, 1, none⟩ = some (.slice p5' m5' c5') ∧ w'.cell? ⟨w9.heap.size, 0, none⟩ = some (.slice p9 m9 c9) ∧ w'.cell? ⟨w9.heap.size, 1, none⟩ = some (.slice p9' m9' c9') ∧ w'.cell? ⟨w1.heap.size + 1, 0, none⟩ = some (.int .i64 u.c0) ∧ w'.cell? ⟨w1.heap.size + 1, 1, none⟩ = some (.int .i64 u.c1) ∧ w'.cell? ⟨w1.heap.size + 1, 2, none⟩ = some (.int .i64 u.c2) ∧ w'.cell? ⟨w1.heap.size + 1, 3, none⟩ = some (.int .i64 u.c3) ∧ w'.cell? ⟨w1.heap.size + 1, 4, none⟩ = some (.int .i64 u.c4) ∧ w'.cell? ⟨w1.heap.size + 1, 5, none⟩ = some (.int .i64 u.c5) ∧ w'.cell? ⟨w1.heap.size + 1, 6, none⟩ = some (.int .i64 u.c6) ∧ w'.cell? ⟨w1.heap.size + 1, 7, none⟩ = some (.int .i64 u.c7) ∧ w'.cell? ⟨w1.heap.size + 1, 8, none⟩ = some (.int .i64 u.c8) ∧ w'.cell? ⟨w1.heap.size + 1, 9, none⟩ = some (.int .i64 u.c9) := fun w' hb => by
      have o1 := Ob.below hb
      have x1 := Xb.below hb
      have y1 := Yb.below hb
      obtain ⟨cu0, cu1, cu2, cu3, cu4, cu5, cu6, cu7, cu8, cu9, ul⟩ := (Ub.below hb).unit
      exact ⟨o1.cell rfl, o1.cell rfl, x1.cell rfl, x1.cell rfl, y1.cell rfl, y1.cell rfl, cu0, cu1, cu2, cu3, cu4, cu5, cu6, cu7, cu8, cu9⟩
    obtain ⟨o0, o1, x0, x1, y0, y1, cu0, cu1, cu2, cu3, cu4, cu5, cu6, cu7, cu8, cu9⟩ := keep _ (Below.refl _ _)
    have fO0 : ∀ (s u : Value) (w : World), (Instr.field 39 (.agg #[s, u]) 0).run Try.prog w = .ok s w := fun _ _ _ => by kernel_rfl
    have fO1 : ∀ (s u : Value) (w : World), (Instr.field 39 (.agg #[s, u]) 1).run Try.prog w = .ok u w := fun _ _ _ => by kernel_rfl
    have fI0 : ∀ (s u : Value) (w : World), (Instr.field 43 (.agg #[s, u]) 0).run Try.prog w = .ok s w := fun _ _ _ => by kernel_rfl
    have fI1 : ∀ (s u : Value) (w : World), (Instr.field 43 (.agg #[s, u]) 1).run Try.prog w = .ok u w := fun _ _ _ => by kernel_rfl
    have fU0 : ∀ (z : Int) (x : K10) (w : World), (Instr.field 46 (.agg (elevenV z x)) 0).run Try.prog w = .ok (.int .i64 z) w := fun _ _ _ => by kernel_rfl
    have fU1 : ∀ (z : Int) (x : K10) (w : World), (Instr.field 46 (.agg (elevenV z x)) 1).run Try.prog w = .ok (.agg x.v) w := fun _ _ _ => by kernel_rfl
    have fR0 : ∀ (s u v : Value) (w : World), (Instr.field 33 (.agg #[s, u, v]) 0).run Try.prog w = .ok s w := fun _ _ _ _ => by kernel_rfl
    have Bc : Below W10.heap.size W10 W10.drew := (Below.refl _ _).drew
    go_upto_region 8 with fail
    rw [← HW10.out]
    go_cut [100] from 35 to 99 (fun s wx => s = .bool false ∧ Below W10.heap.size W10 wx)
    case first =>
      simp only [List.append]
      go_region_held3 (fun w' => w'.cell? ⟨w7.heap.size, 0, none⟩ = some (.int .i64 oC) ∧ w'.cell? ⟨w7.heap.size, 1, none⟩ = some (.slice po mo co) ∧ w'.cell? ⟨w5.heap.size, 0, none⟩ = some (.slice p5 m5 c5) ∧ w'.cell? ⟨w5.heap.size, 1, none⟩ = some (.slice p5' m5' c5') ∧ w'.cell? ⟨w9.heap.size, 0, none⟩ = some (.slice p9 m9 c9) ∧ w'.cell? ⟨w9.heap.size, 1, none⟩ = some (.slice p9' m9' c9') ∧ w'.cell? ⟨w1.heap.size + 1, 0, none⟩ = some (.int .i64 u.c0) ∧ w'.cell? ⟨w1.heap.size + 1, 1, none⟩ = some (.int .i64 u.c1) ∧ w'.cell? ⟨w1.heap.size + 1, 2, none⟩ = some (.int .i64 u.c2) ∧ w'.cell? ⟨w1.heap.size + 1, 3, none⟩ = some (.int .i64 u.c3) ∧ w'.cell? ⟨w1.heap.size + 1, 4, none⟩ = some (.int .i64 u.c4) ∧ w'.cell? ⟨w1.heap.size + 1, 5, none⟩ = some (.int .i64 u.c5) ∧ w'.cell? ⟨w1.heap.size + 1, 6, none⟩ = some (.int .i64 u.c6) ∧ w'.cell? ⟨w1.heap.size + 1, 7, none⟩ = some (.int .i64 u.c7) ∧ w'.cell? ⟨w1.heap.size + 1, 8, none⟩ = some (.int .i64 u.c8) ∧ w'.cell? ⟨w1.heap.size + 1, 9, none⟩ = some (.int .i64 u.c9)) (first | exact keep _ Bc | go_keep) (first
        | (go_at_call 17; refine (sO _ Bc).mono ?_; rintro e wn ⟨vn, rfl, Sn, kn⟩; obtain ⟨pn, cn, mn, rfl⟩ := Sn.named; have Bc := Bc.trans (kn.mono Bc.size); obtain ⟨o0, o1, x0, x1, y0, y1, cu0, cu1, cu2, cu3, cu4, cu5, cu6, cu7, cu8, cu9⟩ := keep _ Bc)
        | (go_at_call 18; refine (lwNums_same _ _ _ _ _ oL (S7.below Bc) Sn hoL).mono ?_; rintro e wn ⟨rfl, kn⟩; have Bc := Bc.trans (kn.mono Bc.size); obtain ⟨o0, o1, x0, x1, y0, y1, cu0, cu1, cu2, cu3, cu4, cu5, cu6, cu7, cu8, cu9⟩ := keep _ Bc)
        | (go_at_call 19; refine (iC _ Bc).mono ?_; rintro e wn ⟨rfl, kn⟩; have Bc := Bc.trans (kn.mono Bc.size); obtain ⟨o0, o1, x0, x1, y0, y1, cu0, cu1, cu2, cu3, cu4, cu5, cu6, cu7, cu8, cu9⟩ := keep _ Bc)
        | (go_at_call 20; refine (sC _ Bc).mono ?_; rintro e wn ⟨rfl, kn⟩; have Bc := Bc.trans (kn.mono Bc.size); obtain ⟨o0, o1, x0, x1, y0, y1, cu0, cu1, cu2, cu3, cu4, cu5, cu6, cu7, cu8, cu9⟩ := keep _ Bc)
        | (go_at_call 21; refine (iU _ Bc).mono ?_; rintro e wn ⟨rfl, kn⟩; have Bc := Bc.trans (kn.mono Bc.size); obtain ⟨o0, o1, x0, x1, y0, y1, cu0, cu1, cu2, cu3, cu4, cu5, cu6, cu7, cu8, cu9⟩ := keep _ Bc)
        | (go_at_call 22; refine (sU _ Bc).mono ?_; rintro e wn ⟨rfl, kn⟩; have Bc := Bc.trans (kn.mono Bc.size); obtain ⟨o0, o1, x0, x1, y0, y1, cu0, cu1, cu2, cu3, cu4, cu5, cu6, cu7, cu8, cu9⟩ := keep _ Bc)
        | (go_at_call 23; refine (iF _).mono ?_; rintro e wn ⟨rfl, kn⟩; have Bc := Bc.trans (kn.mono Bc.size); obtain ⟨o0, o1, x0, x1, y0, y1, cu0, cu1, cu2, cu3, cu4, cu5, cu6, cu7, cu8, cu9⟩ := keep _ Bc)
        | (go_at_call 24; refine (sF _).mono ?_; rintro e wn ⟨rfl, kn⟩; have Bc := Bc.trans (kn.mono Bc.size); obtain ⟨o0, o1, x0, x1, y0, y1, cu0, cu1, cu2, cu3, cu4, cu5, cu6, cu7, cu8, cu9⟩ := keep _ Bc))
      all_goals
        go_wp2_with fail
        go_meet
        case rel => exact ⟨rfl, Bc⟩
    case rest =>
      obtain ⟨rfl, Bx⟩ := hcut
      obtain ⟨wx, hwx⟩ : ∃ y : World, y = wc := ⟨_, rfl⟩
      subst hwx
      clear o0 o1 x0 x1 y0 y1 cu0 cu1 cu2 cu3 cu4 cu5 cu6 cu7 cu8 cu9 keep sO sC iC sU iU sF iF n1 n2 n3 n4 n5 Bc
      have iB := fun W' (h : Below W10.heap.size W10 W') => implBoardFault p1 m1 c1 p1' m1' c1' us fs Hm1.out Hm1'.out W' (U1.later h).arg (G1.later h).arg
      have sB := fun W' (h : Below W10.heap.size W10 W') => specBoardFault p1 m1 c1 p1' m1' c1' us fs Hm1.out Hm1'.out W' (U1.later h).arg (G1.later h).arg
      have sP := fun W' (h : Below W10.heap.size W10 W') (h1 : InU W' p1 us.length c1 us) (h2 : InF W' p1' fs.length c1' fs) => specPutUnit_i p1 c1 p1' c1' us fs u W' h1 h2
      rw [Hm1.out, Hm1'.out] at sP
      have keep : ∀ w', Below W10.heap.size W10 w' → w'.cell? ⟨w3.heap.size, 0, none⟩ = some (.int .i64 C) ∧ w'.cell? ⟨w3.heap.size, 1, none⟩ = some (.slice p2 m2 c2) ∧ w'.cell? ⟨w3.heap.size, 2, none⟩ = some (.slice p2' m2' c2') ∧ w'.cell? ⟨w1.heap.size, 0, none⟩ = some (.slice p1 m1 c1) ∧ w'.cell? ⟨w1.heap.size, 1, none⟩ = some (.slice p1' m1' c1') ∧ w'.cell? ⟨w1.heap.size + 1, 0, none⟩ = some (.int .i64 u.c0) ∧ w'.cell? ⟨w1.heap.size + 1, 1, none⟩ = some (.int .i64 u.c1) ∧ w'.cell? ⟨w1.heap.size + 1, 2, none⟩ = some (.int .i64 u.c2) ∧ w'.cell? ⟨w1.heap.size + 1, 3, none⟩ = some (.int .i64 u.c3) ∧ w'.cell? ⟨w1.heap.size + 1, 4, none⟩ = some (.int .i64 u.c4) ∧ w'.cell? ⟨w1.heap.size + 1, 5, none⟩ = some (.int .i64 u.c5) ∧ w'.cell? ⟨w1.heap.size + 1, 6, none⟩ = some (.int .i64 u.c6) ∧ w'.cell? ⟨w1.heap.size + 1, 7, none⟩ = some (.int .i64 u.c7) ∧ w'.cell? ⟨w1.heap.size + 1, 8, none⟩ = some (.int .i64 u.c8) ∧ w'.cell? ⟨w1.heap.size + 1, 9, none⟩ = some (.int .i64 u.c9) := fun w' hb => by
        have q1 := Pb.below hb
        have b1 := Bb.below hb
        obtain ⟨cu0, cu1, cu2, cu3, cu4, cu5, cu6, cu7, cu8, cu9, ul⟩ := (Ub.below hb).unit
        exact ⟨q1.cell rfl, q1.cell rfl, q1.cell rfl, b1.cell rfl, b1.cell rfl, cu0, cu1, cu2, cu3, cu4, cu5, cu6, cu7, cu8, cu9⟩
      obtain ⟨q0, q1, q2, b0, b1, cu0, cu1, cu2, cu3, cu4, cu5, cu6, cu7, cu8, cu9⟩ := keep _ Bx
      have ql : w3.heap.size < wx.heap.size := (Pb.below Bx).lt
      have bl : w1.heap.size < wx.heap.size := (Bb.below Bx).lt
      have ul : w1.heap.size + 1 < wx.heap.size := (Ub.below Bx).lt
      by_cases hC : C = 0
      · subst hC
        obtain ⟨hbf, huf, hPL, hPF, hbf2, hfu, hfx⟩ := pu_ok HC.out
        have hPL' : PL = putU u us := by rw [← HPL.out]; exact hPL
        have hPF' : PF = fs := by rw [← HPF.out]; exact hPF
        have HE : Hid (∀ i, findU PL i = findU (putU u us) i) := fun i => by rw [hPL']
        have hbPF : bf PL PF = 0 := by rw [hPL', hPF']; exact hbf2
        have HU : Hid (∀ i y, findU (putU u us) i = some y → uoU PL PF i = y) := fun i y h => by
          unfold uoU
          rw [hbPF, HE.out i, h]; rfl
        have hlf : lfV PL PF = lfV us fs := by unfold lfV; rw [hbPF, hbf, hPF']
        have hid := uf_id huf
        have hm18 : m1 ≤ 8 := by rw [← Hm1.out]; exact hus
        have Hids : Hid (∀ x ∈ us, 1 ≤ x.c0 ∧ x.c0 ≤ 99) := fun x hx => uf_id ((bf_ok hbf).2.2.1 x hx)
        have Hfx : Hid (∀ x ∈ us, x.c0 ≠ u.c0 → findU (putU u us) x.c0 = some x) := hfx
        have Huu : Hid (uoU PL PF u.c0 = u) := HU.out _ _ hfu
        have iUP := fun (i : Int) (hw : (Lit.int .i64 i).wf = true) W' (h : Below W10.heap.size W10 W') => implUnitOf p2 m2 c2 p2' m2' c2' PL PF i hw Hm2.out Hm2'.out W' (U2.later h).arg (G2.later h).arg
        have iBP := fun W' (h : Below W10.heap.size W10 W') => implBoardFault p2 m2 c2 p2' m2' c2' PL PF Hm2.out Hm2'.out W' (U2.later h).arg (G2.later h).arg
        have iLP := fun W' (h : Below W10.heap.size W10 W') => implLeftIn p2 m2 c2 p2' m2' c2' PL PF Hm2.out Hm2'.out W' (U2.later h).arg (G2.later h).arg
        have iLB := fun W' (h : Below W10.heap.size W10 W') => implLeftIn p1 m1 c1 p1' m1' c1' us fs Hm1.out Hm1'.out W' (U1.later h).arg (G1.later h).arg
        have iUu := iUP u.c0 (wf_int (by omega) (by omega))
        rw [hbPF] at iBP iLP
        rw [hlf] at iLP
        rw [Huu.out] at iUu
        rw [hbf] at iLB
        generalize lfV us fs = LF at iLP iLB
        generalize uoC PL PF u.c0 = UC at iUu
        clear hPL hPF hPL' hPF' hbPF hlf hfx hfu hbf hbf2 huf HE iB sB sP
        go_wp2_with fail
        go_loopw [11] (fun i wr => ∃ k : Nat, k ≤ m1 ∧ i = .int .i64 k ∧ Below W10.heap.size W10 wr) (fun i _ => m1 - (intOf i).toNat)
        case atStart => exact ⟨0, Nat.zero_le _, rfl, Bx⟩
        case round =>
          clear q0 q1 q2 b0 b1 cu0 cu1 cu2 cu3 cu4 cu5 cu6 cu7 cu8 cu9 ql bl ul
          obtain ⟨k, hk, rfl, Br⟩ := hrel
          obtain ⟨q0, q1, q2, b0, b1, cu0, cu1, cu2, cu3, cu4, cu5, cu6, cu7, cu8, cu9⟩ := keep _ Br
          have ql : w3.heap.size < wr.heap.size := (Pb.below Br).lt
          have bl : w1.heap.size < wr.heap.size := (Bb.below Br).lt
          have ul : w1.heap.size + 1 < wr.heap.size := (Ub.below Br).lt
          by_cases hlt : k < m1
          · have hlt' : (k : Int) < (m1 : Int) := by omega
            have Hlt : Hid (k < m1) := hlt
            obtain ⟨x, hx⟩ : ∃ x, us[k]? = some x := ⟨_, List.getElem?_eq_getElem (by have := Hm1.out; omega)⟩
            obtain ⟨g, off, rfl, hg, hat⟩ := U1.at hx
            obtain ⟨x0, x1, x2, x3, x4, x5, x6, x7, x8, x9, xl⟩ := (hat.later hg Br).one (Nat.lt_of_lt_of_le hg Br.size) hx
            have hmem : x ∈ us := List.mem_of_getElem? hx
            cases hq : x.c0 == u.c0
            · have hq' := bne_of hq
              have hxu : uoU PL PF x.c0 = x := HU.out _ _ (Hfx.out x hmem (by simpa using hq))
              have hidx := Hids.out x hmem
              have iUx := iUP x.c0 (wf_int (by omega) (by omega))
              rw [hxu] at iUx
              generalize uoC PL PF x.c0 = XC at iUx
              have n6 := fun w => neqU_same x w
              have Hat : Hid (UAt W10 g off us) := hat
              have Hx : Hid (us[k]? = some x) := hx
              have keep2 : ∀ w', Below W10.heap.size W10 w' → w'.cell? ⟨w3.heap.size, 1, none⟩ = some (.slice p2 m2 c2) ∧ w'.cell? ⟨w3.heap.size, 2, none⟩ = some (.slice p2' m2' c2') ∧ w'.cell? ⟨w1.heap.size, 0, none⟩ = some (.slice (some ⟨g, off, none⟩) m1 c1) ∧ w'.cell? ⟨w1.heap.size + 1, 0, none⟩ = some (.int .i64 u.c0) ∧ w'.cell? ⟨g, off + k * 10, none⟩ = some (.int .i64 x.c0) ∧ w'.cell? ⟨g, off + k * 10 + 1, none⟩ = some (.int .i64 x.c1) ∧ w'.cell? ⟨g, off + k * 10 + 2, none⟩ = some (.int .i64 x.c2) ∧ w'.cell? ⟨g, off + k * 10 + 3, none⟩ = some (.int .i64 x.c3) ∧ w'.cell? ⟨g, off + k * 10 + 4, none⟩ = some (.int .i64 x.c4) ∧ w'.cell? ⟨g, off + k * 10 + 5, none⟩ = some (.int .i64 x.c5) ∧ w'.cell? ⟨g, off + k * 10 + 6, none⟩ = some (.int .i64 x.c6) ∧ w'.cell? ⟨g, off + k * 10 + 7, none⟩ = some (.int .i64 x.c7) ∧ w'.cell? ⟨g, off + k * 10 + 8, none⟩ = some (.int .i64 x.c8) ∧ w'.cell? ⟨g, off + k * 10 + 9, none⟩ = some (.int .i64 x.c9) := fun w' hb => by
                have q1 := Pb.below hb
                have b1 := Bb.below hb
                obtain ⟨cu0, cu1, cu2, cu3, cu4, cu5, cu6, cu7, cu8, cu9, ul⟩ := (Ub.below hb).unit
                obtain ⟨x0, x1, x2, x3, x4, x5, x6, x7, x8, x9, xl⟩ := (Hat.out.later hg hb).one (Nat.lt_of_lt_of_le hg hb.size) Hx.out
                exact ⟨q1.cell rfl, q1.cell rfl, b1.cell rfl, cu0, x0, x1, x2, x3, x4, x5, x6, x7, x8, x9⟩
              clear hx hat hxu
              have Bc : Below W10.heap.size W10 wr.drew := Br.trans ((Below.refl _ _).drew.mono Br.size)
              go_upto_region 15 with fail
              go_region_held3 (fun w' => w'.cell? ⟨w3.heap.size, 1, none⟩ = some (.slice p2 m2 c2) ∧ w'.cell? ⟨w3.heap.size, 2, none⟩ = some (.slice p2' m2' c2') ∧ w'.cell? ⟨w1.heap.size, 0, none⟩ = some (.slice (some ⟨g, off, none⟩) m1 c1) ∧ w'.cell? ⟨w1.heap.size + 1, 0, none⟩ = some (.int .i64 u.c0) ∧ w'.cell? ⟨g, off + k * 10, none⟩ = some (.int .i64 x.c0) ∧ w'.cell? ⟨g, off + k * 10 + 1, none⟩ = some (.int .i64 x.c1) ∧ w'.cell? ⟨g, off + k * 10 + 2, none⟩ = some (.int .i64 x.c2) ∧ w'.cell? ⟨g, off + k * 10 + 3, none⟩ = some (.int .i64 x.c3) ∧ w'.cell? ⟨g, off + k * 10 + 4, none⟩ = some (.int .i64 x.c4) ∧ w'.cell? ⟨g, off + k * 10 + 5, none⟩ = some (.int .i64 x.c5) ∧ w'.cell? ⟨g, off + k * 10 + 6, none⟩ = some (.int .i64 x.c6) ∧ w'.cell? ⟨g, off + k * 10 + 7, none⟩ = some (.int .i64 x.c7) ∧ w'.cell? ⟨g, off + k * 10 + 8, none⟩ = some (.int .i64 x.c8) ∧ w'.cell? ⟨g, off + k * 10 + 9, none⟩ = some (.int .i64 x.c9)) (first | exact keep2 _ Bc | go_keep) (first
                | (go_at_call 21; refine (iUx _ Bc).mono ?_; rintro e wn ⟨rfl, kn⟩; have Bc := Bc.trans (kn.mono Bc.size); obtain ⟨q1, q2, b0, cu0, x0, x1, x2, x3, x4, x5, x6, x7, x8, x9⟩ := keep2 _ Bc))
              all_goals
                go_wp2_with fail
                go_roundw
                case rel => exact ⟨k + 1, by have := Hlt.out; omega, by go_num, Bc⟩
                case measure => have := Hlt.out; simp [intOf]; omega
            · have hq' : (x.c0 != u.c0) = false := by simp only [bne, hq]; rfl
              clear hx hat
              go_wp2_with fail
              go_quiet (fail)
              go_wp2_with fail
              go_roundw
              case rel => exact ⟨k + 1, by have := Hlt.out; omega, by go_num, Br.trans ((below_drewN _ _).mono Br.size)⟩
              case measure => have := Hlt.out; simp [intOf]; omega
          · obtain rfl : m1 = k := by omega
            have n7 := fun w => eqlU_same u w
            have n8 : (LF == LF) = true := by simp
            have Bc : Below W10.heap.size W10 wr.drew := Br.trans ((Below.refl _ _).drew.mono Br.size)
            go_upto_region 17 with fail
            go_region_held3 (fun w' => w'.cell? ⟨w3.heap.size, 0, none⟩ = some (.int .i64 0) ∧ w'.cell? ⟨w3.heap.size, 1, none⟩ = some (.slice p2 m2 c2) ∧ w'.cell? ⟨w3.heap.size, 2, none⟩ = some (.slice p2' m2' c2') ∧ w'.cell? ⟨w1.heap.size, 0, none⟩ = some (.slice p1 m1 c1) ∧ w'.cell? ⟨w1.heap.size, 1, none⟩ = some (.slice p1' m1' c1') ∧ w'.cell? ⟨w1.heap.size + 1, 0, none⟩ = some (.int .i64 u.c0) ∧ w'.cell? ⟨w1.heap.size + 1, 1, none⟩ = some (.int .i64 u.c1) ∧ w'.cell? ⟨w1.heap.size + 1, 2, none⟩ = some (.int .i64 u.c2) ∧ w'.cell? ⟨w1.heap.size + 1, 3, none⟩ = some (.int .i64 u.c3) ∧ w'.cell? ⟨w1.heap.size + 1, 4, none⟩ = some (.int .i64 u.c4) ∧ w'.cell? ⟨w1.heap.size + 1, 5, none⟩ = some (.int .i64 u.c5) ∧ w'.cell? ⟨w1.heap.size + 1, 6, none⟩ = some (.int .i64 u.c6) ∧ w'.cell? ⟨w1.heap.size + 1, 7, none⟩ = some (.int .i64 u.c7) ∧ w'.cell? ⟨w1.heap.size + 1, 8, none⟩ = some (.int .i64 u.c8) ∧ w'.cell? ⟨w1.heap.size + 1, 9, none⟩ = some (.int .i64 u.c9)) (first | exact keep _ Bc | go_keep) (first
              | (go_at_call 26; refine (iBP _ Bc).mono ?_; rintro e wn ⟨rfl, kn⟩; have Bc := Bc.trans (kn.mono Bc.size); obtain ⟨q0, q1, q2, b0, b1, cu0, cu1, cu2, cu3, cu4, cu5, cu6, cu7, cu8, cu9⟩ := keep _ Bc)
              | (go_at_call 21; refine (iUu _ Bc).mono ?_; rintro e wn ⟨rfl, kn⟩; have Bc := Bc.trans (kn.mono Bc.size); obtain ⟨q0, q1, q2, b0, b1, cu0, cu1, cu2, cu3, cu4, cu5, cu6, cu7, cu8, cu9⟩ := keep _ Bc)
              | (go_at_call 28; with_reducible refine (iLP _ Bc).mono ?_; rintro e wn ⟨rfl, kn⟩; have Bc := Bc.trans (kn.mono Bc.size); obtain ⟨q0, q1, q2, b0, b1, cu0, cu1, cu2, cu3, cu4, cu5, cu6, cu7, cu8, cu9⟩ := keep _ Bc)
              | (go_at_call 28; with_reducible refine (iLB _ Bc).mono ?_; rintro e wn ⟨rfl, kn⟩; have Bc := Bc.trans (kn.mono Bc.size); obtain ⟨q0, q1, q2, b0, b1, cu0, cu1, cu2, cu3, cu4, cu5, cu6, cu7, cu8, cu9⟩ := keep _ Bc))
            all_goals
              go_wp2_with fail
              go_ret
              exact ⟨rfl, B10.trans (Bc.mono B10.size)⟩
      · have hC' : (C == 0) = false := by simpa using hC
        have hC2 := bne_of hC'
        have n8 : (C == C) = true := by simp
        rw [HC.out] at sP
        generalize bf us fs = BF at iB sB
        have n9 : (BF == BF) = true := by simp
        have Bc : Below W10.heap.size W10 wx.drew := Bx.trans ((Below.refl _ _).drew.mono Bx.size)
        go_upto_region 11 with fail
        go_region_held3 (fun w' => w'.cell? ⟨w3.heap.size, 0, none⟩ = some (.int .i64 C) ∧ w'.cell? ⟨w3.heap.size, 1, none⟩ = some (.slice p2 m2 c2) ∧ w'.cell? ⟨w3.heap.size, 2, none⟩ = some (.slice p2' m2' c2') ∧ w'.cell? ⟨w1.heap.size, 0, none⟩ = some (.slice p1 m1 c1) ∧ w'.cell? ⟨w1.heap.size, 1, none⟩ = some (.slice p1' m1' c1') ∧ w'.cell? ⟨w1.heap.size + 1, 0, none⟩ = some (.int .i64 u.c0) ∧ w'.cell? ⟨w1.heap.size + 1, 1, none⟩ = some (.int .i64 u.c1) ∧ w'.cell? ⟨w1.heap.size + 1, 2, none⟩ = some (.int .i64 u.c2) ∧ w'.cell? ⟨w1.heap.size + 1, 3, none⟩ = some (.int .i64 u.c3) ∧ w'.cell? ⟨w1.heap.size + 1, 4, none⟩ = some (.int .i64 u.c4) ∧ w'.cell? ⟨w1.heap.size + 1, 5, none⟩ = some (.int .i64 u.c5) ∧ w'.cell? ⟨w1.heap.size + 1, 6, none⟩ = some (.int .i64 u.c6) ∧ w'.cell? ⟨w1.heap.size + 1, 7, none⟩ = some (.int .i64 u.c7) ∧ w'.cell? ⟨w1.heap.size + 1, 8, none⟩ = some (.int .i64 u.c8) ∧ w'.cell? ⟨w1.heap.size + 1, 9, none⟩ = some (.int .i64 u.c9)) (first | exact keep _ Bc | go_keep) (first
          | (go_at_call 25; refine (sP _ Bc (U1.later Bc) (G1.later Bc)).mono ?_; rintro e wn ⟨vn, fn, rfl, Sn, Fn, kn⟩; obtain ⟨pn, cn, mn, rfl⟩ := Sn.frm; obtain ⟨pn', cn', mn', rfl⟩ := Fn.frm; have Bc := Bc.trans (kn.mono Bc.size); obtain ⟨q0, q1, q2, b0, b1, cu0, cu1, cu2, cu3, cu4, cu5, cu6, cu7, cu8, cu9⟩ := keep _ Bc)
          | (go_at_call 26; refine (iB _ Bc).mono ?_; rintro e wn ⟨rfl, kn⟩; have Bc := Bc.trans (kn.mono Bc.size); obtain ⟨q0, q1, q2, b0, b1, cu0, cu1, cu2, cu3, cu4, cu5, cu6, cu7, cu8, cu9⟩ := keep _ Bc)
          | (go_at_call 27; refine (sB _ Bc).mono ?_; rintro e wn ⟨rfl, kn⟩; have Bc := Bc.trans (kn.mono Bc.size); obtain ⟨q0, q1, q2, b0, b1, cu0, cu1, cu2, cu3, cu4, cu5, cu6, cu7, cu8, cu9⟩ := keep _ Bc))
        all_goals
          go_wp2_with fail
          go_ret
          exact ⟨rfl, B10.trans (Bc.mono B10.size)⟩
  · go_enter Try.func3, Try.ntmps3
    go_wp2_with fail
    refine (lwBig_yes _ a len cap (by omega)).mono ?_
    rintro e w' ⟨rfl, rfl⟩
    go_wp2
    go_ret
    exact ⟨rfl, Below.refl _ _⟩
end Go.Proofs.Ytibkdkjcncfmgaa
