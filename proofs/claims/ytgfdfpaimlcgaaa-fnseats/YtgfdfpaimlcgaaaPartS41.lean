/- Texts of mine put together (a claim holds at most 60 files): StDraw, WfSame. -/
import Derived.Test.YtgfdfpaimlcgaaaPartS35
import Derived.Test.YtgfdfpaimlcgaaaPartS20

/- StDraw -/
/- The draws of seats: a world and a client, with a faction and a mask; a mask and a kind. Condition: the code has at most 1048576 bytes, which can be read. -/
section
namespace Go.Proofs.Ytgfdfpaimlcgaaa
open Go.ChangeShapes Go.WideShapes Go.ChangeAt Go.RowKit
open Bd
set_option linter.unusedVariables false

set_option maxRecDepth 20000 in
set_option maxHeartbeats 16000000 in
theorem drawSeatOf_c (w : World) (a0 : Option Addr) (len cap : Nat) (hb : Bytes w a0 len w.heap.size) (hl : len ≤ 1048576) :
    Calls Try.prog 7 #[.slice a0 len cap] w fun e w' => ∃ p x i, e = .returned (.tuple #[.agg (WP.v p x), .int .i64 i]) ∧ OwW w' w.heap.size p x ∧ DW x ∧ Below w.heap.size w w' := by
  obtain ⟨W1, HW1⟩ : ∃ W1, Hid (W1 = w.alloc (.cells zW 32)) := ⟨_, rfl⟩
  have A0 : Below w.heap.size w W1 := by rw [HW1.out]; exact (Below.refl _ _).alloc (Nat.le_refl _) _
  have R0 : Blk W1 w.heap.size zW 32 := by rw [HW1.out]; exact Blk.new w zW 32
  have cx : Cx W1 a0 len := ⟨hb.later A0, hl⟩
  have hR := R0.lt
  go_enter Try.func7, Try.ntmps7
  go_upto_region 1 with fail
  rw [← HW1.out]
  go_wp2_with fail
  refine (source W1 a0 len cap).mono ?_
  rintro e w1 ⟨rfl, st1⟩
  have d1 := Dn.start st1
  go_wp2_with fail
  refine (l6Bent_c cx d1 (by omega)).mono ?_
  rintro e w2 ⟨t, s, vu, vf, fb, vs, vo, us, fs, fa, se, oo, rfl, A2, f4, U2, F2, S2, O2, hfb, lus, lfs, lse, loo, d2⟩
  have SA := A2.slA hfb f4
  obtain ⟨pu, cu, rfl⟩ := U2.fm
  obtain ⟨pf, cf, rfl⟩ := F2.fm
  obtain ⟨ps, cs, rfl⟩ := S2.fm
  obtain ⟨po, co, rfl⟩ := O2.fm
  have R2 := R0.old d2
  have h4 := f4.l
  have O2 : OwW w2 w1.heap.size ⟨pu, cu, pf, cf, some ⟨fb, 0, none⟩, 4, ps, cs, po, co⟩ ⟨t, s, us, fs, fa, se, oo⟩ := ⟨U2, F2, SA, S2, O2⟩
  have dw : DW ⟨t, s, us, fs, fa, se, oo⟩ := ⟨lus, lfs, f4, lse, loo⟩
  have hw1 : w.heap.size < w1.heap.size := by have := d1.lt; omega
  have hsrc : W1.heap.size < w1.heap.size := d1.lt
  have hne : some w.heap.size ≠ some W1.heap.size := by simp; omega
  have Hdw : Hid (DW ⟨t, s, us, fs, fa, se, oo⟩) := dw
  have Hb1 : Hid (Below w.heap.size w W1) := A0
  clear A2 f4 U2 F2 SA S2 dw A0 lus lfs lse loo R0
  go_wp2_with fail
  refine (drawsD cx d2 6 (by omega) (by omega) (by omega)).mono ?_
  rintro e w3 ⟨i, rfl, _, _, d3, g3⟩
  have O3 := O2.drawn g3 hsrc
  have R3 := R2.grown g3 hne
  clear O2 R2 d2 g3
  obtain ⟨y0, y1, y2, y3, y4, y5, y6, z0, z1, z2, z3, z4, z5, z6, rl⟩ := R3.z7
  have F1 := set7_blk R3 (.int .i64 t) (.int .i64 s) (.slice pu us.length cu) (.slice pf fs.length cf) (.slice (some ⟨fb, 0, none⟩) 4 4) (.slice ps se.length cs) (.slice po oo.length co)
  have F2 := (O3.of_block R3 (by decide) (by decide) (by decide) (by decide) (by decide) (set7_other (W := w3) (g := w.heap.size) (.int .i64 t) (.int .i64 s) (.slice pu us.length cu) (.slice pf fs.length cf) (.slice (some ⟨fb, 0, none⟩) 4 4) (.slice ps se.length cs) (.slice po oo.length co))).mono (Nat.le_of_lt hw1)
  have F3 := set7_below (Hb1.out.trans (d3.below.mono (Nat.le_of_lt hR))) (Nat.le_refl w.heap.size) (.int .i64 t) (.int .i64 s) (.slice pu us.length cu) (.slice pf fs.length cf) (.slice (some ⟨fb, 0, none⟩) 4 4) (.slice ps se.length cs) (.slice po oo.length co)
  go_wp2_with fail
  obtain ⟨q0, q1, q2, q3, q4, q5, q6, ql⟩ := F1.c7
  refine bodyPost_ret (v := .tuple #[.agg (wv t s pu us.length cu pf fs.length cf (some ⟨fb, 0, none⟩) 4 4 ps se.length cs po oo.length co), .int .i64 i]) ?_ rfl ⟨⟨pu, cu, pf, cf, some ⟨fb, 0, none⟩, 4, ps, cs, po, co⟩, ⟨t, s, us, fs, fa, se, oo⟩, i, by show _ = Ending.returned (.tuple #[.agg (wv t s pu us.length cu pf fs.length cf (some ⟨fb, 0, none⟩) fa.length 4 ps se.length cs po oo.length co), .int .i64 i]); rw [h4], F2, Hdw.out, F3⟩
  simp [results, Try.results7, go_sem, q0, q1, q2, q3, q4, q5, q6]
set_option maxRecDepth 20000 in
set_option maxHeartbeats 16000000 in
theorem drawAllowedKinds_c (w : World) (a0 : Option Addr) (len cap : Nat) (hb : Bytes w a0 len w.heap.size) (hl : len ≤ 1048576) :
    Calls Try.prog 9 #[.slice a0 len cap] w fun e w' => ∃ p x i, e = .returned (.tuple #[.agg (WP.v p x), .int .i64 i]) ∧ OwW w' w.heap.size p x ∧ DW x ∧ Below w.heap.size w w' := by
  obtain ⟨W1, HW1⟩ : ∃ W1, Hid (W1 = w.alloc (.cells zW 32)) := ⟨_, rfl⟩
  have A0 : Below w.heap.size w W1 := by rw [HW1.out]; exact (Below.refl _ _).alloc (Nat.le_refl _) _
  have R0 : Blk W1 w.heap.size zW 32 := by rw [HW1.out]; exact Blk.new w zW 32
  have cD := drawSeatOf_c W1 a0 len cap (hb.later A0) hl
  have hs1 := A0.size
  clear hb hl
  go_enter Try.func9, Try.ntmps9
  go_upto_region 1 with fail
  rw [← HW1.out]
  go_wp2_with fail
  refine cD.mono ?_
  rintro e w2 ⟨p, x, i, rfl, O2, dw, B2⟩
  obtain ⟨t, s, us, fs, fa, se, oo⟩ := x
  obtain ⟨u, uc, f, fc, a, ac, q, qc, r, rc⟩ := p
  have R2 := R0.below B2
  have F1 := set7_blk R2 (.int .i64 t) (.int .i64 s) (.slice u us.length uc) (.slice f fs.length fc) (.slice a fa.length ac) (.slice q se.length qc) (.slice r oo.length rc)
  have F2 := (O2.of_block R2 (by decide) (by decide) (by decide) (by decide) (by decide) (set7_other (W := w2) (g := w.heap.size) (.int .i64 t) (.int .i64 s) (.slice u us.length uc) (.slice f fs.length fc) (.slice a fa.length ac) (.slice q se.length qc) (.slice r oo.length rc))).mono hs1
  have F3 := set7_below (A0.trans (B2.mono hs1)) (Nat.le_refl w.heap.size) (.int .i64 t) (.int .i64 s) (.slice u us.length uc) (.slice f fs.length fc) (.slice a fa.length ac) (.slice q se.length qc) (.slice r oo.length rc)
  obtain ⟨y0, y1, y2, y3, y4, y5, y6, z0, z1, z2, z3, z4, z5, z6, rl⟩ := R2.z7
  go_wp2_with fail
  obtain ⟨c0, c1, c2, c3, c4, c5, c6, cl⟩ := F1.c7
  refine bodyPost_ret (v := .tuple #[.agg (wv t s u us.length uc f fs.length fc a fa.length ac q se.length qc r oo.length rc), .int .i64 i]) ?_ rfl ⟨⟨u, uc, f, fc, a, ac, q, qc, r, rc⟩, ⟨t, s, us, fs, fa, se, oo⟩, i, rfl, F2, dw, F3⟩
  simp [results, Try.results9, go_sem, c0, c1, c2, c3, c4, c5, c6]
  done
set_option maxRecDepth 20000 in
set_option maxHeartbeats 16000000 in
theorem drawTakeSeat_c (w : World) (a0 : Option Addr) (len cap : Nat) (hb : Bytes w a0 len w.heap.size) (hl : len ≤ 1048576) :
    Calls Try.prog 5 #[.slice a0 len cap] w fun e w' => ∃ p x c f m, e = .returned (.tuple #[.agg (WP.v p x), .int .i64 c, .int .i64 f, .int .i64 m]) ∧ OwW w' w.heap.size p x ∧ DW x ∧ Below w.heap.size w w' := by
  obtain ⟨W1, HW1⟩ : ∃ W1, Hid (W1 = w.alloc (.cells zW 32)) := ⟨_, rfl⟩
  have A0 : Below w.heap.size w W1 := by rw [HW1.out]; exact (Below.refl _ _).alloc (Nat.le_refl _) _
  have R0 : Blk W1 w.heap.size zW 32 := by rw [HW1.out]; exact Blk.new w zW 32
  have cx : Cx W1 a0 len := ⟨hb.later A0, hl⟩
  have hR := R0.lt
  go_enter Try.func5, Try.ntmps5
  go_upto_region 1 with fail
  rw [← HW1.out]
  go_wp2_with fail
  refine (source W1 a0 len cap).mono ?_
  rintro e w1 ⟨rfl, st1⟩
  have d1 := Dn.start st1
  go_wp2_with fail
  refine (l6Bent_c cx d1 (by omega)).mono ?_
  rintro e w2 ⟨t, s, vu, vf, fb, vs, vo, us, fs, fa, se, oo, rfl, A2, f4, U2, F2, S2, O2, hfb, lus, lfs, lse, loo, d2⟩
  have SA := A2.slA hfb f4
  obtain ⟨pu, cu, rfl⟩ := U2.fm
  obtain ⟨pf, cf, rfl⟩ := F2.fm
  obtain ⟨ps, cs, rfl⟩ := S2.fm
  obtain ⟨po, co, rfl⟩ := O2.fm
  have R2 := R0.old d2
  have h4 := f4.l
  have O2 : OwW w2 w1.heap.size ⟨pu, cu, pf, cf, some ⟨fb, 0, none⟩, 4, ps, cs, po, co⟩ ⟨t, s, us, fs, fa, se, oo⟩ := ⟨U2, F2, SA, S2, O2⟩
  have dw : DW ⟨t, s, us, fs, fa, se, oo⟩ := ⟨lus, lfs, f4, lse, loo⟩
  have hw1 : w.heap.size < w1.heap.size := by have := d1.lt; omega
  have hsrc : W1.heap.size < w1.heap.size := d1.lt
  have hne : some w.heap.size ≠ some W1.heap.size := by simp; omega
  have Hdw : Hid (DW ⟨t, s, us, fs, fa, se, oo⟩) := dw
  have Hb1 : Hid (Below w.heap.size w W1) := A0
  clear A2 f4 U2 F2 SA S2 dw A0 lus lfs lse loo R0
  go_wp2_with fail
  refine (pickD PAny cx rfl d2 (by omega) (by omega) (by omega) (by simp [IntRow, PAny]) (by rfl)).mono ?_
  rintro e w3 ⟨c, rfl, _, d3, g3⟩
  have O3 := O2.drawn g3 hsrc
  have R3 := R2.grown g3 hne
  clear O2 R2 d2 g3
  go_wp2_with fail
  refine (pickD PAny cx rfl d3 (by omega) (by omega) (by omega) (by simp [IntRow, PAny]) (by rfl)).mono ?_
  rintro e w4 ⟨f, rfl, _, d4, g4⟩
  have O4 := O3.drawn g4 hsrc
  have R4 := R3.grown g4 hne
  clear O3 R3 d3 g4
  go_wp2_with fail
  refine (pickD PAny cx rfl d4 (by omega) (by omega) (by omega) (by simp [IntRow, PAny]) (by rfl)).mono ?_
  rintro e w5 ⟨m, rfl, _, d5, g5⟩
  have O5 := O4.drawn g5 hsrc
  have R5 := R4.grown g5 hne
  clear O4 R4 d4 g5
  obtain ⟨y0, y1, y2, y3, y4, y5, y6, z0, z1, z2, z3, z4, z5, z6, rl⟩ := R5.z7
  have F1 := set7_blk R5 (.int .i64 t) (.int .i64 s) (.slice pu us.length cu) (.slice pf fs.length cf) (.slice (some ⟨fb, 0, none⟩) 4 4) (.slice ps se.length cs) (.slice po oo.length co)
  have F2 := (O5.of_block R5 (by decide) (by decide) (by decide) (by decide) (by decide) (set7_other (W := w5) (g := w.heap.size) (.int .i64 t) (.int .i64 s) (.slice pu us.length cu) (.slice pf fs.length cf) (.slice (some ⟨fb, 0, none⟩) 4 4) (.slice ps se.length cs) (.slice po oo.length co))).mono (Nat.le_of_lt hw1)
  have F3 := set7_below (Hb1.out.trans (d5.below.mono (Nat.le_of_lt hR))) (Nat.le_refl w.heap.size) (.int .i64 t) (.int .i64 s) (.slice pu us.length cu) (.slice pf fs.length cf) (.slice (some ⟨fb, 0, none⟩) 4 4) (.slice ps se.length cs) (.slice po oo.length co)
  go_wp2_with fail
  obtain ⟨q0, q1, q2, q3, q4, q5, q6, ql⟩ := F1.c7
  refine bodyPost_ret (v := .tuple #[.agg (wv t s pu us.length cu pf fs.length cf (some ⟨fb, 0, none⟩) 4 4 ps se.length cs po oo.length co), .int .i64 c, .int .i64 f, .int .i64 m]) ?_ rfl ⟨⟨pu, cu, pf, cf, some ⟨fb, 0, none⟩, 4, ps, cs, po, co⟩, ⟨t, s, us, fs, fa, se, oo⟩, c, f, m, by show _ = Ending.returned (.tuple #[.agg (wv t s pu us.length cu pf fs.length cf (some ⟨fb, 0, none⟩) fa.length 4 ps se.length cs po oo.length co), .int .i64 c, .int .i64 f, .int .i64 m]); rw [h4], F2, Hdw.out, F3⟩
  simp [results, Try.results5, go_sem, q0, q1, q2, q3, q4, q5, q6]
set_option maxRecDepth 20000 in
set_option maxHeartbeats 16000000 in
theorem drawHasRight_c (w : World) (a0 : Option Addr) (len cap : Nat) (hb : Bytes w a0 len w.heap.size) (hl : len ≤ 1048576) :
    Calls Try.prog 8 #[.slice a0 len cap] w fun e w' => ∃ m k, e = .returned (.tuple #[.int .i64 m, .int .i64 k]) ∧ Below w.heap.size w w' := by
  have cx : Cx w a0 len := ⟨hb, hl⟩
  go_enter Try.func8, Try.ntmps8
  go_wp2_with fail
  refine (source w a0 len cap).mono ?_
  rintro e w1 ⟨rfl, st1⟩
  have d1 := Dn.start st1
  go_wp2_with fail
  refine (pickD PAny cx rfl d1 (by omega) (by omega) (by omega) (by simp [IntRow, PAny]) (by rfl)).mono ?_
  rintro e w2 ⟨m, rfl, _, d2, _⟩
  go_wp2_with fail
  refine (drawsD cx d2 14 (by omega) (by omega) (by omega)).mono ?_
  rintro e w3 ⟨r, rfl, r0, r1, d3, _⟩
  have hw : IntKind.i64.wrap (r - 1) = r - 1 := by rw [IntKind.wrap_i64]; omega
  go_wp2_with fail
  exact bodyPost_ret (v := .tuple #[.int .i64 m, .int .i64 (r - 1)]) (by simp [results, Try.results8, go_sem]) rfl ⟨m, r - 1, rfl, d3.below⟩
end Go.Proofs.Ytgfdfpaimlcgaaa
end

/- WfSame -/
/- Plain facts: the program and the model tell the same of a world whose Allies are from 0 to 31. No condition. -/
section
namespace Go.Proofs.Ytgfdfpaimlcgaaa
open Bd
set_option linter.unusedVariables false

theorem has32 {m : Int} (h0 : 0 ≤ m) (h1 : m < 32) (b : Int) : hasI m b = hasS m b := has_eq m b h0 (by omega)
theorem alB32 {m i : Int} (m0 : 0 ≤ m) (m1 : m < 32) : ∀ {k : Int} {l : List KA}, (∀ g ∈ l, 0 ≤ g.c2 ∧ g.c2 < 32) → alB hasI m i k l = alB hasS m i k l
  | _, [], _ => rfl
  | k, g :: l, h => by
    have hg := h g (by simp)
    unfold alB
    rw [has32 m0 m1, has32 hg.1 hg.2, alB32 m0 m1 (fun x hx => h x (List.mem_cons_of_mem _ hx))]
theorem faF32 {fa : List KA} (hfa : ∀ f ∈ fa, 0 ≤ f.c2 ∧ f.c2 < 32) : ∀ {l : List KA} {i : Int}, (∀ f ∈ l, 0 ≤ f.c2 ∧ f.c2 < 32) → faF hasI fa i l = faF hasS fa i l
  | [], _, _ => rfl
  | a :: l, i, h => by
    have ha := h a (by simp)
    have e : faC hasI fa i a = faC hasS fa i a := by unfold faC; rw [alB32 ha.1 ha.2 hfa]
    unfold faF
    rw [e, faF32 hfa (fun x hx => h x (List.mem_cons_of_mem _ hx))]
theorem ally32 {fa : List KA} (hfa : ∀ f ∈ fa, 0 ≤ f.c2 ∧ f.c2 < 32) (i : Int) : 0 ≤ allyA fa i ∧ allyA fa i < 32 := by
  unfold allyA
  rw [List.getD_eq_getElem?_getD]
  cases hh : fa[i.toNat]? with
  | none => exact ⟨by decide, by decide⟩
  | some g => exact hfa g (List.mem_of_getElem? hh)
theorem ofF32 {fa : List KA} (hfa : ∀ f ∈ fa, 0 ≤ f.c2 ∧ f.c2 < 32) : ∀ {l q : List K2}, ofF hasI fa q l = ofF hasS fa q l
  | [], _ => rfl
  | x :: l, q => by
    have hx := ally32 hfa x.c0
    have e : ofB hasI fa q x = ofB hasS fa q x := by unfold ofB; rw [has32 hx.1 hx.2]
    unfold ofF
    rw [e, ofF32 hfa]
theorem wf32 {x : KW} (hfa : ∀ f ∈ x.fa, 0 ≤ f.c2 ∧ f.c2 < 32) : wf hasI x = wf hasS x := by
  unfold wf
  rw [faF32 hfa hfa, ofF32 hfa]
theorem DW.wf {x : KW} (h : DW x) : Go.Proofs.Ytgfdfpaimlcgaaa.wf hasI x = Go.Proofs.Ytgfdfpaimlcgaaa.wf hasS x := wf32 h.a.p
theorem DW.prF {x : KW} (h : DW x) (a b : Int) : Go.Proofs.Ytgfdfpaimlcgaaa.prF hasI x a b = Go.Proofs.Ytgfdfpaimlcgaaa.prF hasS x a b := by unfold Go.Proofs.Ytgfdfpaimlcgaaa.prF; rw [h.wf]
theorem DW.payC {x : KW} (h : DW x) (a b n : Int) : Go.Proofs.Ytgfdfpaimlcgaaa.payC hasI x a b n = Go.Proofs.Ytgfdfpaimlcgaaa.payC hasS x a b n := by unfold Go.Proofs.Ytgfdfpaimlcgaaa.payC; rw [h.prF]
theorem DW.payX {x : KW} (h : DW x) (a b n : Int) : Go.Proofs.Ytgfdfpaimlcgaaa.payX hasI x a b n = Go.Proofs.Ytgfdfpaimlcgaaa.payX hasS x a b n := by unfold Go.Proofs.Ytgfdfpaimlcgaaa.payX; rw [h.payC]
end Go.Proofs.Ytgfdfpaimlcgaaa
end
