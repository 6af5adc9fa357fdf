/- Contracts of the exact laws' own helper toWorld. Condition: the lists have at most 1048576 members together. -/
import Derived.Test.YtibkdkjcncfmgaaExactWorld0
namespace Go.Proofs.Ytibkdkjcncfmgaa
open Go.ChangeShapes Go.WideShapes Go.ChangeAt Go.RowKit
set_option linter.unusedVariables false

set_option maxRecDepth 20000 in
set_option maxHeartbeats 8000000 in
theorem toWorld_c (p : WP) (x : KW) (hm : x.n ≤ 1048576) (w : World) (h : ArgW w p x) :
    Calls Try.prog 36 #[.agg (p.v x)] w fun e w' => ∃ gu gf ga gs go, e = .returned (.agg ((nwp gu gf ga gs go x).v x)) ∧ NewW w' w.heap.size gu gf ga gs go x ∧ Below w.heap.size w w' := by
  obtain ⟨t, s, us, fs, fa, se, oo⟩ := x
  obtain ⟨u, uc, f, fc, a, ac, q, qc, r, rc⟩ := p
  obtain ⟨hU, hF, hA, hS, hO⟩ := h
  dsimp only at hU hF hA hS hO
  unfold KW.n at hm
  dsimp only at hm
  have HU : Hid (ArgU w u us) := hU
  have HF : Hid (ArgF w f fs) := hF
  have HA : Hid (ArgA w a fa) := hA
  have HS : Hid (ArgS w q se) := hS
  have HO : Hid (ArgO w r oo) := hO
  have cB := fun W h h' => toBoard_c u uc f fc us fs (by omega) (by omega) W h h'
  have cA := fun W h => toFactionS_c a fa.length ac fa rfl (by omega) W h
  have cS := fun W h => toSeatS_c q se.length qc se rfl (by omega) W h
  have cO := fun W h => toOfferS_c r oo.length rc oo rfl (by omega) W h
  clear hU hF hA hS hO
  obtain ⟨mu, Hu⟩ : ∃ m, Hid (us.length = m) := ⟨_, rfl⟩
  obtain ⟨mf, Hf⟩ : ∃ m, Hid (fs.length = m) := ⟨_, rfl⟩
  obtain ⟨ma, Ha⟩ : ∃ m, Hid (fa.length = m) := ⟨_, rfl⟩
  obtain ⟨ms, Hs⟩ : ∃ m, Hid (se.length = m) := ⟨_, rfl⟩
  obtain ⟨mo, Ho⟩ : ∃ m, Hid (oo.length = m) := ⟨_, rfl⟩
  show Calls Try.prog 36 #[.agg (wv t s u us.length uc f fs.length fc a fa.length ac q se.length qc r oo.length rc)] w _
  have fin : ∀ (gu gf ga gs go : Nat) (W' : World), NewW W' w.heap.size gu gf ga gs go ⟨t, s, us, fs, fa, se, oo⟩ → Below w.heap.size w W' → (fun e w' => ∃ gu gf ga gs go, e = Ending.returned (.agg ((nwp gu gf ga gs go ⟨t, s, us, fs, fa, se, oo⟩).v ⟨t, s, us, fs, fa, se, oo⟩)) ∧ NewW w' w.heap.size gu gf ga gs go ⟨t, s, us, fs, fa, se, oo⟩ ∧ Below w.heap.size w w') (.returned (.agg (wv t s (some ⟨gu, 0, none⟩) mu mu (some ⟨gf, 0, none⟩) mf mf (some ⟨ga, 0, none⟩) ma ma (some ⟨gs, 0, none⟩) ms ms (some ⟨go, 0, none⟩) mo mo))) W' := fun gu gf ga gs go W' hN hB =>
    ⟨gu, gf, ga, gs, go, by rw [← Hu.out, ← Hf.out, ← Ha.out, ← Hs.out, ← Ho.out]; rfl, hN, hB⟩
  rw [Hu.out, Hf.out] at cB
  rw [Ha.out] at cA
  rw [Hs.out] at cS
  rw [Ho.out] at cO
  rw [Hu.out, Hf.out, Ha.out, Hs.out, Ho.out] at hm ⊢
  obtain ⟨Q, HQ⟩ : ∃ Q : Ending → World → Prop, Q = (fun e w' => ∃ gu gf ga gs go, e = Ending.returned (.agg ((nwp gu gf ga gs go ⟨t, s, us, fs, fa, se, oo⟩).v ⟨t, s, us, fs, fa, se, oo⟩)) ∧ NewW w' w.heap.size gu gf ga gs go ⟨t, s, us, fs, fa, se, oo⟩ ∧ Below w.heap.size w w') := ⟨_, rfl⟩
  rw [← HQ] at fin
  have HQ' : Hid (Q = (fun e w' => ∃ gu gf ga gs go, e = Ending.returned (.agg ((nwp gu gf ga gs go ⟨t, s, us, fs, fa, se, oo⟩).v ⟨t, s, us, fs, fa, se, oo⟩)) ∧ NewW w' w.heap.size gu gf ga gs go ⟨t, s, us, fs, fa, se, oo⟩ ∧ Below w.heap.size w w')) := HQ
  suffices hh : Calls Try.prog 36 #[.agg (wv t s u mu uc f mf fc a ma ac q ms qc r mo rc)] w Q by rw [HQ] at hh; exact hh
  clear HQ
  go_enter Try.func36, Try.ntmps36
  obtain ⟨W3, HW3⟩ : ∃ W3, Hid (W3 = ((w.alloc (.cells (wv t s u mu uc f mf fc a ma ac q ms qc r mo rc) 64)).alloc (.cells #[.int .i64 0, .int .i64 0, .slice none 0 0, .slice none 0 0, .slice none 0 0, .slice none 0 0, .slice none 0 0] 71)).alloc (.cells #[.int .i64 t, .int .i64 s, .slice none 0 0, .slice none 0 0, .slice none 0 0, .slice none 0 0, .slice none 0 0] 71)) := ⟨_, rfl⟩
  have e1 : (w.alloc (.cells (wv t s u mu uc f mf fc a ma ac q ms qc r mo rc) 64)).heap.size = w.heap.size + 1 := size_new _ _
  have e2 : ((w.alloc (.cells (wv t s u mu uc f mf fc a ma ac q ms qc r mo rc) 64)).alloc (.cells #[.int .i64 0, .int .i64 0, .slice none 0 0, .slice none 0 0, .slice none 0 0, .slice none 0 0, .slice none 0 0] 71)).heap.size = w.heap.size + 1 + 1 := by rw [size_new, e1]
  have e3 : W3.heap.size = w.heap.size + 1 + 1 + 1 := by rw [HW3.out, size_new, e2]
  have P3 : Bk W3 w.heap.size (wv t s u mu uc f mf fc a ma ac q ms qc r mo rc) 64 := by rw [HW3.out]; exact ((Bk.new w (wv t s u mu uc f mf fc a ma ac q ms qc r mo rc) 64).alloc _).alloc _
  have R3 : Bk W3 (w.heap.size + 1) #[.int .i64 0, .int .i64 0, .slice none 0 0, .slice none 0 0, .slice none 0 0, .slice none 0 0, .slice none 0 0] 71 := by rw [HW3.out]; have h := (Bk.new (w.alloc (.cells (wv t s u mu uc f mf fc a ma ac q ms qc r mo rc) 64)) #[.int .i64 0, .int .i64 0, .slice none 0 0, .slice none 0 0, .slice none 0 0, .slice none 0 0, .slice none 0 0] 71).alloc (.cells #[.int .i64 t, .int .i64 s, .slice none 0 0, .slice none 0 0, .slice none 0 0, .slice none 0 0, .slice none 0 0] 71); rw [e1] at h; exact h
  have C3 : Bk W3 (w.heap.size + 1 + 1) #[.int .i64 t, .int .i64 s, .slice none 0 0, .slice none 0 0, .slice none 0 0, .slice none 0 0, .slice none 0 0] 71 := by rw [HW3.out]; have h := Bk.new ((w.alloc (.cells (wv t s u mu uc f mf fc a ma ac q ms qc r mo rc) 64)).alloc (.cells #[.int .i64 0, .int .i64 0, .slice none 0 0, .slice none 0 0, .slice none 0 0, .slice none 0 0, .slice none 0 0] 71)) #[.int .i64 t, .int .i64 s, .slice none 0 0, .slice none 0 0, .slice none 0 0, .slice none 0 0, .slice none 0 0] 71; rw [e2] at h; exact h
  have B3 : Below w.heap.size w W3 := by rw [HW3.out]; exact (((Below.refl _ _).alloc (Nat.le_refl _) _).alloc (by rw [e1]; omega) _).alloc (by rw [e2]; omega) _
  clear e1 e2
  go_upto_region 4 with fail
  rw [← HW3.out]
  have p2 := P3.cell (i := 2) rfl
  have p3 := P3.cell (i := 3) rfl
  have pl := P3.lt
  go_wp2_with fail
  refine (cB _ (HU.out.later B3) (HF.out.later B3)).mono ?_
  rintro e w1 ⟨gu, gf, rfl, N1, k1⟩
  have hgu := N1.le
  have hgf := N1.lt
  replace P3 := P3.below k1
  replace R3 := R3.below k1
  replace C3 := C3.below k1
  have B4 := B3.trans (k1.mono B3.size)
  have y2 := C3.cell (i := 2) rfl
  have y3 := C3.cell (i := 3) rfl
  have f2 := C3.frozen 2
  have f3 := C3.frozen 3
  have yl := C3.lt
  obtain ⟨W4, HW4⟩ : ∃ W4, Hid (W4 = (w1.setCell ⟨w.heap.size + 1 + 1, 2, none⟩ (.slice (some ⟨gu, 0, none⟩) mu mu)).setCell ⟨w.heap.size + 1 + 1, 3, none⟩ (.slice (some ⟨gf, 0, none⟩) mf mf)) := ⟨_, rfl⟩
  have P4 : Bk W4 w.heap.size (wv t s u mu uc f mf fc a ma ac q ms qc r mo rc) 64 := by rw [HW4.out]; exact (P3.setOther (a := ⟨w.heap.size + 1 + 1, 2, none⟩) (by show w.heap.size ≠ w.heap.size + 1 + 1; omega) _).setOther (a := ⟨w.heap.size + 1 + 1, 3, none⟩) (by show w.heap.size ≠ w.heap.size + 1 + 1; omega) _
  have R4 : Bk W4 (w.heap.size + 1) #[.int .i64 0, .int .i64 0, .slice none 0 0, .slice none 0 0, .slice none 0 0, .slice none 0 0, .slice none 0 0] 71 := by rw [HW4.out]; exact (R3.setOther (a := ⟨w.heap.size + 1 + 1, 2, none⟩) (by show w.heap.size + 1 ≠ w.heap.size + 1 + 1; omega) _).setOther (a := ⟨w.heap.size + 1 + 1, 3, none⟩) (by show w.heap.size + 1 ≠ w.heap.size + 1 + 1; omega) _
  have C4 : Bk W4 (w.heap.size + 1 + 1) #[.int .i64 t, .int .i64 s, .slice (some ⟨gu, 0, none⟩) mu mu, .slice (some ⟨gf, 0, none⟩) mf mf, .slice none 0 0, .slice none 0 0, .slice none 0 0] 71 := by rw [HW4.out]; exact (C3.set 2 (.slice (some ⟨gu, 0, none⟩) mu mu)).set 3 (.slice (some ⟨gf, 0, none⟩) mf mf)
  have Nu4 : W4.rowIs gu 29 (us.length * 10) (rowU us us.length) := by rw [HW4.out]; exact row_other (row_other N1.u (a := ⟨w.heap.size + 1 + 1, 2, none⟩) (by show gu ≠ w.heap.size + 1 + 1; omega) _) (a := ⟨w.heap.size + 1 + 1, 3, none⟩) (by show gu ≠ w.heap.size + 1 + 1; omega) _
  have Nf4 : W4.rowIs gf 105 (fs.length * 3) (rowF fs fs.length) := by rw [HW4.out]; exact row_other (row_other N1.f (a := ⟨w.heap.size + 1 + 1, 2, none⟩) (by show gf ≠ w.heap.size + 1 + 1; omega) _) (a := ⟨w.heap.size + 1 + 1, 3, none⟩) (by show gf ≠ w.heap.size + 1 + 1; omega) _
  have B5 : Below w.heap.size w W4 := by rw [HW4.out]; exact bel_set (bel_set B4 (w.heap.size + 1 + 1) 2 (by omega) _) (w.heap.size + 1 + 1) 3 (by omega) _
  clear p2 p3 pl P3 R3 C3 N1 k1 B4 B3 HW3
  go_upto_region 5 with fail
  rw [← HW4.out]
  clear y2 y3 f2 f3 yl HW4
  have p4 := P4.cell (i := 4) rfl
  have pl := P4.lt
  have hWc : w.heap.size + 1 + 1 < W4.heap.size := C4.lt
  go_wp2_with fail
  refine (cA _ (HA.out.later B5)).mono ?_
  rintro e wa ⟨rfl, Na, ka⟩
  rw [← Ha.out] at Na
  obtain ⟨ga, HGa⟩ : ∃ g, Hid (W4.heap.size = g) := ⟨_, rfl⟩
  rw [HGa.out] at Na hWc ⊢
  replace P4 := P4.below ka
  replace R4 := R4.below ka
  replace C4 := C4.below ka
  replace B5 := B5.trans (ka.mono B5.size)
  replace Nu4 := Nu4.of_block (ka.block _ Nu4.lt)
  replace Nf4 := Nf4.of_block (ka.block _ Nf4.lt)
  have y := C4.cell (i := 4) rfl
  have fz := C4.frozen 4
  have yl := C4.lt
  obtain ⟨W5, HW5⟩ : ∃ W', Hid (W' = wa.setCell ⟨w.heap.size + 1 + 1, 4, none⟩ (.slice (some ⟨ga, 0, none⟩) ma ma)) := ⟨_, rfl⟩
  replace P4 : Bk W5 w.heap.size (wv t s u mu uc f mf fc a ma ac q ms qc r mo rc) 64 := by rw [HW5.out]; exact P4.setOther (a := ⟨w.heap.size + 1 + 1, 4, none⟩) (by show w.heap.size ≠ w.heap.size + 1 + 1; omega) _
  replace R4 : Bk W5 (w.heap.size + 1) #[.int .i64 0, .int .i64 0, .slice none 0 0, .slice none 0 0, .slice none 0 0, .slice none 0 0, .slice none 0 0] 71 := by rw [HW5.out]; exact R4.setOther (a := ⟨w.heap.size + 1 + 1, 4, none⟩) (by show w.heap.size + 1 ≠ w.heap.size + 1 + 1; omega) _
  replace C4 : Bk W5 (w.heap.size + 1 + 1) #[.int .i64 t, .int .i64 s, .slice (some ⟨gu, 0, none⟩) mu mu, .slice (some ⟨gf, 0, none⟩) mf mf, .slice (some ⟨ga, 0, none⟩) ma ma, .slice none 0 0, .slice none 0 0] 71 := by rw [HW5.out]; exact C4.set 4 (.slice (some ⟨ga, 0, none⟩) ma ma)
  replace Nu4 := row_other Nu4 (a := ⟨w.heap.size + 1 + 1, 4, none⟩) (by show gu ≠ w.heap.size + 1 + 1; omega) (.slice (some ⟨ga, 0, none⟩) ma ma)
  rw [← HW5.out] at Nu4
  replace Nf4 := row_other Nf4 (a := ⟨w.heap.size + 1 + 1, 4, none⟩) (by show gf ≠ w.heap.size + 1 + 1; omega) (.slice (some ⟨ga, 0, none⟩) ma ma)
  rw [← HW5.out] at Nf4
  replace Na := row_other Na (a := ⟨w.heap.size + 1 + 1, 4, none⟩) (by show ga ≠ w.heap.size + 1 + 1; omega) (.slice (some ⟨ga, 0, none⟩) ma ma)
  rw [← HW5.out] at Na
  replace B5 : Below w.heap.size w W5 := by rw [HW5.out]; exact bel_set B5 (w.heap.size + 1 + 1) 4 (by omega) _
  have hga : w.heap.size + 1 + 1 < ga := hWc
  clear p4 pl hWc ka HGa
  go_upto_region 6 with fail
  rw [← HW5.out]
  clear y fz yl HW5
  have p5 := P4.cell (i := 5) rfl
  have pl := P4.lt
  have hWc : w.heap.size + 1 + 1 < W5.heap.size := C4.lt
  go_wp2_with fail
  refine (cS _ (HS.out.later B5)).mono ?_
  rintro e wb ⟨rfl, Ns, ks⟩
  rw [← Hs.out] at Ns
  obtain ⟨gs, HGs⟩ : ∃ g, Hid (W5.heap.size = g) := ⟨_, rfl⟩
  rw [HGs.out] at Ns hWc ⊢
  replace P4 := P4.below ks
  replace R4 := R4.below ks
  replace C4 := C4.below ks
  replace B5 := B5.trans (ks.mono B5.size)
  replace Nu4 := Nu4.of_block (ks.block _ Nu4.lt)
  replace Nf4 := Nf4.of_block (ks.block _ Nf4.lt)
  replace Na := Na.of_block (ks.block _ Na.lt)
  have y := C4.cell (i := 5) rfl
  have fz := C4.frozen 5
  have yl := C4.lt
  obtain ⟨W6, HW6⟩ : ∃ W', Hid (W' = wb.setCell ⟨w.heap.size + 1 + 1, 5, none⟩ (.slice (some ⟨gs, 0, none⟩) ms ms)) := ⟨_, rfl⟩
  replace P4 : Bk W6 w.heap.size (wv t s u mu uc f mf fc a ma ac q ms qc r mo rc) 64 := by rw [HW6.out]; exact P4.setOther (a := ⟨w.heap.size + 1 + 1, 5, none⟩) (by show w.heap.size ≠ w.heap.size + 1 + 1; omega) _
  replace R4 : Bk W6 (w.heap.size + 1) #[.int .i64 0, .int .i64 0, .slice none 0 0, .slice none 0 0, .slice none 0 0, .slice none 0 0, .slice none 0 0] 71 := by rw [HW6.out]; exact R4.setOther (a := ⟨w.heap.size + 1 + 1, 5, none⟩) (by show w.heap.size + 1 ≠ w.heap.size + 1 + 1; omega) _
  replace C4 : Bk W6 (w.heap.size + 1 + 1) #[.int .i64 t, .int .i64 s, .slice (some ⟨gu, 0, none⟩) mu mu, .slice (some ⟨gf, 0, none⟩) mf mf, .slice (some ⟨ga, 0, none⟩) ma ma, .slice (some ⟨gs, 0, none⟩) ms ms, .slice none 0 0] 71 := by rw [HW6.out]; exact C4.set 5 (.slice (some ⟨gs, 0, none⟩) ms ms)
  replace Nu4 := row_other Nu4 (a := ⟨w.heap.size + 1 + 1, 5, none⟩) (by show gu ≠ w.heap.size + 1 + 1; omega) (.slice (some ⟨gs, 0, none⟩) ms ms)
  rw [← HW6.out] at Nu4
  replace Nf4 := row_other Nf4 (a := ⟨w.heap.size + 1 + 1, 5, none⟩) (by show gf ≠ w.heap.size + 1 + 1; omega) (.slice (some ⟨gs, 0, none⟩) ms ms)
  rw [← HW6.out] at Nf4
  replace Na := row_other Na (a := ⟨w.heap.size + 1 + 1, 5, none⟩) (by show ga ≠ w.heap.size + 1 + 1; omega) (.slice (some ⟨gs, 0, none⟩) ms ms)
  rw [← HW6.out] at Na
  replace Ns := row_other Ns (a := ⟨w.heap.size + 1 + 1, 5, none⟩) (by show gs ≠ w.heap.size + 1 + 1; omega) (.slice (some ⟨gs, 0, none⟩) ms ms)
  rw [← HW6.out] at Ns
  replace B5 : Below w.heap.size w W6 := by rw [HW6.out]; exact bel_set B5 (w.heap.size + 1 + 1) 5 (by omega) _
  have hgs : w.heap.size + 1 + 1 < gs := hWc
  clear p5 pl hWc ks HGs
  go_upto_region 7 with fail
  rw [← HW6.out]
  clear y fz yl HW6
  have p6 := P4.cell (i := 6) rfl
  have pl := P4.lt
  have hWc : w.heap.size + 1 + 1 < W6.heap.size := C4.lt
  go_wp2_with fail
  refine (cO _ (HO.out.later B5)).mono ?_
  rintro e wd ⟨rfl, No, ko⟩
  rw [← Ho.out] at No
  obtain ⟨go, HGo⟩ : ∃ g, Hid (W6.heap.size = g) := ⟨_, rfl⟩
  rw [HGo.out] at No hWc ⊢
  replace P4 := P4.below ko
  replace R4 := R4.below ko
  replace C4 := C4.below ko
  replace B5 := B5.trans (ko.mono B5.size)
  replace Nu4 := Nu4.of_block (ko.block _ Nu4.lt)
  replace Nf4 := Nf4.of_block (ko.block _ Nf4.lt)
  replace Na := Na.of_block (ko.block _ Na.lt)
  replace Ns := Ns.of_block (ko.block _ Ns.lt)
  have y := C4.cell (i := 6) rfl
  have fz := C4.frozen 6
  have yl := C4.lt
  obtain ⟨W7, HW7⟩ : ∃ W', Hid (W' = wd.setCell ⟨w.heap.size + 1 + 1, 6, none⟩ (.slice (some ⟨go, 0, none⟩) mo mo)) := ⟨_, rfl⟩
  replace P4 : Bk W7 w.heap.size (wv t s u mu uc f mf fc a ma ac q ms qc r mo rc) 64 := by rw [HW7.out]; exact P4.setOther (a := ⟨w.heap.size + 1 + 1, 6, none⟩) (by show w.heap.size ≠ w.heap.size + 1 + 1; omega) _
  replace R4 : Bk W7 (w.heap.size + 1) #[.int .i64 0, .int .i64 0, .slice none 0 0, .slice none 0 0, .slice none 0 0, .slice none 0 0, .slice none 0 0] 71 := by rw [HW7.out]; exact R4.setOther (a := ⟨w.heap.size + 1 + 1, 6, none⟩) (by show w.heap.size + 1 ≠ w.heap.size + 1 + 1; omega) _
  replace C4 : Bk W7 (w.heap.size + 1 + 1) #[.int .i64 t, .int .i64 s, .slice (some ⟨gu, 0, none⟩) mu mu, .slice (some ⟨gf, 0, none⟩) mf mf, .slice (some ⟨ga, 0, none⟩) ma ma, .slice (some ⟨gs, 0, none⟩) ms ms, .slice (some ⟨go, 0, none⟩) mo mo] 71 := by rw [HW7.out]; exact C4.set 6 (.slice (some ⟨go, 0, none⟩) mo mo)
  replace Nu4 := row_other Nu4 (a := ⟨w.heap.size + 1 + 1, 6, none⟩) (by show gu ≠ w.heap.size + 1 + 1; omega) (.slice (some ⟨go, 0, none⟩) mo mo)
  rw [← HW7.out] at Nu4
  replace Nf4 := row_other Nf4 (a := ⟨w.heap.size + 1 + 1, 6, none⟩) (by show gf ≠ w.heap.size + 1 + 1; omega) (.slice (some ⟨go, 0, none⟩) mo mo)
  rw [← HW7.out] at Nf4
  replace Na := row_other Na (a := ⟨w.heap.size + 1 + 1, 6, none⟩) (by show ga ≠ w.heap.size + 1 + 1; omega) (.slice (some ⟨go, 0, none⟩) mo mo)
  rw [← HW7.out] at Na
  replace Ns := row_other Ns (a := ⟨w.heap.size + 1 + 1, 6, none⟩) (by show gs ≠ w.heap.size + 1 + 1; omega) (.slice (some ⟨go, 0, none⟩) mo mo)
  rw [← HW7.out] at Ns
  replace No := row_other No (a := ⟨w.heap.size + 1 + 1, 6, none⟩) (by show go ≠ w.heap.size + 1 + 1; omega) (.slice (some ⟨go, 0, none⟩) mo mo)
  rw [← HW7.out] at No
  replace B5 : Below w.heap.size w W7 := by rw [HW7.out]; exact bel_set B5 (w.heap.size + 1 + 1) 6 (by omega) _
  have hgo : w.heap.size + 1 + 1 < go := hWc
  clear p6 pl hWc ko HGo
  go_upto_region 8 with fail
  rw [← HW7.out]
  clear y fz yl HW7
  have y0 := C4.cell (i := 0) rfl
  have x0 := R4.cell (i := 0) rfl
  have z0 := R4.frozen 0
  have y1 := C4.cell (i := 1) rfl
  have x1 := R4.cell (i := 1) rfl
  have z1 := R4.frozen 1
  have y2 := C4.cell (i := 2) rfl
  have x2 := R4.cell (i := 2) rfl
  have z2 := R4.frozen 2
  have y3 := C4.cell (i := 3) rfl
  have x3 := R4.cell (i := 3) rfl
  have z3 := R4.frozen 3
  have y4 := C4.cell (i := 4) rfl
  have x4 := R4.cell (i := 4) rfl
  have z4 := R4.frozen 4
  have y5 := C4.cell (i := 5) rfl
  have x5 := R4.cell (i := 5) rfl
  have z5 := R4.frozen 5
  have y6 := C4.cell (i := 6) rfl
  have x6 := R4.cell (i := 6) rfl
  have z6 := R4.frozen 6
  have yl := C4.lt
  have xl := R4.lt
  go_wp2_with fail
  have q0 : Bk _ (w.heap.size + 1) #[.int .i64 t, .int .i64 0, .slice none 0 0, .slice none 0 0, .slice none 0 0, .slice none 0 0, .slice none 0 0] 71 := R4.set 0 (.int .i64 t)
  have q1 : Bk _ (w.heap.size + 1) #[.int .i64 t, .int .i64 s, .slice none 0 0, .slice none 0 0, .slice none 0 0, .slice none 0 0, .slice none 0 0] 71 := q0.set 1 (.int .i64 s)
  have q2 : Bk _ (w.heap.size + 1) #[.int .i64 t, .int .i64 s, .slice (some ⟨gu, 0, none⟩) mu mu, .slice none 0 0, .slice none 0 0, .slice none 0 0, .slice none 0 0] 71 := q1.set 2 (.slice (some ⟨gu, 0, none⟩) mu mu)
  have q3 : Bk _ (w.heap.size + 1) #[.int .i64 t, .int .i64 s, .slice (some ⟨gu, 0, none⟩) mu mu, .slice (some ⟨gf, 0, none⟩) mf mf, .slice none 0 0, .slice none 0 0, .slice none 0 0] 71 := q2.set 3 (.slice (some ⟨gf, 0, none⟩) mf mf)
  have q4 : Bk _ (w.heap.size + 1) #[.int .i64 t, .int .i64 s, .slice (some ⟨gu, 0, none⟩) mu mu, .slice (some ⟨gf, 0, none⟩) mf mf, .slice (some ⟨ga, 0, none⟩) ma ma, .slice none 0 0, .slice none 0 0] 71 := q3.set 4 (.slice (some ⟨ga, 0, none⟩) ma ma)
  have q5 : Bk _ (w.heap.size + 1) #[.int .i64 t, .int .i64 s, .slice (some ⟨gu, 0, none⟩) mu mu, .slice (some ⟨gf, 0, none⟩) mf mf, .slice (some ⟨ga, 0, none⟩) ma ma, .slice (some ⟨gs, 0, none⟩) ms ms, .slice none 0 0] 71 := q4.set 5 (.slice (some ⟨gs, 0, none⟩) ms ms)
  have q6 : Bk _ (w.heap.size + 1) #[.int .i64 t, .int .i64 s, .slice (some ⟨gu, 0, none⟩) mu mu, .slice (some ⟨gf, 0, none⟩) mf mf, .slice (some ⟨ga, 0, none⟩) ma ma, .slice (some ⟨gs, 0, none⟩) ms ms, .slice (some ⟨go, 0, none⟩) mo mo] 71 := q5.set 6 (.slice (some ⟨go, 0, none⟩) mo mo)
  have t0 := (row_other (row_other (row_other (row_other (row_other (row_other (row_other Nu4 (a := ⟨w.heap.size + 1, 0, none⟩) (by show gu ≠ w.heap.size + 1; omega) (.int .i64 t)) (a := ⟨w.heap.size + 1, 1, none⟩) (by show gu ≠ w.heap.size + 1; omega) (.int .i64 s)) (a := ⟨w.heap.size + 1, 2, none⟩) (by show gu ≠ w.heap.size + 1; omega) (.slice (some ⟨gu, 0, none⟩) mu mu)) (a := ⟨w.heap.size + 1, 3, none⟩) (by show gu ≠ w.heap.size + 1; omega) (.slice (some ⟨gf, 0, none⟩) mf mf)) (a := ⟨w.heap.size + 1, 4, none⟩) (by show gu ≠ w.heap.size + 1; omega) (.slice (some ⟨ga, 0, none⟩) ma ma)) (a := ⟨w.heap.size + 1, 5, none⟩) (by show gu ≠ w.heap.size + 1; omega) (.slice (some ⟨gs, 0, none⟩) ms ms)) (a := ⟨w.heap.size + 1, 6, none⟩) (by show gu ≠ w.heap.size + 1; omega) (.slice (some ⟨go, 0, none⟩) mo mo))
  have t1 := (row_other (row_other (row_other (row_other (row_other (row_other (row_other Nf4 (a := ⟨w.heap.size + 1, 0, none⟩) (by show gf ≠ w.heap.size + 1; omega) (.int .i64 t)) (a := ⟨w.heap.size + 1, 1, none⟩) (by show gf ≠ w.heap.size + 1; omega) (.int .i64 s)) (a := ⟨w.heap.size + 1, 2, none⟩) (by show gf ≠ w.heap.size + 1; omega) (.slice (some ⟨gu, 0, none⟩) mu mu)) (a := ⟨w.heap.size + 1, 3, none⟩) (by show gf ≠ w.heap.size + 1; omega) (.slice (some ⟨gf, 0, none⟩) mf mf)) (a := ⟨w.heap.size + 1, 4, none⟩) (by show gf ≠ w.heap.size + 1; omega) (.slice (some ⟨ga, 0, none⟩) ma ma)) (a := ⟨w.heap.size + 1, 5, none⟩) (by show gf ≠ w.heap.size + 1; omega) (.slice (some ⟨gs, 0, none⟩) ms ms)) (a := ⟨w.heap.size + 1, 6, none⟩) (by show gf ≠ w.heap.size + 1; omega) (.slice (some ⟨go, 0, none⟩) mo mo))
  have t2 := (row_other (row_other (row_other (row_other (row_other (row_other (row_other Na (a := ⟨w.heap.size + 1, 0, none⟩) (by show ga ≠ w.heap.size + 1; omega) (.int .i64 t)) (a := ⟨w.heap.size + 1, 1, none⟩) (by show ga ≠ w.heap.size + 1; omega) (.int .i64 s)) (a := ⟨w.heap.size + 1, 2, none⟩) (by show ga ≠ w.heap.size + 1; omega) (.slice (some ⟨gu, 0, none⟩) mu mu)) (a := ⟨w.heap.size + 1, 3, none⟩) (by show ga ≠ w.heap.size + 1; omega) (.slice (some ⟨gf, 0, none⟩) mf mf)) (a := ⟨w.heap.size + 1, 4, none⟩) (by show ga ≠ w.heap.size + 1; omega) (.slice (some ⟨ga, 0, none⟩) ma ma)) (a := ⟨w.heap.size + 1, 5, none⟩) (by show ga ≠ w.heap.size + 1; omega) (.slice (some ⟨gs, 0, none⟩) ms ms)) (a := ⟨w.heap.size + 1, 6, none⟩) (by show ga ≠ w.heap.size + 1; omega) (.slice (some ⟨go, 0, none⟩) mo mo))
  have t3 := (row_other (row_other (row_other (row_other (row_other (row_other (row_other Ns (a := ⟨w.heap.size + 1, 0, none⟩) (by show gs ≠ w.heap.size + 1; omega) (.int .i64 t)) (a := ⟨w.heap.size + 1, 1, none⟩) (by show gs ≠ w.heap.size + 1; omega) (.int .i64 s)) (a := ⟨w.heap.size + 1, 2, none⟩) (by show gs ≠ w.heap.size + 1; omega) (.slice (some ⟨gu, 0, none⟩) mu mu)) (a := ⟨w.heap.size + 1, 3, none⟩) (by show gs ≠ w.heap.size + 1; omega) (.slice (some ⟨gf, 0, none⟩) mf mf)) (a := ⟨w.heap.size + 1, 4, none⟩) (by show gs ≠ w.heap.size + 1; omega) (.slice (some ⟨ga, 0, none⟩) ma ma)) (a := ⟨w.heap.size + 1, 5, none⟩) (by show gs ≠ w.heap.size + 1; omega) (.slice (some ⟨gs, 0, none⟩) ms ms)) (a := ⟨w.heap.size + 1, 6, none⟩) (by show gs ≠ w.heap.size + 1; omega) (.slice (some ⟨go, 0, none⟩) mo mo))
  have t4 := (row_other (row_other (row_other (row_other (row_other (row_other (row_other No (a := ⟨w.heap.size + 1, 0, none⟩) (by show go ≠ w.heap.size + 1; omega) (.int .i64 t)) (a := ⟨w.heap.size + 1, 1, none⟩) (by show go ≠ w.heap.size + 1; omega) (.int .i64 s)) (a := ⟨w.heap.size + 1, 2, none⟩) (by show go ≠ w.heap.size + 1; omega) (.slice (some ⟨gu, 0, none⟩) mu mu)) (a := ⟨w.heap.size + 1, 3, none⟩) (by show go ≠ w.heap.size + 1; omega) (.slice (some ⟨gf, 0, none⟩) mf mf)) (a := ⟨w.heap.size + 1, 4, none⟩) (by show go ≠ w.heap.size + 1; omega) (.slice (some ⟨ga, 0, none⟩) ma ma)) (a := ⟨w.heap.size + 1, 5, none⟩) (by show go ≠ w.heap.size + 1; omega) (.slice (some ⟨gs, 0, none⟩) ms ms)) (a := ⟨w.heap.size + 1, 6, none⟩) (by show go ≠ w.heap.size + 1; omega) (.slice (some ⟨go, 0, none⟩) mo mo))
  have t5 := (bel_set (bel_set (bel_set (bel_set (bel_set (bel_set (bel_set B5 (w.heap.size + 1) 0 (by omega) (.int .i64 t)) (w.heap.size + 1) 1 (by omega) (.int .i64 s)) (w.heap.size + 1) 2 (by omega) (.slice (some ⟨gu, 0, none⟩) mu mu)) (w.heap.size + 1) 3 (by omega) (.slice (some ⟨gf, 0, none⟩) mf mf)) (w.heap.size + 1) 4 (by omega) (.slice (some ⟨ga, 0, none⟩) ma ma)) (w.heap.size + 1) 5 (by omega) (.slice (some ⟨gs, 0, none⟩) ms ms)) (w.heap.size + 1) 6 (by omega) (.slice (some ⟨go, 0, none⟩) mo mo))
  have d0 : World.cell? _ ⟨w.heap.size + 1, 0, none⟩ = some (.int .i64 t) := q6.cell (i := 0) rfl
  have d1 : World.cell? _ ⟨w.heap.size + 1, 1, none⟩ = some (.int .i64 s) := q6.cell (i := 1) rfl
  have d2 : World.cell? _ ⟨w.heap.size + 1, 2, none⟩ = some (.slice (some ⟨gu, 0, none⟩) mu mu) := q6.cell (i := 2) rfl
  have d3 : World.cell? _ ⟨w.heap.size + 1, 3, none⟩ = some (.slice (some ⟨gf, 0, none⟩) mf mf) := q6.cell (i := 3) rfl
  have d4 : World.cell? _ ⟨w.heap.size + 1, 4, none⟩ = some (.slice (some ⟨ga, 0, none⟩) ma ma) := q6.cell (i := 4) rfl
  have d5 : World.cell? _ ⟨w.heap.size + 1, 5, none⟩ = some (.slice (some ⟨gs, 0, none⟩) ms ms) := q6.cell (i := 5) rfl
  have d6 : World.cell? _ ⟨w.heap.size + 1, 6, none⟩ = some (.slice (some ⟨go, 0, none⟩) mo mo) := q6.cell (i := 6) rfl
  refine bodyPost_ret (v := .agg (wv t s (some ⟨gu, 0, none⟩) mu mu (some ⟨gf, 0, none⟩) mf mf (some ⟨ga, 0, none⟩) ma ma (some ⟨gs, 0, none⟩) ms ms (some ⟨go, 0, none⟩) mo mo)) ?_ rfl (fin gu gf ga gs go _ ⟨t0, t1, t2, t3, t4, hgf⟩ t5)
  simp [results, Try.results36, go_sem, d0, d1, d2, d3, d4, d5, d6]
  done
end Go.Proofs.Ytibkdkjcncfmgaa
