/- Texts of mine put together (a claim holds at most 60 files): TickOne. -/
import Derived.Test.YtlonmobfjpmokaaGreatDoorPartU43

/- TickOne -/
/- The contract of the program's TickUnit. Condition: the lists lie in memory as they were laid there; the homes lie in their variable. -/
section
namespace Go.Proofs.YtlonmobfjpmokaaGreatDoor
open Go.ChangeShapes Go.WideShapes Go.ChangeAt Go.RowKit
open Bd
set_option linter.unusedVariables false

theorem two_res (w : World) (s f : Value) : ∃ W, Hid (W = (w.alloc (.cells #[s, f] 27)).alloc (.cells zResV 32)) ∧ W.rowIs w.heap.size 27 2 (fun i => if i = 0 then s else f) ∧ W.rowIs (w.heap.size + 1) 32 5 (fun i => zResV[i]!) ∧ Below w.heap.size w W := by
  refine ⟨_, rfl, ?_⟩
  have s1 : (w.alloc (.cells #[s, f] 27)).heap.size = w.heap.size + 1 := size_new _ _
  have r0 := rowTwo w s f 27
  have r1 := res_row (w.alloc (.cells #[s, f] 27))
  rw [s1] at r1
  have b1 : Below (w.alloc (.cells #[s, f] 27)).heap.size (w.alloc (.cells #[s, f] 27)) ((w.alloc (.cells #[s, f] 27)).alloc (.cells zResV 32)) := (Below.refl _ _).alloc (Nat.le_refl _) _
  exact ⟨r0.of_block (b1.block _ r0.lt), r1, ((Below.refl _ _).alloc (Nat.le_refl _) _).alloc (by rw [s1]; omega) _⟩
/- what a call of ticks is handed -/
structure TIn (w : World) (g m c g' m' c' gr mr cr : Nat) (us : List K10) (fs : List K3) (rm : List Int) : Prop where
  hl : us.length = m
  hl' : fs.length = m'
  hr : rm.length = mr
  mx : (mr : Int) ≤ 9223372036854775807
  u : UAt w g 0 us
  f : FAt w g' 0 fs
  r : IAt w gr 0 rm
  lu : g < w.heap.size
  lf : g' < w.heap.size
  lr : gr < w.heap.size
theorem TIn.later {w w' : World} {g m c g' m' c' gr mr cr : Nat} {us : List K10} {fs : List K3} {rm : List Int} (h : TIn w g m c g' m' c' gr mr cr us fs rm) (hb : Below w.heap.size w w') : TIn w' g m c g' m' c' gr mr cr us fs rm :=
  ⟨h.hl, h.hl', h.hr, h.mx, h.u.later h.lu hb, h.f.later h.lf hb, h.r.later h.lr hb, Nat.lt_of_lt_of_le h.lu hb.size, Nat.lt_of_lt_of_le h.lf hb.size, Nat.lt_of_lt_of_le h.lr hb.size⟩
theorem TIn.au {w : World} {g m c g' m' c' gr mr cr : Nat} {us : List K10} {fs : List K3} {rm : List Int} (h : TIn w g m c g' m' c' gr mr cr us fs rm) : ArgU w (some ⟨g, 0, none⟩) us := .inr ⟨g, 0, rfl, h.lu, h.u⟩
theorem TIn.af {w : World} {g m c g' m' c' gr mr cr : Nat} {us : List K10} {fs : List K3} {rm : List Int} (h : TIn w g m c g' m' c' gr mr cr us fs rm) : ArgF w (some ⟨g', 0, none⟩) fs := .inr ⟨g', 0, rfl, h.lf, h.f⟩
theorem TIn.ar {w : World} {g m c g' m' c' gr mr cr : Nat} {us : List K10} {fs : List K3} {rm : List Int} (h : TIn w g m c g' m' c' gr mr cr us fs rm) : ArgI w (some ⟨gr, 0, none⟩) rm := .inr ⟨gr, 0, rfl, h.lr, h.r⟩
theorem TIn.fault {w : World} {g m c g' m' c' gr mr cr : Nat} {us : List K10} {fs : List K3} {rm : List Int} (h : TIn w g m c g' m' c' gr mr cr us fs rm) :
    Calls Tryz.prog 39 #[.agg (brdV (some ⟨g, 0, none⟩) m c (some ⟨g', 0, none⟩) m' c'), .slice (some ⟨gr, 0, none⟩) mr cr] w fun e w' => e = .returned (.int .i64 (tkF us fs rm)) ∧ Below w.heap.size w w' :=
  tickFault_c _ m c _ m' c' _ mr cr us fs rm h.hl h.hl' h.hr h.mx w h.au h.af h.ar
theorem TIn.new {w : World} {g m c g' m' c' gr mr cr : Nat} {us : List K10} {fs : List K3} {rm : List Int} (h : TIn w g m c g' m' c' gr mr cr us fs rm) (h0 : tkF us fs rm = 0) : ∀ hm : mr = 4,
    Calls Tryz.prog 40 #[.agg (brdV (some ⟨g, 0, none⟩) m c (some ⟨g', 0, none⟩) m' c'), .slice (some ⟨gr, 0, none⟩) 4 cr] w fun e w' => ∃ T mb vf q1 c1 q2 c2, e = .returned (.pointer (some ⟨T, 0, none⟩)) ∧ ST w' w.heap.size T mb vf q1 c1 q2 c2 (ts0 us fs rm) ∧ Below w.heap.size w w' := by
  intro hm
  obtain ⟨h1, h2, h3⟩ := tkF_ok h0
  exact newTickState_c _ m c g' 0 m' c' gr 0 cr us fs rm h.hl h.hl' (Gd.of h1) h2 w h.au h.lf h.f h.lr h.r
theorem tg0 {us : List K10} {fs : List K3} {rm : List Int} (h0 : tkF us fs rm = 0) : TG (ts0 us fs rm) := by
  obtain ⟨h1, h2, h3⟩ := tkF_ok h0
  exact TG.start (Gd.of h1) h2 h3
theorem tu_cases (us : List K10) (fs : List K3) (i : Int) (rm : List Int) : ((tkF us fs rm == 0) = false ∧ tuR us fs i rm = .no (tkF us fs rm)) ∨ (tkF us fs rm = 0 ∧ findU us i = none ∧ tuR us fs i rm = .no 4) ∨ (∃ u, tkF us fs rm = 0 ∧ findU us i = some u ∧ tuR us fs i rm = .of (tkS (ts0 us fs rm) i)) := by
  unfold tuR
  cases h : tkF us fs rm == 0
  · exact .inl ⟨rfl, by rw [if_neg (by simp)]⟩
  · have hz : tkF us fs rm = 0 := by simpa using h
    rw [if_pos rfl]
    cases hf : findU us i with
    | none => exact .inr (.inl ⟨hz, rfl, rfl⟩)
    | some u => exact .inr (.inr ⟨u, hz, rfl, rfl⟩)
set_option maxRecDepth 20000 in
set_option maxHeartbeats 16000000 in
theorem implTickUnit (g m c g' m' c' gr mr cr : Nat) (us : List K10) (fs : List K3) (i : Int) (hw : (Lit.int .i64 i).wf = true) (rm : List Int) (w : World) (hL : HmAt w) (h : TIn w g m c g' m' c' gr mr cr us fs rm) :
    Calls Tryz.prog 12 #[.agg (brdV (some ⟨g, 0, none⟩) m c (some ⟨g', 0, none⟩) m' c'), .int .i64 i, .slice (some ⟨gr, 0, none⟩) mr cr] w fun e w' => ∃ q v f, e = .returned (.agg (resV (tuR us fs i rm).c q (tuR us fs i rm).l v f)) ∧ RIs w' w.heap.size (tuR us fs i rm) q v f ∧ Below w.heap.size w w' := by
  obtain ⟨W1, HW1, rb, rr, B1⟩ := two_res w (.slice (some ⟨g, 0, none⟩) m c) (.slice (some ⟨g', 0, none⟩) m' c')
  have cF := (h.later B1).fault
  rcases tu_cases us fs i rm with ⟨h1, e⟩ | ⟨h1, hf, e⟩ | ⟨u, h1, hf, e⟩
  · rw [e]
    have h1' := bne_of h1
    generalize tkF us fs rm = R at h1 h1' cF ⊢
    obtain ⟨p0, p1, pl⟩ := row_brd rb
    clear h e hL
    go_enter Tryz.func12, Tryz.ntmps12
    go_upto_region 1 with fail
    rw [← HW1.out]
    go_wp2_with fail
    refine cF.mono ?_
    rintro e w2 ⟨rfl, k2⟩
    have B2 := B1.trans (k2.mono B1.size)
    have rr2 := row_later rr k2
    obtain ⟨e0, e1, e2, e3, e4, z0, z1, z2, z3, z4, el⟩ := res_cells rr2
    obtain ⟨x0, x1, x2, x3, x4⟩ := setRes_cells (setRes_row rr2 R (.slice none 0 0) 0 (.slice none 0 0) (.slice none 0 0))
    have BZ := setRes_bel B2 (w.heap.size + 1) (by omega) R (.slice none 0 0) 0 (.slice none 0 0) (.slice none 0 0)
    have RZ := RIs.nil (stRes w2 (w.heap.size + 1) R (.slice none 0 0) 0 (.slice none 0 0) (.slice none 0 0)) w.heap.size R
    clear p0 p1 pl
    go_wp2_with fail
    refine bodyPost_ret (v := .agg (resV R (.slice none 0 0) 0 (.slice none 0 0) (.slice none 0 0))) ?_ rfl ⟨_, _, _, rfl, RZ, BZ⟩
    simp [results, Tryz.results12, go_sem, x0, x1, x2, x3, x4]
    done
  · rw [e]
    have hm : mr = 4 := by have := (tkF_ok h1).2.1; have := h.hr; omega
    subst hm
    have cN := fun W hB => (h.later (w' := W) hB).new h1 rfl
    rw [h1] at cF
    have HF : Hid (findU us i = none) := hf
    obtain ⟨p0, p1, pl⟩ := row_brd rb
    clear h e hL h1 hf
    go_enter Tryz.func12, Tryz.ntmps12
    go_upto_region 1 with fail
    rw [← HW1.out]
    go_wp2_with fail
    refine cF.mono ?_
    rintro e w2 ⟨rfl, k2⟩
    have B2 := B1.trans (k2.mono B1.size)
    clear p0 p1 pl
    obtain ⟨p0, p1, pl⟩ := row_brd (row_later rb k2)
    go_wp2_with fail
    refine (cN _ B2).mono ?_
    rintro e w3 ⟨T, mb, vf, q1, c1, q2, c2, rfl, S3, k3⟩
    have B3 := B2.trans (k3.mono B2.size)
    have hlook := S3.m.look i hw
    have ets : (ts0 us fs rm).us = us := rfl
    rw [ets, HF.out] at hlook
    dsimp only [K10.z, K10.v] at hlook
    obtain ⟨t0, t1, t2, t3, t4, tl⟩ := S3.cells
    obtain ⟨W4, HW4⟩ : ∃ W4, Hid (W4 = w3.alloc (.cells #[.int .i64 0, .int .i64 0, .int .i64 0, .int .i64 0, .int .i64 0, .int .i64 0, .int .i64 0, .int .i64 0, .int .i64 0, .int .i64 0] 73)) := ⟨_, rfl⟩
    have k4 : Below w3.heap.size w3 W4 := by rw [HW4.out]; exact (Below.refl _ _).alloc (Nat.le_refl _) _
    have B4 := B3.trans (k4.mono B3.size)
    have rr4 := row_later (row_later (row_later rr k2) k3) k4
    clear p0 p1 pl t1 t2 t3 t4 ets
    go_upto_region 6 with fail
    rw [← HW4.out]
    clear t0 tl hlook
    obtain ⟨e0, e1, e2, e3, e4, z0, z1, z2, z3, z4, el⟩ := res_cells rr4
    obtain ⟨x0, x1, x2, x3, x4⟩ := setRes_cells (setRes_row rr4 4 (.slice none 0 0) 0 (.slice none 0 0) (.slice none 0 0))
    have BZ := setRes_bel B4 (w.heap.size + 1) (by omega) 4 (.slice none 0 0) 0 (.slice none 0 0) (.slice none 0 0)
    have RZ := RIs.nil (stRes W4 (w.heap.size + 1) 4 (.slice none 0 0) 0 (.slice none 0 0) (.slice none 0 0)) w.heap.size 4
    go_wp2_with fail
    refine bodyPost_ret (v := .agg (resV 4 (.slice none 0 0) 0 (.slice none 0 0) (.slice none 0 0))) ?_ rfl ⟨_, _, _, rfl, RZ, BZ⟩
    simp [results, Tryz.results12, go_sem, x0, x1, x2, x3, x4]
    done
  · rw [e]
    have hm : mr = 4 := by have := (tkF_ok h1).2.1; have := h.hr; omega
    subst hm
    have cN := fun W hB => (h.later (w' := W) hB).new h1 rfl
    have tg := tg0 h1
    rw [h1] at cF
    have HF : Hid (findU us i = some u) := hf
    have HL : Hid (HmAt w) := hL
    obtain ⟨L, HLo⟩ : ∃ L, Hid ((tkS (ts0 us fs rm) i).lost = L) := ⟨_, rfl⟩
    have eL : (TR.of (tkS (ts0 us fs rm) i)).l = L := HLo.out
    have eC : (TR.of (tkS (ts0 us fs rm) i)).c = 0 := rfl
    rw [eL, eC]
    clear eL eC
    obtain ⟨p0, p1, pl⟩ := row_brd rb
    clear h e hL h1 hf
    go_enter Tryz.func12, Tryz.ntmps12
    go_upto_region 1 with fail
    rw [← HW1.out]
    go_wp2_with fail
    refine cF.mono ?_
    rintro e w2 ⟨rfl, k2⟩
    have B2 := B1.trans (k2.mono B1.size)
    clear p0 p1 pl
    obtain ⟨p0, p1, pl⟩ := row_brd (row_later rb k2)
    go_wp2_with fail
    refine (cN _ B2).mono ?_
    rintro e w3 ⟨T, mb, vf, q1, c1, q2, c2, rfl, S3, k3⟩
    have B3 := B2.trans (k3.mono B2.size)
    have hlook := S3.m.look i hw
    have ets : (ts0 us fs rm).us = us := rfl
    rw [ets, HF.out] at hlook
    dsimp only at hlook
    obtain ⟨t0, t1, t2, t3, t4, tl⟩ := S3.cells
    obtain ⟨W4, HW4⟩ : ∃ W4, Hid (W4 = w3.alloc (.cells u.v 73)) := ⟨_, rfl⟩
    have k4 : Below w3.heap.size w3 W4 := by rw [HW4.out]; exact (Below.refl _ _).alloc (Nat.le_refl _) _
    have B4 := B3.trans (k4.mono B3.size)
    have rr4 := row_later (row_later (row_later rr k2) k3) k4
    have S4 := S3.later k4
    have hS2 : w.heap.size + 1 < w2.heap.size := (row_later rr k2).lt
    have cT := tickUnit_c w2.heap.size T mb vf q1 c1 q2 c2 (ts0 us fs rm) i hw W4 (HL.out.later B4) S4 tg
    clear p0 p1 pl t1 t2 t3 t4 ets
    go_upto_region 6 with fail
    rw [← HW4.out]
    clear t0 tl hlook
    go_wp2_with fail
    refine cT.mono ?_
    rintro e w5 ⟨rfl, S5, k5⟩
    have cR := result_c w2.heap.size T mb vf q1 c1 q2 c2 _ (tg.step i) w5 S5
    rw [HLo.out] at cR
    have rr5 := rr4.of_block (k5.block _ hS2)
    have B5 : Below w.heap.size w w5 := B4.trans (k5.mono (by omega))
    go_wp2_with fail
    refine cR.mono ?_
    rintro e w6 ⟨q, v, f, rfl, R6, k6⟩
    have B6 := B5.trans (k6.mono B5.size)
    have rr6 := row_later rr5 k6
    obtain ⟨aq, cq, hq⟩ := R6.g.form
    obtain ⟨av, cv, hv, _⟩ := R6.u.form
    obtain ⟨af, cf, hf, _⟩ := R6.f.form
    obtain ⟨lq, Hlq⟩ : ∃ n, Hid ((TR.of (tkS (ts0 us fs rm) i)).g.length = n) := ⟨_, rfl⟩
    obtain ⟨lv, Hlv⟩ : ∃ n, Hid ((TR.of (tkS (ts0 us fs rm) i)).us.length = n) := ⟨_, rfl⟩
    obtain ⟨lf, Hlf⟩ : ∃ n, Hid ((TR.of (tkS (ts0 us fs rm) i)).fs.length = n) := ⟨_, rfl⟩
    rw [Hlq.out] at hq
    rw [Hlv.out] at hv
    rw [Hlf.out] at hf
    subst hq hv hf
    obtain ⟨e0, e1, e2, e3, e4, z0, z1, z2, z3, z4, el⟩ := res_cells rr6
    obtain ⟨x0, x1, x2, x3, x4⟩ := setRes_cells (setRes_row rr6 0 (.slice aq lq cq) L (.slice av lv cv) (.slice af lf cf))
    have BZ := setRes_bel B6 (w.heap.size + 1) (by omega) 0 (.slice aq lq cq) L (.slice av lv cv) (.slice af lf cf)
    have RZ := (R6.setRes hS2 0 (.slice aq lq cq) L (.slice av lv cv) (.slice af lf cf)).mono (base' := w.heap.size) (by omega)
    go_wp2_with fail
    refine bodyPost_ret (v := .agg (resV 0 (.slice aq lq cq) L (.slice av lv cv) (.slice af lf cf))) ?_ rfl ⟨_, _, _, rfl, RZ, BZ⟩
    simp [results, Tryz.results12, go_sem, x0, x1, x2, x3, x4]
    done
end Go.Proofs.YtlonmobfjpmokaaGreatDoor
end
