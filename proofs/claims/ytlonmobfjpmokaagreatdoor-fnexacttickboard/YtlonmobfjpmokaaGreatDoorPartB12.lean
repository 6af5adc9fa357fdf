/- Texts of mine put together (a claim holds at most 60 files): TickOne, TickOneS. -/
import Derived.Test.YtlonmobfjpmokaaGreatDoorPartB10

/- TickOne -/
/- The contract of the program's TickUnit. Condition: the lists lie in memory as they were laid there; the homes lie in their variable. -/
section
namespace Go.Proofs.YtlonmobfjpmokaaGreatDoor
open Go.ChangeShapes Go.WideShapes Go.ChangeAt Go.RowKit
open Bd
set_option linter.unusedVariables false

theorem two_res (w : World) (s f : Value) : ∃ W, Hid (W = (w.alloc (.cells #[s, f] 27)).alloc (.cells zResV 32)) ∧ W.rowIs w.heap.size 27 2 (fun i => if i = 0 then s else f) ∧ W.rowIs (w.heap.size + 1) 32 5 (fun i => zResV[i]!) ∧ Below w.heap.size w W := by
  refine ⟨_, rfl, ?_⟩
  have s1 : (w.alloc (.cells #[s, f] 27)).heap.size = w.heap.size + 1 := size_new _ _
  have r0 := rowTwo w s f 27
  have r1 := res_row (w.alloc (.cells #[s, f] 27))
  rw [s1] at r1
  have b1 : Below (w.alloc (.cells #[s, f] 27)).heap.size (w.alloc (.cells #[s, f] 27)) ((w.alloc (.cells #[s, f] 27)).alloc (.cells zResV 32)) := (Below.refl _ _).alloc (Nat.le_refl _) _
  exact ⟨r0.of_block (b1.block _ r0.lt), r1, ((Below.refl _ _).alloc (Nat.le_refl _) _).alloc (by rw [s1]; omega) _⟩
/- what a call of ticks is handed -/
structure TIn (w : World) (g m c g' m' c' gr mr cr : Nat) (us : List K10) (fs : List K3) (rm : List Int) : Prop where
  hl : us.length = m
  hl' : fs.length = m'
  hr : rm.length = mr
  mx : (mr : Int) ≤ 9223372036854775807
  u : UAt w g 0 us
  f : FAt w g' 0 fs
  r : IAt w gr 0 rm
  lu : g < w.heap.size
  lf : g' < w.heap.size
  lr : gr < w.heap.size
theorem TIn.later {w w' : World} {g m c g' m' c' gr mr cr : Nat} {us : List K10} {fs : List K3} {rm : List Int} (h : TIn w g m c g' m' c' gr mr cr us fs rm) (hb : Below w.heap.size w w') : TIn w' g m c g' m' c' gr mr cr us fs rm :=
  ⟨h.hl, h.hl', h.hr, h.mx, h.u.later h.lu hb, h.f.later h.lf hb, h.r.later h.lr hb, Nat.lt_of_lt_of_le h.lu hb.size, Nat.lt_of_lt_of_le h.lf hb.size, Nat.lt_of_lt_of_le h.lr hb.size⟩
theorem TIn.au {w : World} {g m c g' m' c' gr mr cr : Nat} {us : List K10} {fs : List K3} {rm : List Int} (h : TIn w g m c g' m' c' gr mr cr us fs rm) : ArgU w (some ⟨g, 0, none⟩) us := .inr ⟨g, 0, rfl, h.lu, h.u⟩
theorem TIn.af {w : World} {g m c g' m' c' gr mr cr : Nat} {us : List K10} {fs : List K3} {rm : List Int} (h : TIn w g m c g' m' c' gr mr cr us fs rm) : ArgF w (some ⟨g', 0, none⟩) fs := .inr ⟨g', 0, rfl, h.lf, h.f⟩
theorem TIn.ar {w : World} {g m c g' m' c' gr mr cr : Nat} {us : List K10} {fs : List K3} {rm : List Int} (h : TIn w g m c g' m' c' gr mr cr us fs rm) : ArgI w (some ⟨gr, 0, none⟩) rm := .inr ⟨gr, 0, rfl, h.lr, h.r⟩
theorem TIn.fault {w : World} {g m c g' m' c' gr mr cr : Nat} {us : List K10} {fs : List K3} {rm : List Int} (h : TIn w g m c g' m' c' gr mr cr us fs rm) :
    Calls Tryz.prog 39 #[.agg (brdV (some ⟨g, 0, none⟩) m c (some ⟨g', 0, none⟩) m' c'), .slice (some ⟨gr, 0, none⟩) mr cr] w fun e w' => e = .returned (.int .i64 (tkF us fs rm)) ∧ Below w.heap.size w w' :=
  tickFault_c _ m c _ m' c' _ mr cr us fs rm h.hl h.hl' h.hr h.mx w h.au h.af h.ar
theorem TIn.new {w : World} {g m c g' m' c' gr mr cr : Nat} {us : List K10} {fs : List K3} {rm : List Int} (h : TIn w g m c g' m' c' gr mr cr us fs rm) (h0 : tkF us fs rm = 0) : ∀ hm : mr = 4,
    Calls Tryz.prog 40 #[.agg (brdV (some ⟨g, 0, none⟩) m c (some ⟨g', 0, none⟩) m' c'), .slice (some ⟨gr, 0, none⟩) 4 cr] w fun e w' => ∃ T mb vf q1 c1 q2 c2, e = .returned (.pointer (some ⟨T, 0, none⟩)) ∧ ST w' w.heap.size T mb vf q1 c1 q2 c2 (ts0 us fs rm) ∧ Below w.heap.size w w' := by
  intro hm
  obtain ⟨h1, h2, h3⟩ := tkF_ok h0
  exact newTickState_c _ m c g' 0 m' c' gr 0 cr us fs rm h.hl h.hl' (Gd.of h1) h2 w h.au h.lf h.f h.lr h.r
theorem tg0 {us : List K10} {fs : List K3} {rm : List Int} (h0 : tkF us fs rm = 0) : TG (ts0 us fs rm) := by
  obtain ⟨h1, h2, h3⟩ := tkF_ok h0
  exact TG.start (Gd.of h1) h2 h3
theorem tu_cases (us : List K10) (fs : List K3) (i : Int) (rm : List Int) : ((tkF us fs rm == 0) = false ∧ tuR us fs i rm = .no (tkF us fs rm)) ∨ (tkF us fs rm = 0 ∧ findU us i = none ∧ tuR us fs i rm = .no 4) ∨ (∃ u, tkF us fs rm = 0 ∧ findU us i = some u ∧ tuR us fs i rm = .of (tkS (ts0 us fs rm) i)) := by
  unfold tuR
  cases h : tkF us fs rm == 0
  · exact .inl ⟨rfl, by rw [if_neg (by simp)]⟩
  · have hz : tkF us fs rm = 0 := by simpa using h
    rw [if_pos rfl]
    cases hf : findU us i with
    | none => exact .inr (.inl ⟨hz, rfl, rfl⟩)
    | some u => exact .inr (.inr ⟨u, hz, rfl, rfl⟩)
set_option maxRecDepth 20000 in
set_option maxHeartbeats 16000000 in
theorem implTickUnit (g m c g' m' c' gr mr cr : Nat) (us : List K10) (fs : List K3) (i : Int) (hw : (Lit.int .i64 i).wf = true) (rm : List Int) (w : World) (hL : HmAt w) (h : TIn w g m c g' m' c' gr mr cr us fs rm) :
    Calls Tryz.prog 12 #[.agg (brdV (some ⟨g, 0, none⟩) m c (some ⟨g', 0, none⟩) m' c'), .int .i64 i, .slice (some ⟨gr, 0, none⟩) mr cr] w fun e w' => ∃ q v f, e = .returned (.agg (resV (tuR us fs i rm).c q (tuR us fs i rm).l v f)) ∧ RIs w' w.heap.size (tuR us fs i rm) q v f ∧ Below w.heap.size w w' := by
  obtain ⟨W1, HW1, rb, rr, B1⟩ := two_res w (.slice (some ⟨g, 0, none⟩) m c) (.slice (some ⟨g', 0, none⟩) m' c')
  have cF := (h.later B1).fault
  rcases tu_cases us fs i rm with ⟨h1, e⟩ | ⟨h1, hf, e⟩ | ⟨u, h1, hf, e⟩
  · rw [e]
    have h1' := bne_of h1
    generalize tkF us fs rm = R at h1 h1' cF ⊢
    obtain ⟨p0, p1, pl⟩ := row_brd rb
    clear h e hL
    go_enter Tryz.func12, Tryz.ntmps12
    go_upto_region 1 with fail
    rw [← HW1.out]
    go_wp2_with fail
    refine cF.mono ?_
    rintro e w2 ⟨rfl, k2⟩
    have B2 := B1.trans (k2.mono B1.size)
    have rr2 := row_later rr k2
    obtain ⟨e0, e1, e2, e3, e4, z0, z1, z2, z3, z4, el⟩ := res_cells rr2
    obtain ⟨x0, x1, x2, x3, x4⟩ := setRes_cells (setRes_row rr2 R (.slice none 0 0) 0 (.slice none 0 0) (.slice none 0 0))
    have BZ := setRes_bel B2 (w.heap.size + 1) (by omega) R (.slice none 0 0) 0 (.slice none 0 0) (.slice none 0 0)
    have RZ := RIs.nil (stRes w2 (w.heap.size + 1) R (.slice none 0 0) 0 (.slice none 0 0) (.slice none 0 0)) w.heap.size R
    clear p0 p1 pl
    go_wp2_with fail
    refine bodyPost_ret (v := .agg (resV R (.slice none 0 0) 0 (.slice none 0 0) (.slice none 0 0))) ?_ rfl ⟨_, _, _, rfl, RZ, BZ⟩
    simp [results, Tryz.results12, go_sem, x0, x1, x2, x3, x4]
    done
  · rw [e]
    have hm : mr = 4 := by have := (tkF_ok h1).2.1; have := h.hr; omega
    subst hm
    have cN := fun W hB => (h.later (w' := W) hB).new h1 rfl
    rw [h1] at cF
    have HF : Hid (findU us i = none) := hf
    obtain ⟨p0, p1, pl⟩ := row_brd rb
    clear h e hL h1 hf
    go_enter Tryz.func12, Tryz.ntmps12
    go_upto_region 1 with fail
    rw [← HW1.out]
    go_wp2_with fail
    refine cF.mono ?_
    rintro e w2 ⟨rfl, k2⟩
    have B2 := B1.trans (k2.mono B1.size)
    clear p0 p1 pl
    obtain ⟨p0, p1, pl⟩ := row_brd (row_later rb k2)
    go_wp2_with fail
    refine (cN _ B2).mono ?_
    rintro e w3 ⟨T, mb, vf, q1, c1, q2, c2, rfl, S3, k3⟩
    have B3 := B2.trans (k3.mono B2.size)
    have hlook := S3.m.look i hw
    have ets : (ts0 us fs rm).us = us := rfl
    rw [ets, HF.out] at hlook
    dsimp only [K10.z, K10.v] at hlook
    obtain ⟨t0, t1, t2, t3, t4, tl⟩ := S3.cells
    obtain ⟨W4, HW4⟩ : ∃ W4, Hid (W4 = w3.alloc (.cells #[.int .i64 0, .int .i64 0, .int .i64 0, .int .i64 0, .int .i64 0, .int .i64 0, .int .i64 0, .int .i64 0, .int .i64 0, .int .i64 0] 73)) := ⟨_, rfl⟩
    have k4 : Below w3.heap.size w3 W4 := by rw [HW4.out]; exact (Below.refl _ _).alloc (Nat.le_refl _) _
    have B4 := B3.trans (k4.mono B3.size)
    have rr4 := row_later (row_later (row_later rr k2) k3) k4
    clear p0 p1 pl t1 t2 t3 t4 ets
    go_upto_region 6 with fail
    rw [← HW4.out]
    clear t0 tl hlook
    obtain ⟨e0, e1, e2, e3, e4, z0, z1, z2, z3, z4, el⟩ := res_cells rr4
    obtain ⟨x0, x1, x2, x3, x4⟩ := setRes_cells (setRes_row rr4 4 (.slice none 0 0) 0 (.slice none 0 0) (.slice none 0 0))
    have BZ := setRes_bel B4 (w.heap.size + 1) (by omega) 4 (.slice none 0 0) 0 (.slice none 0 0) (.slice none 0 0)
    have RZ := RIs.nil (stRes W4 (w.heap.size + 1) 4 (.slice none 0 0) 0 (.slice none 0 0) (.slice none 0 0)) w.heap.size 4
    go_wp2_with fail
    refine bodyPost_ret (v := .agg (resV 4 (.slice none 0 0) 0 (.slice none 0 0) (.slice none 0 0))) ?_ rfl ⟨_, _, _, rfl, RZ, BZ⟩
    simp [results, Tryz.results12, go_sem, x0, x1, x2, x3, x4]
    done
  · rw [e]
    have hm : mr = 4 := by have := (tkF_ok h1).2.1; have := h.hr; omega
    subst hm
    have cN := fun W hB => (h.later (w' := W) hB).new h1 rfl
    have tg := tg0 h1
    rw [h1] at cF
    have HF : Hid (findU us i = some u) := hf
    have HL : Hid (HmAt w) := hL
    obtain ⟨L, HLo⟩ : ∃ L, Hid ((tkS (ts0 us fs rm) i).lost = L) := ⟨_, rfl⟩
    have eL : (TR.of (tkS (ts0 us fs rm) i)).l = L := HLo.out
    have eC : (TR.of (tkS (ts0 us fs rm) i)).c = 0 := rfl
    rw [eL, eC]
    clear eL eC
    obtain ⟨p0, p1, pl⟩ := row_brd rb
    clear h e hL h1 hf
    go_enter Tryz.func12, Tryz.ntmps12
    go_upto_region 1 with fail
    rw [← HW1.out]
    go_wp2_with fail
    refine cF.mono ?_
    rintro e w2 ⟨rfl, k2⟩
    have B2 := B1.trans (k2.mono B1.size)
    clear p0 p1 pl
    obtain ⟨p0, p1, pl⟩ := row_brd (row_later rb k2)
    go_wp2_with fail
    refine (cN _ B2).mono ?_
    rintro e w3 ⟨T, mb, vf, q1, c1, q2, c2, rfl, S3, k3⟩
    have B3 := B2.trans (k3.mono B2.size)
    have hlook := S3.m.look i hw
    have ets : (ts0 us fs rm).us = us := rfl
    rw [ets, HF.out] at hlook
    dsimp only at hlook
    obtain ⟨t0, t1, t2, t3, t4, tl⟩ := S3.cells
    obtain ⟨W4, HW4⟩ : ∃ W4, Hid (W4 = w3.alloc (.cells u.v 73)) := ⟨_, rfl⟩
    have k4 : Below w3.heap.size w3 W4 := by rw [HW4.out]; exact (Below.refl _ _).alloc (Nat.le_refl _) _
    have B4 := B3.trans (k4.mono B3.size)
    have rr4 := row_later (row_later (row_later rr k2) k3) k4
    have S4 := S3.later k4
    have hS2 : w.heap.size + 1 < w2.heap.size := (row_later rr k2).lt
    have cT := tickUnit_c w2.heap.size T mb vf q1 c1 q2 c2 (ts0 us fs rm) i hw W4 (HL.out.later B4) S4 tg
    clear p0 p1 pl t1 t2 t3 t4 ets
    go_upto_region 6 with fail
    rw [← HW4.out]
    clear t0 tl hlook
    go_wp2_with fail
    refine cT.mono ?_
    rintro e w5 ⟨rfl, S5, K5⟩
    have k5 := K5.bel
    have cR := result_c w2.heap.size T mb vf q1 c1 q2 c2 _ (tg.step i) w5 S5
    rw [HLo.out] at cR
    have rr5 := rr4.of_block (k5.block _ hS2)
    have B5 : Below w.heap.size w w5 := B4.trans (k5.mono (by omega))
    go_wp2_with fail
    refine cR.mono ?_
    rintro e w6 ⟨q, v, f, rfl, R6, k6⟩
    have B6 := B5.trans (k6.mono B5.size)
    have rr6 := row_later rr5 k6
    obtain ⟨aq, cq, hq⟩ := R6.g.form
    obtain ⟨av, cv, hv, _⟩ := R6.u.form
    obtain ⟨af, cf, hf, _⟩ := R6.f.form
    obtain ⟨lq, Hlq⟩ : ∃ n, Hid ((TR.of (tkS (ts0 us fs rm) i)).g.length = n) := ⟨_, rfl⟩
    obtain ⟨lv, Hlv⟩ : ∃ n, Hid ((TR.of (tkS (ts0 us fs rm) i)).us.length = n) := ⟨_, rfl⟩
    obtain ⟨lf, Hlf⟩ : ∃ n, Hid ((TR.of (tkS (ts0 us fs rm) i)).fs.length = n) := ⟨_, rfl⟩
    rw [Hlq.out] at hq
    rw [Hlv.out] at hv
    rw [Hlf.out] at hf
    subst hq hv hf
    obtain ⟨e0, e1, e2, e3, e4, z0, z1, z2, z3, z4, el⟩ := res_cells rr6
    obtain ⟨x0, x1, x2, x3, x4⟩ := setRes_cells (setRes_row rr6 0 (.slice aq lq cq) L (.slice av lv cv) (.slice af lf cf))
    have BZ := setRes_bel B6 (w.heap.size + 1) (by omega) 0 (.slice aq lq cq) L (.slice av lv cv) (.slice af lf cf)
    have RZ := (R6.setRes hS2 0 (.slice aq lq cq) L (.slice av lv cv) (.slice af lf cf)).mono (base' := w.heap.size) (by omega)
    go_wp2_with fail
    refine bodyPost_ret (v := .agg (resV 0 (.slice aq lq cq) L (.slice av lv cv) (.slice af lf cf))) ?_ rfl ⟨_, _, _, rfl, RZ, BZ⟩
    simp [results, Tryz.results12, go_sem, x0, x1, x2, x3, x4]
    done
end Go.Proofs.YtlonmobfjpmokaaGreatDoor
end

/- TickOneS -/
/- The contract of the model's TickUnit. Condition: the lists lie in memory as they were laid there. -/
section
namespace Go.Proofs.YtlonmobfjpmokaaGreatDoor
open Go.ChangeShapes Go.WideShapes Go.ChangeAt Go.RowKit
open Bd
set_option linter.unusedVariables false

theorem SlU.addr {w : World} {base : Nat} {v : Value} {l : List K10} (h : SlU w base v l) (hn : v ≠ .slice none 0 0) : ∃ g cap, v = .slice (some ⟨g, 0, none⟩) l.length cap ∧ base ≤ g ∧ g < w.heap.size ∧ UAt w g 0 l := by
  rcases h.2 with ⟨h1, _⟩ | ⟨g, cap, cur, hv, hb, hg, hc, hm, hs, ht⟩
  · exact absurd h1 hn
  · refine ⟨g, cap, hv, hb, (Array.getElem?_eq_some_iff.1 hg).1, fun i x hi f hf => ?_⟩
    have e := flatU_get l i x f hi hf
    have hil : i < l.length := (List.getElem?_eq_some_iff.1 hi).1
    rw [← ht, List.getElem?_take, if_pos (by omega)] at e
    simp [World.cell?, hg]
    simpa using e
theorem SlF.addr {w : World} {base : Nat} {v : Value} {l : List K3} (h : SlF w base v l) (hn : v ≠ .slice none 0 0) : ∃ g cap, v = .slice (some ⟨g, 0, none⟩) l.length cap ∧ base ≤ g ∧ g < w.heap.size ∧ FAt w g 0 l := by
  rcases h.2 with ⟨h1, _⟩ | ⟨g, cap, cur, hv, hb, hg, hc, hm, hs, ht⟩
  · exact absurd h1 hn
  · refine ⟨g, cap, hv, hb, (Array.getElem?_eq_some_iff.1 hg).1, fun i x hi f hf => ?_⟩
    have e := flatF_get l i x f hi hf
    have hil : i < l.length := (List.getElem?_eq_some_iff.1 hi).1
    rw [← ht, List.getElem?_take, if_pos (by omega)] at e
    simp [World.cell?, hg]
    simpa using e
theorem TIn.asked {w : World} {g m c g' m' c' gr mr cr : Nat} {us : List K10} {fs : List K3} {rm : List Int} (h : TIn w g m c g' m' c' gr mr cr us fs rm) {p : Nat} (hB : BrdAt w p (.slice (some ⟨g, 0, none⟩) m c) (.slice (some ⟨g', 0, none⟩) m' c')) :
    Calls Tryz.prog 45 #[.pointer (some ⟨p, 0, none⟩), .slice (some ⟨gr, 0, none⟩) mr cr] w fun e w' => e = .returned (.int .i64 (tkF us fs rm)) ∧ Below w.heap.size w w' :=
  l5Asked_c p _ m c _ m' c' _ mr cr us fs rm h.hl h.hl' h.hr h.mx w hB h.au h.af h.ar
theorem TIn.copy {w : World} {g m c g' m' c' gr mr cr : Nat} {us : List K10} {fs : List K3} {rm : List Int} (h : TIn w g m c g' m' c' gr mr cr us fs rm) (gd : Gd us fs) :
    Calls Tryz.prog 47 #[.agg (brdV (some ⟨g, 0, none⟩) m c (some ⟨g', 0, none⟩) m' c')] w fun e w' => ∃ g1 c1 g2 c2, e = .returned (.agg (brdV (some ⟨g1, 0, none⟩) m c1 (some ⟨g2, 0, none⟩) m' c2)) ∧ SlU w' w.heap.size (.slice (some ⟨g1, 0, none⟩) m c1) us ∧ SlF w' w.heap.size (.slice (some ⟨g2, 0, none⟩) m' c2) fs ∧ Below w.heap.size w w' := by
  refine (l4Copy2_c g 0 c m g' 0 c' m' us fs h.hl (by have := gd.n8; have := h.hl; omega) h.hl' (by have := gd.n4; have := h.hl'; omega) w h.lu h.lf h.u h.f).mono ?_
  rintro e w' ⟨v, f, rfl, hU, hF, n1, n2, hb⟩
  obtain ⟨g1, c1, rfl, _, _, _⟩ := hU.addr n1
  obtain ⟨g2, c2, rfl, _, _, _⟩ := hF.addr n2
  rw [h.hl] at hU ⊢
  rw [h.hl'] at hF ⊢
  exact ⟨g1, c1, g2, c2, rfl, hU, hF, hb⟩
theorem tkS_gn {us : List K10} {fs : List K3} {rm : List Int} {i : Int} {u : K10} (h : findU us i = some u) : tkS (ts0 us fs rm) i = ⟨(tk1 us fs u (rm.getD u.c1.toNat 0)).us, (tk1 us fs u (rm.getD u.c1.toNat 0)).fs, addAt rm u.c1.toNat (-(tk1 us fs u (rm.getD u.c1.toNat 0)).give), addAt z4 u.c1.toNat (tk1 us fs u (rm.getD u.c1.toNat 0)).give, 0 + (tk1 us fs u (rm.getD u.c1.toNat 0)).lost⟩ := by
  rw [tkS_some (s := ts0 us fs rm) h]; rfl
set_option maxRecDepth 20000 in
set_option maxHeartbeats 16000000 in
theorem specTickUnit (g m c g' m' c' gr mr cr : Nat) (us : List K10) (fs : List K3) (i : Int) (rm : List Int) (w : World) (h : TIn w g m c g' m' c' gr mr cr us fs rm) :
    Calls Tryz.prog 14 #[.agg (brdV (some ⟨g, 0, none⟩) m c (some ⟨g', 0, none⟩) m' c'), .int .i64 i, .slice (some ⟨gr, 0, none⟩) mr cr] w fun e w' => ∃ q v f, e = .returned (.agg (resV (tuR us fs i rm).c q (tuR us fs i rm).l v f)) ∧ RIs w' w.heap.size (tuR us fs i rm) q v f ∧ Below w.heap.size w w' := by
  obtain ⟨W1, HW1, rb, rr, B1⟩ := two_res w (.slice (some ⟨g, 0, none⟩) m c) (.slice (some ⟨g', 0, none⟩) m' c')
  have cF := (h.later B1).asked (row_brd rb)
  rcases tu_cases us fs i rm with ⟨h1, e⟩ | ⟨h1, hf, e⟩ | ⟨u, h1, hf, e⟩
  · rw [e]
    have h1' := bne_of h1
    generalize tkF us fs rm = R at h1 h1' cF ⊢
    clear h e
    go_enter Tryz.func14, Tryz.ntmps14
    go_upto_region 1 with fail
    rw [← HW1.out]
    go_wp2_with fail
    refine cF.mono ?_
    rintro e w2 ⟨rfl, k2⟩
    have B2 := B1.trans (k2.mono B1.size)
    have rr2 := row_later rr k2
    obtain ⟨e0, e1, e2, e3, e4, z0, z1, z2, z3, z4, el⟩ := res_cells rr2
    obtain ⟨x0, x1, x2, x3, x4⟩ := setRes_cells (setRes_row rr2 R (.slice none 0 0) 0 (.slice none 0 0) (.slice none 0 0))
    have BZ := setRes_bel B2 (w.heap.size + 1) (by omega) R (.slice none 0 0) 0 (.slice none 0 0) (.slice none 0 0)
    have RZ := RIs.nil (stRes w2 (w.heap.size + 1) R (.slice none 0 0) 0 (.slice none 0 0) (.slice none 0 0)) w.heap.size R
    go_wp2_with fail
    refine bodyPost_ret (v := .agg (resV R (.slice none 0 0) 0 (.slice none 0 0) (.slice none 0 0))) ?_ rfl ⟨_, _, _, rfl, RZ, BZ⟩
    simp [results, Tryz.results14, go_sem, x0, x1, x2, x3, x4]
    done
  · rw [e]
    obtain ⟨hb0, hr4, hrp⟩ := tkF_ok h1
    have gd := Gd.of hb0
    have hm8 : m ≤ 8 := by have := gd.n8; have := h.hl; omega
    have cA := fun W (hB : Below w.heap.size w W) => l4At_c (some ⟨g, 0, none⟩) m c us i h.hl hm8 W (h.later hB).au
    have hat : atI us i = -1 := by
      rcases atU_find us i with ⟨a1, _⟩ | ⟨k, x, _, _, a3⟩
      · unfold atI; rw [a1]
      · rw [hf] at a3; cases a3
    rw [hat] at cA
    rw [h1] at cF
    clear h e h1 hf hat gd hb0 hrp
    go_enter Tryz.func14, Tryz.ntmps14
    go_upto_region 1 with fail
    rw [← HW1.out]
    go_wp2_with fail
    refine cF.mono ?_
    rintro e w2 ⟨rfl, k2⟩
    have B2 := B1.trans (k2.mono B1.size)
    have rr2 := row_later rr k2
    obtain ⟨p0, p1, pl⟩ := row_brd (row_later rb k2)
    go_wp2_with fail
    refine (cA _ B2).mono ?_
    rintro e w3 ⟨rfl, rfl⟩
    clear p0 p1 pl
    obtain ⟨e0, e1, e2, e3, e4, z0, z1, z2, z3, z4, el⟩ := res_cells rr2
    obtain ⟨x0, x1, x2, x3, x4⟩ := setRes_cells (setRes_row rr2 4 (.slice none 0 0) 0 (.slice none 0 0) (.slice none 0 0))
    have BZ := setRes_bel B2 (w.heap.size + 1) (by omega) 4 (.slice none 0 0) 0 (.slice none 0 0) (.slice none 0 0)
    have RZ := RIs.nil (stRes w3 (w.heap.size + 1) 4 (.slice none 0 0) 0 (.slice none 0 0) (.slice none 0 0)) w.heap.size 4
    go_wp2_with fail
    refine bodyPost_ret (v := .agg (resV 4 (.slice none 0 0) 0 (.slice none 0 0) (.slice none 0 0))) ?_ rfl ⟨_, _, _, rfl, RZ, BZ⟩
    simp [results, Tryz.results14, go_sem, x0, x1, x2, x3, x4]
    done
  · rw [e]
    obtain ⟨hb0, hr4, hrp⟩ := tkF_ok h1
    have gd := Gd.of hb0
    have hm : mr = 4 := by have := h.hr; omega
    subst hm
    have hm8 : m ≤ 8 := by have := gd.n8; have := h.hl; omega
    obtain ⟨k, hat, hk⟩ : ∃ k : Nat, atI us i = (k : Int) ∧ us[k]? = some u := by
      rcases atU_find us i with ⟨_, a2⟩ | ⟨k, x, a1, a2, a3⟩
      · rw [hf] at a2; cases a2
      · rw [hf] at a3; cases a3
        exact ⟨k, by unfold atI; rw [a1], a2⟩
    have cA := fun W (hB : Below w.heap.size w W) => l4At_c (some ⟨g, 0, none⟩) m c us i h.hl hm8 W (h.later hB).au
    rw [hat] at cA
    have hkd : decide ((k : Int) < 0) = false := decide_eq_false (by omega)
    have cC := fun W (hB : Below w.heap.size w W) => (h.later hB).copy gd
    rw [h1] at cF
    obtain ⟨t, Ht⟩ : ∃ t, Hid (tk1 us fs u (rm.getD u.c1.toNat 0) = t) := ⟨_, rfl⟩
    have eS := tkS_gn (fs := fs) (rm := rm) hf
    rw [Ht.out] at eS
    rw [eS]
    have H : Hid (TIn w g m c g' m' c' gr 4 cr us fs rm) := h
    have Hgd : Hid (Gd us fs) := gd
    have Hk : Hid (us[k]? = some u) := hk
    have Hrp : Hid (∀ x ∈ rm, 0 ≤ x ∧ x ≤ 1000000) := hrp
    clear h e h1 hf hat gd hb0 hrp eS hk
    go_enter Tryz.func14, Tryz.ntmps14
    go_upto_region 1 with fail
    rw [← HW1.out]
    go_wp2_with fail
    refine cF.mono ?_
    rintro e w2 ⟨rfl, k2⟩
    have B2 := B1.trans (k2.mono B1.size)
    have rr2 := row_later rr k2
    obtain ⟨p0, p1, pl⟩ := row_brd (row_later rb k2)
    go_wp2_with fail
    refine (cA _ B2).mono ?_
    rintro e w3 ⟨rfl, rfl⟩
    go_wp2_with fail
    refine (cC _ B2).mono ?_
    rintro e w4 ⟨g1, c1, g2, c2, rfl, SU, SF, k4⟩
    have B4 := B2.trans (k4.mono B2.size)
    have rr4 := row_later rr2 k4
    obtain ⟨W5, HW5⟩ : ∃ W5, Hid (W5 = w4.alloc (.cells (brdV (some ⟨g1, 0, none⟩) m c1 (some ⟨g2, 0, none⟩) m' c2) 27)) := ⟨_, rfl⟩
    obtain ⟨X, HX⟩ : ∃ X, Hid (X = w4.heap.size) := ⟨_, rfl⟩
    have k5 : Below w4.heap.size w4 W5 := by rw [HW5.out]; exact (Below.refl _ _).alloc (Nat.le_refl _) _
    have B5 := B4.trans (k5.mono B4.size)
    have rx : W5.rowIs X 27 2 (fun i => if i = 0 then .slice (some ⟨g1, 0, none⟩) m c1 else .slice (some ⟨g2, 0, none⟩) m' c2) := by rw [HW5.out, HX.out]; exact rowTwo w4 _ _ _
    have rr5 := row_later rr4 k5
    have g1l : g1 < w4.heap.size := (SU.lt g1 rfl).2
    have g2l : g2 < w4.heap.size := (SF.lt g2 rfl).2
    have sb : SB W5 w3.heap.size X 0 (.slice (some ⟨g1, 0, none⟩) m c1) (.slice (some ⟨g2, 0, none⟩) m' c2) us fs :=
      ⟨rx.cell (i := 0) (by omega), rx.cell (i := 1) (by omega), rx.frozen 0, rx.lt, SU.below k5, SF.below k5, (by intro e; have : g1 = X := Option.some.inj e; have := HX.out; omega), (by intro e; have : g2 = X := Option.some.inj e; have := HX.out; omega)⟩
    have h5 := H.out.later B5
    have cU := l5Unit_c w3.heap.size X 0 g1 c1 k m (.slice (some ⟨g2, 0, none⟩) m' c2) us fs u gr 0 cr rm W5 ⟨sb, Hgd.out, Hk.out, H.out.hl, hr4, Hrp.out, h5.r, h5.lr⟩
    rw [Ht.out] at cU
    have hS2 : w.heap.size + 1 < w3.heap.size := rr2.lt
    have hX3 : w3.heap.size ≤ X := by rw [HX.out]; exact k4.size
    clear p0 p1 pl
    go_upto_region 8 with fail
    rw [← HW5.out, ← HX.out]
    go_wp2_with fail
    refine cU.mono ?_
    rintro e w6 ⟨gv, rfl, vu', sb6, SI6, K6, nn6, hv6⟩
    have B6 : Below w.heap.size w w6 := K6.below B5 B5.size (fun q hq e => by
      rcases e with e | e | e
      · omega
      · have := (SU.lt g1 rfl).1; have := B2.size; omega
      · have : g2 = q := Option.some.inj e; have := (SF.lt g2 rfl).1; have := B2.size; omega)
    have rr6 := rr5.of_block (K6.block (w.heap.size + 1) rr5.lt (by
      rintro (e | e | e)
      · omega
      · have := (SU.lt g1 rfl).1; omega
      · have : g2 = w.heap.size + 1 := Option.some.inj e; have := (SF.lt g2 rfl).1; omega))
    obtain ⟨aq, cq, hq⟩ := SI6.form
    obtain ⟨av, cv, hv, _⟩ := sb6.u.form
    obtain ⟨lq, Hlq⟩ : ∃ n, Hid ((addAt z4 u.c1.toNat t.give).length = n) := ⟨_, rfl⟩
    obtain ⟨lv, Hlv⟩ : ∃ n, Hid (t.us.length = n) := ⟨_, rfl⟩
    rw [Hlq.out] at hq
    rw [Hlv.out] at hv
    subst hq hv
    have hs5 : w3.heap.size ≤ W5.heap.size := Nat.le_trans k4.size k5.size
    have R6 : RIs w6 w3.heap.size ⟨0, addAt z4 u.c1.toNat t.give, 0 + t.lost, t.us, t.fs⟩ (.slice aq lq cq) (.slice av lv cv) (.slice (some ⟨g2, 0, none⟩) m' c2) := ⟨SI6.mono hs5, sb6.u, sb6.f⟩
    obtain ⟨L, HLo⟩ : ∃ L, Hid (t.lost = L) := ⟨_, rfl⟩
    have q0 := sb6.c0
    have q1 := sb6.c1
    have ql := sb6.lt
    obtain ⟨e0, e1, e2, e3, e4, z0, z1, z2, z3, z4, el⟩ := res_cells rr6
    obtain ⟨x0, x1, x2, x3, x4⟩ := setRes_cells (setRes_row rr6 0 (.slice aq lq cq) t.lost (.slice av lv cv) (.slice (some ⟨g2, 0, none⟩) m' c2))
    have BZ := setRes_bel B6 (w.heap.size + 1) (by omega) 0 (.slice aq lq cq) t.lost (.slice av lv cv) (.slice (some ⟨g2, 0, none⟩) m' c2)
    have RZ := (R6.setRes hS2 0 (.slice aq lq cq) t.lost (.slice av lv cv) (.slice (some ⟨g2, 0, none⟩) m' c2)).mono (base' := w.heap.size) (by omega)
    have eZ : Hid ((0 : Int) + t.lost = t.lost) := Int.zero_add _
    go_wp2_with fail
    refine bodyPost_ret (v := .agg (resV 0 (.slice aq lq cq) t.lost (.slice av lv cv) (.slice (some ⟨g2, 0, none⟩) m' c2))) ?_ rfl ⟨_, _, _, by show _ = Ending.returned (.agg (resV 0 _ (0 + t.lost) _ _)); rw [eZ.out], RZ, BZ⟩
    simp [results, Tryz.results14, go_sem, x0, x1, x2, x3, x4]
    done
end Go.Proofs.YtlonmobfjpmokaaGreatDoor
end
