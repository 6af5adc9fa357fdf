/- Texts of mine put together (a claim holds at most 60 files): TickManyS, TickLawM. -/
import Derived.Test.YtlonmobfjpmokaaGreatDoorPartB15
import Derived.Test.YtlonmobfjpmokaaGreatDoorPartB11
import Derived.Test.YtlonmobfjpmokaaGreatDoorPartB13
import Derived.Deep.Cut
import Derived.Deep.CutRange
import Derived.Deep.RegionWith

/- TickManyS -/
/- The contract of the model's TickMany. Condition: the lists lie in memory as they were laid there. -/
section
namespace Go.Proofs.YtlonmobfjpmokaaGreatDoor
open Go.ChangeShapes Go.WideShapes Go.ChangeAt Go.RowKit
open Bd
set_option linter.unusedVariables false

theorem TB.setB {w : World} {base S qg cg ql cl : Nat} {vu vf v f : Value} {us us' : List K10} {fs fs' : List K3} {gn rm : List Int} {lost : Int} (h : TB w base S qg cg ql cl vu vf us fs gn rm lost) (hu : SlU w base v us') (hf : SlF w base f fs') (nn : v ≠ .slice none 0 0) :
    TB ((w.setCell ⟨S, 3, none⟩ v).setCell ⟨S, 4, none⟩ f) base S qg cg ql cl v f us' fs' gn rm lost := by
  have sp := h.sep
  obtain ⟨ct, ht, _⟩ := h.row
  have kb : ∀ q, q ≠ S → ((w.setCell ⟨S, 3, none⟩ v).setCell ⟨S, 4, none⟩ f).heap[q]? = w.heap[q]? := fun q hq => (Below.heap_setCell _ _ _ _ hq).trans (Below.heap_setCell _ _ _ _ hq)
  exact ⟨((h.row.set 3 v).set 4 f).congr (fun i hi => by rcases i with _ | _ | _ | _ | _ | i <;> first | rfl | omega), hu.of_block (fun q hq => kb q (by obtain ⟨c, hc⟩ := hu.blk hq; exact blk_ne hc ht (by decide))), hf.of_block (fun q hq => kb q (by obtain ⟨c, hc⟩ := hf.blk hq; exact blk_ne hc ht (by decide))), h.g.of_block (kb qg sp.sg.symm), h.l.of_block (kb ql sp.sl.symm), h.ne, nn, h.bS, h.bg, h.bl⟩
theorem TB.lin {w : World} {base S qg cg ql cl g m c g' m' c' : Nat} {us : List K10} {fs : List K3} {gn rm : List Int} {lost : Int} (h : TB w base S qg cg ql cl (.slice (some ⟨g, 0, none⟩) m c) (.slice (some ⟨g', 0, none⟩) m' c') us fs gn rm lost) (hr : rm.length = 4) : LIn w S 3 g m c g' m' c' ql us fs rm := by
  obtain ⟨g1, c1, e1, _, l1, u1⟩ := h.u.addr (by simp)
  obtain ⟨g2, c2, e2, _, l2, u2⟩ := h.f.addr (by simp)
  simp only [Value.slice.injEq, Option.some.injEq, Addr.mk.injEq] at e1 e2
  obtain ⟨⟨rfl, _, _⟩, hm, rfl⟩ := e1
  obtain ⟨⟨rfl, _, _⟩, hm', rfl⟩ := e2
  exact ⟨h.row.cell (i := 3) (by omega), h.row.cell (i := 4) (by omega), h.row.lt, hm.symm, hm'.symm, hr, u1, u2, h.l.iat, l1, l2, h.l.lt⟩
theorem TG.bare {s : TS} (h : TG s) : TG (ts0 s.us s.fs s.rm) := TG.start h.gd h.rl h.r
set_option maxRecDepth 20000 in
set_option maxHeartbeats 16000000 in
theorem specTickMany (g m c g' m' c' gr mr cr : Nat) (us : List K10) (fs : List K3) (n : Int) (rm : List Int) (w : World) (h : TIn w g m c g' m' c' gr mr cr us fs rm) :
    Calls Tryz.prog 18 #[.agg (brdV (some ⟨g, 0, none⟩) m c (some ⟨g', 0, none⟩) m' c'), .slice (some ⟨gr, 0, none⟩) mr cr, .int .i64 n] w fun e w' => ∃ q v f, e = .returned (.agg (resV (tmR us fs rm n).c q (tmR us fs rm n).l v f)) ∧ RIs w' w.heap.size (tmR us fs rm n) q v f ∧ Below w.heap.size w w' := by
  obtain ⟨W1, HW1, rb, rr, B1⟩ := two_res w (.slice (some ⟨g, 0, none⟩) m c) (.slice (some ⟨g', 0, none⟩) m' c')
  have cF := (h.later B1).asked (row_brd rb)
  have cN := fun W => l1In_c n 0 20 W
  rcases tm_cases us fs rm n with ⟨h1, e⟩ | ⟨h1, hn, e⟩ | ⟨h1, k, rfl, hk, e⟩
  · rw [e]
    have h1' := bne_of h1
    generalize tkF us fs rm = R at h1 h1' cF ⊢
    clear h e
    go_enter Tryz.func18, Tryz.ntmps18
    go_upto_region 1 with fail
    rw [← HW1.out]
    go_wp2_with fail
    refine cF.mono ?_
    rintro e w2 ⟨rfl, k2⟩
    have B2 := B1.trans (k2.mono B1.size)
    have rr2 := row_later rr k2
    obtain ⟨e0, e1, e2, e3, e4, z0, z1, z2, z3, z4, el⟩ := res_cells rr2
    obtain ⟨x0, x1, x2, x3, x4⟩ := setRes_cells (setRes_row rr2 R (.slice none 0 0) 0 (.slice none 0 0) (.slice none 0 0))
    have BZ := setRes_bel B2 (w.heap.size + 1) (by omega) R (.slice none 0 0) 0 (.slice none 0 0) (.slice none 0 0)
    have RZ := RIs.nil (stRes w2 (w.heap.size + 1) R (.slice none 0 0) 0 (.slice none 0 0) (.slice none 0 0)) w.heap.size R
    go_wp2_with fail
    refine bodyPost_ret (v := .agg (resV R (.slice none 0 0) 0 (.slice none 0 0) (.slice none 0 0))) ?_ rfl ⟨_, _, _, rfl, RZ, BZ⟩
    simp [results, Tryz.results18, go_sem, x0, x1, x2, x3, x4]
    done
  · rw [e]
    rw [h1] at cF
    rw [inb_f (by omega)] at cN
    clear h e h1 hn
    go_enter Tryz.func18, Tryz.ntmps18
    go_upto_region 1 with fail
    rw [← HW1.out]
    go_wp2_with fail
    refine cF.mono ?_
    rintro e w2 ⟨rfl, k2⟩
    have B2 := B1.trans (k2.mono B1.size)
    have rr2 := row_later rr k2
    obtain ⟨e0, e1, e2, e3, e4, z0, z1, z2, z3, z4, el⟩ := res_cells rr2
    obtain ⟨x0, x1, x2, x3, x4⟩ := setRes_cells (setRes_row rr2 3 (.slice none 0 0) 0 (.slice none 0 0) (.slice none 0 0))
    have BZ := setRes_bel B2 (w.heap.size + 1) (by omega) 3 (.slice none 0 0) 0 (.slice none 0 0) (.slice none 0 0)
    have RZ := RIs.nil (stRes w2 (w.heap.size + 1) 3 (.slice none 0 0) 0 (.slice none 0 0) (.slice none 0 0)) w.heap.size 3
    go_wp2_with (first | (go_at_call 52; refine (cN _).mono ?_; rintro e w1 ⟨rfl, rfl⟩))
    refine bodyPost_ret (v := .agg (resV 3 (.slice none 0 0) 0 (.slice none 0 0) (.slice none 0 0))) ?_ rfl ⟨_, _, _, rfl, RZ, BZ⟩
    simp [results, Tryz.results18, go_sem, x0, x1, x2, x3, x4]
    done
  · rw [e]
    have hm : mr = 4 := by have := (tkF_ok h1).2.1; have := h.hr; omega
    subst hm
    rw [h1] at cF
    rw [inb_t (by omega) (by omega)] at cN
    have HT : Hid (TG (ts0 us fs rm)) := tg0 h1
    have m8 : m ≤ 8 := by have e := HT.out.gd.n8; change us.length ≤ 8 at e; have := h.hl; omega
    have m4 : m' ≤ 4 := by have e := HT.out.gd.n4; change fs.length ≤ 4 at e; have := h.hl'; omega
    have H : Hid (TIn w g m c g' m' c' gr 4 cr us fs rm) := h
    obtain ⟨s0, Hs0⟩ : ∃ s0, Hid (s0 = ts0 us fs rm) := ⟨_, rfl⟩
    have HT0 : Hid (TG s0) := by show TG _; rw [Hs0.out]; exact HT.out
    rw [← Hs0.out]
    obtain ⟨L, HLo⟩ : ∃ L, Hid ((tkN k s0).lost = L) := ⟨_, rfl⟩
    have eL : (TR.of (tkN k s0)).l = L := HLo.out
    have eC : (TR.of (tkN k s0)).c = 0 := rfl
    rw [eL, eC]
    clear h e h1 eL eC
    go_enter Tryz.func18, Tryz.ntmps18
    go_upto_region 1 with fail
    rw [← HW1.out]
    go_wp2_with fail
    refine cF.mono ?_
    rintro e w2 ⟨rfl, k2⟩
    have B2 := B1.trans (k2.mono B1.size)
    have hS2 : w.heap.size + 1 < w2.heap.size := (row_later rr k2).lt
    have rr2 : Hid (w2.rowIs (w.heap.size + 1) 32 5 (fun i => zResV[i]!)) := row_later rr k2
    obtain ⟨W3, HW3⟩ : ∃ W3, Hid (W3 = w2.alloc G4) := ⟨_, rfl⟩
    have k3 : Below w2.heap.size w2 W3 := by rw [HW3.out]; exact (Below.refl _ _).alloc (Nat.le_refl _) _
    have G3 : Hid (Lst W3 w2.heap.size 4 z4) := by show Lst _ _ _ _; rw [HW3.out]; exact g4_new w2
    have h3 := (H.out.later B2).later k3
    have cC := l4Copy2_c g 0 c m g' 0 c' m' us fs H.out.hl m8 H.out.hl' m4 W3 h3.lu h3.lf h3.u h3.f
    obtain ⟨p0, p1, pl⟩ := row_brd (row_later rb k2)
    go_wp2_with (first | (go_at_call 52; refine (cN _).mono ?_; rintro e w1 ⟨rfl, hw1⟩; obtain rfl := hw1.symm))
    rw [← HW3.out]
    refine cC.mono ?_
    rintro e w4 ⟨v, f, rfl, SU, SF, nv, nf, k4⟩
    obtain ⟨g1, c1, hv1, hg1, lg1, _⟩ := SU.addr nv
    obtain ⟨g2, c2, hv2, hg2, lg2, _⟩ := SF.addr nf
    rw [H.out.hl] at hv1
    rw [H.out.hl'] at hv2
    subst hv1 hv2
    obtain ⟨W5, HW5⟩ : ∃ W5, Hid (W5 = w4.alloc (.cells (resV 0 (.slice (some ⟨w2.heap.size, 0, none⟩) 4 4) 0 (.slice (some ⟨g1, 0, none⟩) m c1) (.slice (some ⟨g2, 0, none⟩) m' c2)) 32)) := ⟨_, rfl⟩
    obtain ⟨S, HS⟩ : ∃ S, Hid (S = w4.heap.size) := ⟨_, rfl⟩
    have k5 : Below w4.heap.size w4 W5 := by rw [HW5.out]; exact (Below.refl _ _).alloc (Nat.le_refl _) _
    have rS : W5.rowIs S 32 5 (fun i => (resV 0 (.slice (some ⟨w2.heap.size, 0, none⟩) 4 4) 0 (.slice (some ⟨g1, 0, none⟩) m c1) (.slice (some ⟨g2, 0, none⟩) m' c2))[i]!) := by rw [HW5.out, HS.out]; exact rowAll w4 _ _
    have K4 := k3.trans (k4.mono k3.size)
    have K5 := K4.trans (k5.mono K4.size)
    have h5 := (H.out.later B2).later K5
    have cL := l1Ints_c gr 0 cr 4 rm h5.hr (by omega) W5 h5.lr h5.r
    go_upto_region 7 with fail
    rw [← HW5.out, ← HS.out]
    clear p0 p1 pl
    go_wp2_with fail
    refine cL.mono ?_
    rintro e w6 ⟨ql, cl, rfl, hql, L6, k6⟩
    have K6 : Hid (Below w2.heap.size w2 w6) := K5.trans (k6.mono K5.size)
    have T6 : Hid (TB w6 w2.heap.size S w2.heap.size 4 ql cl (.slice (some ⟨g1, 0, none⟩) m c1) (.slice (some ⟨g2, 0, none⟩) m' c2) (tkN 0 s0).us (tkN 0 s0).fs (tkN 0 s0).gn (tkN 0 s0).rm (tkN 0 s0).lost) := by
      show TB _ _ _ _ _ _ _ _ _ _ _ _ _ _
      rw [Hs0.out]
      exact ⟨row_later rS k6, ((SU.below k5).below k6).mono k3.size, ((SF.below k5).below k6).mono k3.size, ((G3.out.below k4).below k5).below k6, L6, by have := G3.out.lt; have := k4.size; have := k5.size; omega, nv, by have := K4.size; have := HS.out; omega, Nat.le_refl _, by have := K5.size; omega⟩
    clear cC cL cF cN SU SF rS L6 h3 h5 K4 K5
    go_wp2_with fail
    go_loopw [10] (fun i wr => ∃ j : Nat, j ≤ k ∧ i = .int .i64 j ∧ (∃ vu vf, Hid (TB wr w2.heap.size S w2.heap.size 4 ql cl vu vf (tkN j s0).us (tkN j s0).fs (tkN j s0).gn (tkN j s0).rm (tkN j s0).lost) ∧ Hid (vf ≠ .slice none 0 0)) ∧ Hid (Below w2.heap.size w2 wr)) (fun i _ => k - (intOf i).toNat)
    case atStart => exact ⟨0, Nat.zero_le _, rfl, ⟨_, _, T6, nf⟩, K6⟩
    case round =>
      obtain ⟨j, hj, rfl, ⟨vu, vf, hT, nvf⟩, hK⟩ := hrel
      obtain ⟨s, Hs⟩ : ∃ s, Hid (s = tkN j s0) := ⟨_, rfl⟩
      rw [← Hs.out] at hT
      have tgs : Hid (TG s) := by show TG _; rw [Hs.out]; exact HT0.out.ticks j
      obtain ⟨gu, cu, hvu, hgu, lgu, _⟩ := hT.out.u.addr hT.out.nn
      obtain ⟨gf, cf, hvf, hgf, lgf, _⟩ := hT.out.f.addr nvf.out
      obtain ⟨n, Hn⟩ : ∃ n, Hid (s.us.length = n) := ⟨_, rfl⟩
      obtain ⟨n', Hn'⟩ : ∃ n, Hid (s.fs.length = n) := ⟨_, rfl⟩
      rw [Hn.out] at hvu
      rw [Hn'.out] at hvf
      subst hvu hvf
      by_cases hlt : j < k
      · have hlt' : (j : Int) < (k : Int) := by omega
        have cT := l5Tick_c S 3 gu n cu gf n' cf ql cl s.us s.fs s.rm wr (hT.out.lin tgs.out.rl) tgs.out.bare
        obtain ⟨t, Ht⟩ : ∃ t, Hid (t = tkB (ts0 s.us s.fs s.rm)) := ⟨_, rfl⟩
        rw [← Ht.out] at cT
        have HE : Hid (tkN (j + 1) s0 = ⟨t.us, t.fs, subL s.rm t.gn, addL s.gn t.gn, s.lost + t.lost⟩) := by show _ = _; rw [tkN_next, ← Hs.out, tick_add s tgs.out.rl tgs.out.gl, ← Ht.out]
        have tgt : Hid (TG t) := by show TG _; rw [Ht.out]; exact tgs.out.bare.tick
        have hlo : 0 ≤ s.lost ∧ s.lost ≤ 160 ∧ 0 ≤ t.lost ∧ t.lost ≤ 160 := by
          have a := tgs.out.l0; have b := tgs.out.l1; have c := tgt.out.l0; have d := tgt.out.l1; omega
        go_wp2_with fail
        refine cT.mono ?_
        rintro e w7 ⟨q, v, f, rfl, R7, nv7, nf7, k7⟩
        rcases R7.g.cases with ⟨h0, _⟩ | ⟨_, qv, cv, hq, hqv, Lv⟩
        · have := tgt.out.gl; have e0 : t.gn = [] := h0; rw [e0] at this; cases this
        obtain ⟨ga, ca, hv, hga, lga, _⟩ := R7.u.addr nv7
        obtain ⟨gb, cb, hf, hgb, lgb, _⟩ := R7.f.addr nf7
        have e4 : (TR.of t).g.length = 4 := tgt.out.gl
        rw [e4] at hq
        obtain ⟨lu, Hlu⟩ : ∃ n, Hid ((TR.of t).us.length = n) := ⟨_, rfl⟩
        obtain ⟨lf, Hlf⟩ : ∃ n, Hid ((TR.of t).fs.length = n) := ⟨_, rfl⟩
        rw [Hlu.out] at hv
        rw [Hlf.out] at hf
        subst hq hv hf
        obtain ⟨W8, HW8⟩ : ∃ W8, Hid (W8 = w7.alloc (.cells (resV 0 (.slice (some ⟨qv, 0, none⟩) 4 cv) t.lost (.slice (some ⟨ga, 0, none⟩) lu ca) (.slice (some ⟨gb, 0, none⟩) lf cb)) 32)) := ⟨_, rfl⟩
        obtain ⟨D, HD⟩ : ∃ D, Hid (D = w7.heap.size) := ⟨_, rfl⟩
        have k8 : Below w7.heap.size w7 W8 := by rw [HW8.out]; exact (Below.refl _ _).alloc (Nat.le_refl _) _
        have rD : W8.rowIs D 32 5 (fun i => (resV 0 (.slice (some ⟨qv, 0, none⟩) 4 cv) t.lost (.slice (some ⟨ga, 0, none⟩) lu ca) (.slice (some ⟨gb, 0, none⟩) lf cb))[i]!) := by rw [HW8.out, HD.out]; exact rowAll w7 _ _
        have T8 := (hT.out.later k7).later k8
        have hKs := hK.out.size
        have hSD : D ≠ S := by have := hT.out.row.lt; have := k7.size; have := HD.out; omega
        have hgD : D ≠ w2.heap.size := by have := hT.out.g.lt; have := k7.size; have := HD.out; omega
        have hlD : D ≠ ql := by have := hT.out.l.lt; have := k7.size; have := HD.out; omega
        have nv1 : qv ≠ w2.heap.size := by have := hT.out.g.lt; omega
        have nv2 : qv ≠ ql := by have := hT.out.l.lt; omega
        have nv3 : qv ≠ S := by have := hT.out.row.lt; omega
        have K8 : Below w2.heap.size w2 W8 := (hK.out.trans (k7.mono hKs)).trans (k8.mono (Nat.le_trans hKs k7.size))
        obtain ⟨W9, HW9⟩ : ∃ W9, Hid (W9 = (W8.setCell ⟨S, 3, none⟩ (.slice (some ⟨ga, 0, none⟩) lu ca)).setCell ⟨S, 4, none⟩ (.slice (some ⟨gb, 0, none⟩) lf cb)) := ⟨_, rfl⟩
        have T9 : TB W9 w2.heap.size S w2.heap.size 4 ql cl (.slice (some ⟨ga, 0, none⟩) lu ca) (.slice (some ⟨gb, 0, none⟩) lf cb) t.us t.fs s.gn s.rm s.lost := by rw [HW9.out]; exact T8.setB ((R7.u.below k8).mono hKs) ((R7.f.below k8).mono hKs) nv7
        have kb9 : ∀ q, q ≠ S → W9.heap[q]? = W8.heap[q]? := fun q hq => by rw [HW9.out]; exact (Below.heap_setCell _ _ _ _ hq).trans (Below.heap_setCell _ _ _ _ hq)
        have K9 : Below w2.heap.size w2 W9 := by rw [HW9.out]; exact bel_set (bel_set K8 _ _ hT.out.bS _) _ _ hT.out.bS _
        obtain ⟨W10, HW10⟩ : ∃ W10, Hid (W10 = W9.setCell ⟨S, 2, none⟩ (.int .i64 (s.lost + t.lost))) := ⟨_, rfl⟩
        have T10 : Hid (TB W10 w2.heap.size S w2.heap.size 4 ql cl (.slice (some ⟨ga, 0, none⟩) lu ca) (.slice (some ⟨gb, 0, none⟩) lf cb) t.us t.fs (mixF (· + ·) s.gn t.gn 0) (mixF (· - ·) s.rm t.gn 0) (s.lost + t.lost)) := by show TB _ _ _ _ _ _ _ _ _ _ _ _ _ _; rw [HW10.out, mix_start, mix_start]; exact T9.setLost _
        have kb10 : ∀ q, q ≠ S → W10.heap[q]? = W8.heap[q]? := fun q hq => by rw [HW10.out]; exact (Below.heap_setCell _ _ _ _ hq).trans (kb9 q hq)
        have K10 : Hid (Below w2.heap.size w2 W10) := by show Below _ _ _; rw [HW10.out]; exact bel_set K9 _ _ hT.out.bS _
        have V10 : Hid (Lst W10 qv cv t.gn) := (Lv.below k8).of_block (kb10 qv nv3)
        have rD10 : Hid (W10.rowIs D 32 5 (fun i => (resV 0 (.slice (some ⟨qv, 0, none⟩) 4 cv) t.lost (.slice (some ⟨ga, 0, none⟩) lu ca) (.slice (some ⟨gb, 0, none⟩) lf cb))[i]!)) := rD.of_block (kb10 D hSD)
        have rD9 := rD.of_block (kb9 D hSD)
        have d3 : W8.cell? ⟨D, 3, none⟩ = some (.slice (some ⟨ga, 0, none⟩) lu ca) := rD.cell (i := 3) (by omega)
        have d4 : W8.cell? ⟨D, 4, none⟩ = some (.slice (some ⟨gb, 0, none⟩) lf cb) := rD.cell (i := 4) (by omega)
        have dl := rD.lt
        have s3 : W8.cell? ⟨S, 3, none⟩ = some (.slice (some ⟨gu, 0, none⟩) n cu) := T8.row.cell (i := 3) (by omega)
        have s4 : W8.cell? ⟨S, 4, none⟩ = some (.slice (some ⟨gf, 0, none⟩) n' cf) := T8.row.cell (i := 4) (by omega)
        have f3 := T8.row.frozen 3
        have f4 := T8.row.frozen 4
        have sl := T8.row.lt
        clear R7 Lv lgu lgf lga lgb hqv hga hgb
        go_upto_region 12 with fail
        rw [← HW8.out, ← HD.out]
        go_upto_region 13 with fail
        rw [← HW9.out]
        clear d3 d4 dl s3 s4 f3 f4 sl
        have d2 : W9.cell? ⟨D, 2, none⟩ = some (.int .i64 t.lost) := rD9.cell (i := 2) (by omega)
        have dl := rD9.lt
        have s2 : W9.cell? ⟨S, 2, none⟩ = some (.int .i64 s.lost) := T9.row.cell (i := 2) (by omega)
        have f2 := T9.row.frozen 2
        have sl := T9.row.lt
        obtain ⟨o1, o2, o3, o4⟩ := hlo
        go_upto_region 14 with fail
        rw [← HW10.out]
        clear d2 dl s2 f2 sl rD9 T9 K9 kb9 kb10 T8 K8 rD
        have hgl4 : t.gn.length = 4 := tgt.out.gl
        have hbd : Hid (∀ j, j < 4 → (0 ≤ s.gn.getD j 0 ∧ s.gn.getD j 0 ≤ 1000000 ∧ 0 ≤ s.rm.getD j 0 ∧ s.rm.getD j 0 ≤ 1000000) ∧ 0 ≤ t.gn.getD j 0 ∧ t.gn.getD j 0 ≤ 1000000) := fun j hj => ⟨tgs.out.bd hj, by have := tgt.out.bd hj; omega⟩
        go_wp2_with fail
        go_loopw [12] (fun i wq => ∃ x : Nat, x ≤ 4 ∧ i = .int .i64 x ∧ Hid (TB wq w2.heap.size S w2.heap.size 4 ql cl (.slice (some ⟨ga, 0, none⟩) lu ca) (.slice (some ⟨gb, 0, none⟩) lf cb) t.us t.fs (mixF (· + ·) s.gn t.gn x) (mixF (· - ·) s.rm t.gn x) (s.lost + t.lost)) ∧ Hid (Lst wq qv cv t.gn) ∧ Hid (World.rowIs wq D 32 5 (fun i => (resV 0 (.slice (some ⟨qv, 0, none⟩) 4 cv) t.lost (.slice (some ⟨ga, 0, none⟩) lu ca) (.slice (some ⟨gb, 0, none⟩) lf cb))[i]!)) ∧ Hid (Below w2.heap.size w2 wq)) (fun i _ => 4 - (intOf i).toNat)
        case atStart => exact ⟨0, by omega, rfl, T10, V10, rD10, K10⟩
        case round =>
          obtain ⟨x, hx4, rfl, hTq, hLq, hDq, hKq⟩ := hrel
          by_cases hj4 : x < 4
          · have hj' : (x : Int) < 4 := by omega
            obtain ⟨m1, m2, m3⟩ := mix_step (· + ·) tgs.out.gl hgl4 hj4
            obtain ⟨l1, _, l3⟩ := mix_step (· - ·) tgs.out.rl hgl4 hj4
            obtain ⟨⟨b1, b2, b3, b4⟩, b5, b6⟩ := hbd.out x hj4
            have M3 : Hid _ := m3
            have L3 : Hid _ := l3
            have L1 : Hid _ := l1
            have M2 : Hid _ := m2
            obtain ⟨X, HX⟩ : ∃ X, Hid (X = s.gn.getD x 0) := ⟨_, rfl⟩
            obtain ⟨Y, HY⟩ : ∃ Y, Hid (Y = t.gn.getD x 0) := ⟨_, rfl⟩
            obtain ⟨Z, HZ⟩ : ∃ Z, Hid (Z = s.rm.getD x 0) := ⟨_, rfl⟩
            have r1 : wr.cell? ⟨S, 1, none⟩ = some (.slice (some ⟨w2.heap.size, 0, none⟩) 4 4) := hTq.out.row.cell (i := 1) (by omega)
            have rl := hTq.out.row.lt
            have gc := hTq.out.g.cell m1
            have gz := hTq.out.g.frozen x
            have gll := hTq.out.g.lt
            have vc := hLq.out.cell m2
            have vl := hLq.out.lt
            have d1 : wr.cell? ⟨D, 1, none⟩ = some (.slice (some ⟨qv, 0, none⟩) 4 cv) := hDq.out.cell (i := 1) (by omega)
            have dl := hDq.out.lt
            rw [← HX.out] at gc b1 b2
            rw [← HY.out] at vc b5 b6
            rw [← HZ.out] at b3 b4
            clear m1 m2 m3 l1 l3
            obtain ⟨W7, HW7⟩ : ∃ W7, Hid (W7 = (wr.setCell ⟨w2.heap.size, x, none⟩ (.int .i64 (X + Y))).drew) := ⟨_, rfl⟩
            have T7 : TB W7 w2.heap.size S w2.heap.size 4 ql cl (.slice (some ⟨ga, 0, none⟩) lu ca) (.slice (some ⟨gb, 0, none⟩) lf cb) t.us t.fs (mixF (· + ·) s.gn t.gn (x + 1)) (mixF (· - ·) s.rm t.gn x) (s.lost + t.lost) := by
              have := (hTq.out.setG x (X + Y)).later ((Below.refl _ _).drew)
              rw [← HW7.out, HX.out, HY.out] at this
              rw [← M3.out]; exact this
            have V7 : Lst W7 qv cv t.gn := by rw [HW7.out]; exact (hLq.out.setOther (a := ⟨w2.heap.size, x, none⟩) nv1 _).below ((Below.refl _ _).drew)
            have D7 : World.rowIs W7 D 32 5 (fun i => (resV 0 (.slice (some ⟨qv, 0, none⟩) 4 cv) t.lost (.slice (some ⟨ga, 0, none⟩) lu ca) (.slice (some ⟨gb, 0, none⟩) lf cb))[i]!) := by rw [HW7.out]; exact row_later (row_other hDq.out (a := ⟨w2.heap.size, x, none⟩) hgD _) ((Below.refl _ _).drew)
            have Q7 : Below w2.heap.size w2 W7 := by rw [HW7.out]; exact (bel_set hKq.out _ _ (Nat.le_refl _) _).drew
            go_wp2_with fail
            go_region
            all_goals
              rw [← HW7.out]
              clear r1 rl gc gz gll vc vl d1 dl
              have lc := T7.l.cell L1.out
              have lz := T7.l.frozen x
              have lll := T7.l.lt
              have vc := V7.cell M2.out
              have vl := V7.lt
              have d1 : W7.cell? ⟨D, 1, none⟩ = some (.slice (some ⟨qv, 0, none⟩) 4 cv) := D7.cell (i := 1) (by omega)
              have dl := D7.lt
              rw [← HZ.out] at lc
              rw [← HY.out] at vc
              obtain ⟨W8, HW8⟩ : ∃ W8, Hid (W8 = (W7.setCell ⟨ql, x, none⟩ (.int .i64 (Z - Y))).drew) := ⟨_, rfl⟩
              have T8 : TB W8 w2.heap.size S w2.heap.size 4 ql cl (.slice (some ⟨ga, 0, none⟩) lu ca) (.slice (some ⟨gb, 0, none⟩) lf cb) t.us t.fs (mixF (· + ·) s.gn t.gn (x + 1)) (mixF (· - ·) s.rm t.gn (x + 1)) (s.lost + t.lost) := by
                have := (T7.setL x (Z - Y)).later ((Below.refl _ _).drew)
                rw [← HW8.out, HZ.out, HY.out] at this
                rw [← L3.out]; exact this
              have V8 : Lst W8 qv cv t.gn := by rw [HW8.out]; exact (V7.setOther (a := ⟨ql, x, none⟩) nv2 _).below ((Below.refl _ _).drew)
              have D8 : World.rowIs W8 D 32 5 (fun i => (resV 0 (.slice (some ⟨qv, 0, none⟩) 4 cv) t.lost (.slice (some ⟨ga, 0, none⟩) lu ca) (.slice (some ⟨gb, 0, none⟩) lf cb))[i]!) := by rw [HW8.out]; exact row_later (row_other D7 (a := ⟨ql, x, none⟩) hlD _) ((Below.refl _ _).drew)
              have Q8 : Below w2.heap.size w2 W8 := by rw [HW8.out]; exact (bel_set Q7 _ _ T7.bl _).drew
              go_wp2_with fail
              go_region
              all_goals
                rw [← HW8.out]
                go_wp2_with fail
                go_roundw
                case rel => exact ⟨x + 1, by omega, by go_num, T8, V8, D8, Q8⟩
                case measure => simp [intOf]; omega
          · obtain rfl : x = 4 := by omega
            have TE := hTq.out
            rw [mix_end tgs.out.gl hgl4, mix_end tgs.out.rl hgl4] at TE
            go_wp2_with fail
            go_roundw
            case rel => exact ⟨j + 1, by omega, by go_num, ⟨_, _, by show TB _ _ _ _ _ _ _ _ _ _ _ _ _ _; rw [HE.out]; exact TE, nf7⟩, hKq⟩
            case measure => simp [intOf]; omega
      · obtain rfl : j = k := by omega
        rw [← Hs.out] at HLo
        have rS := hT.out.row
        rw [HLo.out] at rS
        have q0 : wr.cell? ⟨S, 0, none⟩ = some (.int .i64 0) := rS.cell (i := 0) (by omega)
        have q1 : wr.cell? ⟨S, 1, none⟩ = some (.slice (some ⟨w2.heap.size, 0, none⟩) 4 4) := rS.cell (i := 1) (by omega)
        have q2 : wr.cell? ⟨S, 2, none⟩ = some (.int .i64 L) := rS.cell (i := 2) (by omega)
        have q3 : wr.cell? ⟨S, 3, none⟩ = some (.slice (some ⟨gu, 0, none⟩) n cu) := rS.cell (i := 3) (by omega)
        have q4 : wr.cell? ⟨S, 4, none⟩ = some (.slice (some ⟨gf, 0, none⟩) n' cf) := rS.cell (i := 4) (by omega)
        have ql' := rS.lt
        have rr6 := rr2.out.of_block (hK.out.block _ hS2)
        have R6 : RIs wr w2.heap.size (TR.of (tkN j s0)) (.slice (some ⟨w2.heap.size, 0, none⟩) 4 4) (.slice (some ⟨gu, 0, none⟩) n cu) (.slice (some ⟨gf, 0, none⟩) n' cf) := by
          rw [← Hs.out]
          refine ⟨?_, hT.out.u, hT.out.f⟩
          have := SlI.of_lst hT.out.g (Nat.le_refl w2.heap.size)
          rwa [tgs.out.gl] at this
        have B6 : Below w.heap.size w wr := B2.trans (hK.out.mono (by omega))
        obtain ⟨e0, e1, e2, e3, e4, z0, z1, z2, z3, z4, el⟩ := res_cells rr6
        obtain ⟨x0, x1, x2, x3, x4⟩ := setRes_cells (setRes_row rr6 0 (.slice (some ⟨w2.heap.size, 0, none⟩) 4 4) L (.slice (some ⟨gu, 0, none⟩) n cu) (.slice (some ⟨gf, 0, none⟩) n' cf))
        have BZ := setRes_bel B6 (w.heap.size + 1) (by omega) 0 (.slice (some ⟨w2.heap.size, 0, none⟩) 4 4) L (.slice (some ⟨gu, 0, none⟩) n cu) (.slice (some ⟨gf, 0, none⟩) n' cf)
        have RZ := (R6.setRes hS2 0 (.slice (some ⟨w2.heap.size, 0, none⟩) 4 4) L (.slice (some ⟨gu, 0, none⟩) n cu) (.slice (some ⟨gf, 0, none⟩) n' cf)).mono (base' := w.heap.size) (by omega)
        clear rS lgu lgf
        go_wp2_with fail
        refine bodyPost_ret (v := .agg (resV 0 (.slice (some ⟨w2.heap.size, 0, none⟩) 4 4) L (.slice (some ⟨gu, 0, none⟩) n cu) (.slice (some ⟨gf, 0, none⟩) n' cf))) ?_ rfl ⟨_, _, _, rfl, RZ, BZ⟩
        simp [results, Tryz.results18, go_sem, x0, x1, x2, x3, x4]
        done
end Go.Proofs.YtlonmobfjpmokaaGreatDoor
end

/- TickLawM -/
/- The walk of the exact law of TickMany. Condition: the homes lie in their variable. -/
section
namespace Go.Proofs.YtlonmobfjpmokaaGreatDoor
open Go.ChangeShapes Go.WideShapes Go.ChangeAt Go.RowKit
open Bd
set_option linter.unusedVariables false

theorem tm_len' (us : List K10) (fs : List K3) (rm : List Int) (n : Int) : ∃ ng nu nf, RLen (tmR us fs rm n) ng nu nf := by
  suffices h : (tmR us fs rm n).g.length ≤ 1000 ∧ (tmR us fs rm n).us.length ≤ 1000 ∧ (tmR us fs rm n).fs.length ≤ 1000 from ⟨_, _, _, rfl, rfl, rfl, h.1, h.2.1, h.2.2⟩
  rcases tm_cases us fs rm n with ⟨h1, e⟩ | ⟨h1, hf, e⟩ | ⟨h1, k, hk, _, e⟩
  · rw [e]; exact ⟨by show 0 ≤ 1000; omega, by show 0 ≤ 1000; omega, by show 0 ≤ 1000; omega⟩
  · rw [e]; exact ⟨by show 0 ≤ 1000; omega, by show 0 ≤ 1000; omega, by show 0 ≤ 1000; omega⟩
  · rw [e]
    have t := (tg0 h1).ticks k
    exact ⟨by show (tkN k _).gn.length ≤ _; rw [t.gl]; omega, by have := t.gd.n8; show (tkN k _).us.length ≤ _; omega, by have := t.gd.n4; show (tkN k _).fs.length ≤ _; omega⟩
set_option maxRecDepth 20000 in
set_option maxHeartbeats 16000000 in
theorem walk_fnExactTickMany (a : Option Addr) (m c : Nat) (a' : Option Addr) (m' c' : Nat) (us : List K10) (fs : List K3) (hx : m ≤ maxLen) (hx' : m' ≤ maxLen) (hl : us.length = m) (hl' : fs.length = m') (ar : Option Addr) (mr cr : Nat) (rm : List Int) (hxr : mr ≤ maxLen) (hlr : rm.length = mr) (n : Int) (W : World) (hU : ArgU W a us) (hF : ArgF W a' fs) (hR : ArgI W ar rm) (hL : HmAt W) :
    Calls Tryz.prog 7 #[.agg (brdV a m c a' m' c'), .slice ar mr cr, .int .i64 n] W fun e w' => e = .returned (.bool true) ∧ Below W.heap.size W w' := by
  unfold maxLen at hx hx' hxr
  subst hl hl' hlr
  have q0 := fun w => szBoard_c a us.length c a' fs.length c' (by omega) (by omega) w
  obtain ⟨W1, HW1⟩ : ∃ W1, Hid (W1 = W.alloc (.cells (brdV a us.length c a' fs.length c') 50)) := ⟨_, rfl⟩
  have B1 : Below W.heap.size W W1 := by rw [HW1.out]; exact (Below.refl _ _).alloc (Nat.le_refl _) _
  have rb : W1.rowIs W.heap.size 50 2 (fun i => if i = 0 then .slice a us.length c else .slice a' fs.length c') := by rw [HW1.out]; exact rowTwo W _ _ _
  by_cases hbig : 1048576 < rm.length
  · have hb' : (1048576 : Int) < (rm.length : Int) := by omega
    clear q0
    go_enter Tryz.func7, Tryz.ntmps7
    go_upto_region 1 with fail
    rw [← HW1.out]
    go_wp2_with fail
    go_ret
    exact ⟨rfl, B1⟩
  have hb' : decide ((1048576 : Int) < (rm.length : Int)) = false := decide_eq_false (by omega)
  by_cases hs : us.length + fs.length ≤ 1048576
  · rw [if_pos hs] at q0
    have d : decide ((1048576 : Int) - (us.length : Int) - (fs.length : Int) < 0) = false := decide_eq_false (by omega)
    have cT := fun w (hB : Below W.heap.size W w) => toBoard_c a c a' c' us fs (by omega) (by omega) w (hU.later hB) (hF.later hB)
    have cI := fun w (hB : Below W.heap.size W w) => toInt64S_c ar rm.length cr rm rfl (by omega) w (hR.later hB)
    have s1 := fun g g' gr w h => specTickMany g us.length us.length g' fs.length fs.length gr rm.length rm.length us fs n rm w h
    have s2 := fun g g' gr w (hB : Below W.heap.size W w) h => implTickMany g us.length us.length g' fs.length fs.length gr rm.length rm.length us fs n rm w (hL.later hB) h
    obtain ⟨ng, nu, nf, hn⟩ : ∃ ng nu nf, RLen (tmR us fs rm n) ng nu nf := tm_len' us fs rm n
    generalize tmR us fs rm n = r at s1 s2 hn
    have lg := hn.lg
    have lu := hn.lu
    have lf := hn.lf
    have Hn : Hid (RLen r ng nu nf) := hn
    have cE := fun a1 a2 a3 b1 b2 b3 p1 p2 p3 q1 q2 q3 x y w h1 h2 => eqTR r ng nu nf hn a1 a2 a3 b1 b2 b3 p1 p2 p3 q1 q2 q3 x y w h1 h2
    have hrl : rm.length ≤ 1048576 := by omega
    have hul : us.length ≤ 1048576 := by omega
    have hfl : fs.length ≤ 1048576 := by omega
    clear hn hU hF hR hL hs hbig
    obtain ⟨p0, p1, pl⟩ := row_brd rb
    go_enter Tryz.func7, Tryz.ntmps7
    go_upto_region 1 with fail
    rw [← HW1.out]
    go_wp2_with fail
    refine (q0 _).mono ?_
    rintro e w1 ⟨rfl, k1⟩
    have B2 := B1.trans (k1.mono B1.size)
    replace rb := row_later rb k1
    clear p0 p1 pl
    obtain ⟨p0, p1, pl⟩ := row_brd rb
    go_wp2_with fail
    refine (cT _ B2).mono ?_
    rintro e w2 ⟨g, g', rfl, N2, k2⟩
    have B3 := B2.trans (k2.mono B2.size)
    go_wp2_with fail
    refine (cI _ B3).mono ?_
    rintro e w3 ⟨rfl, L3, k3⟩
    have B4 := B3.trans (k3.mono B3.size)
    go_wp2_with fail
    refine (s1 g g' w2.heap.size w3 (tin_of (N2.later k3) L3 rfl (by omega))).mono ?_
    rintro e w4 ⟨v1, v2, v3, rfl, R4, k4⟩
    have B5 := B4.trans (k4.mono B4.size)
    obtain ⟨a1, a2, a3, y1, y2, y3, e1, e2, e3⟩ := R4.forms Hn.out
    subst e1 e2 e3
    obtain ⟨w5, H5⟩ : ∃ w5, Hid (w5 = w4.alloc (.cells (resV r.c (.slice a1 ng y1) r.l (.slice a2 nu y2) (.slice a3 nf y3)) 32)) := ⟨_, rfl⟩
    obtain ⟨S, HS⟩ : ∃ S, Hid (S = w4.heap.size) := ⟨_, rfl⟩
    have A5 : RA w5 w3.heap.size S r (.slice a1 ng y1) (.slice a2 nu y2) (.slice a3 nf y3) := by rw [H5.out, HS.out]; exact RA.new R4 k4.size
    have hA5 := A5.lt
    have hSr := rb.lt
    have zz2 := k2.size
    have zz3 := k3.size
    have k5 : Below w4.heap.size w4 w5 := by rw [H5.out]; exact (Below.refl _ _).alloc (Nat.le_refl _) _
    have B6 := B5.trans (k5.mono B5.size)
    have zz4 := k4.size
    have zz5 := k5.size
    replace rb := row_later (row_later (row_later (row_later rb k2) k3) k4) k5
    clear p0 p1 pl N2 L3 R4
    go_upto_region 8 with fail
    rw [← H5.out, ← HS.out]
    obtain ⟨p0, p1, pl⟩ := row_brd rb
    go_wp2_with fail
    refine (cT _ B6).mono ?_
    rintro e w6 ⟨h, h', rfl, N6, k6⟩
    have B7 := B6.trans (k6.mono B6.size)
    obtain ⟨w7, H7⟩ : ∃ w7, Hid (w7 = w6.alloc (.cells (brdV (some ⟨h, 0, none⟩) us.length us.length (some ⟨h', 0, none⟩) fs.length fs.length) 27)) := ⟨_, rfl⟩
    obtain ⟨X, HX⟩ : ∃ X, Hid (X = w6.heap.size) := ⟨_, rfl⟩
    have k7 : Below w6.heap.size w6 w7 := by rw [H7.out]; exact (Below.refl _ _).alloc (Nat.le_refl _) _
    have rx : w7.rowIs X 27 2 (fun i => if i = 0 then .slice (some ⟨h, 0, none⟩) us.length us.length else .slice (some ⟨h', 0, none⟩) fs.length fs.length) := by rw [H7.out, HX.out]; exact rowTwo w6 _ _ _
    have B8 := B7.trans (k7.mono B7.size)
    replace rb := row_later (row_later rb k6) k7
    replace A5 := (A5.later k6).later k7
    have nle := N6.le
    have nlt := N6.lt
    have nh := N6.u.lt
    have nh' := N6.f.lt
    have A5lt : ∀ b, ABlk S (.slice a1 ng y1) (.slice a2 nu y2) (.slice a3 nf y3) b → w3.heap.size ≤ b ∧ b < w5.heap.size := hA5
    replace N6 := N6.later k7
    clear p0 p1 pl
    go_upto_region 9 with fail
    rw [← H7.out, ← HX.out]
    go_wp2_with fail
    refine (cI _ B8).mono ?_
    rintro e w8 ⟨rfl, L8, k8⟩
    obtain ⟨Y, HY⟩ : ∃ Y, Hid (Y = w7.heap.size) := ⟨_, rfl⟩
    rw [← HY.out] at L8 ⊢
    have hY8 := L8.lt
    have hYa : w7.heap.size ≤ Y := Nat.le_of_eq HY.out.symm
    have hYb : Y ≤ w7.heap.size := Nat.le_of_eq HY.out
    have hXa : w6.heap.size ≤ X := Nat.le_of_eq HX.out.symm
    have hXb : X ≤ w6.heap.size := Nat.le_of_eq HX.out
    have zz7 := k7.size
    have zz6 := k6.size
    have zz8 := k8.size
    have hX7 : X < w7.heap.size := rx.lt
    have B9 := B8.trans (k8.mono B8.size)
    replace rb := row_later rb k8
    replace rx := row_later rx k8
    replace A5 := A5.later k8
    replace N6 := N6.later k8
    obtain ⟨x0, x1, xl⟩ := row_brd rx
    go_wp2_with fail
    refine (s2 h h' Y w8 B9 (tin_of N6 L8 rfl (by omega))).mono ?_
    rintro e w9 ⟨u1, u2, u3, rfl, R9, k9⟩
    have B10 := B9.trans (k9.mono B9.size)
    obtain ⟨b1, b2, b3, z1, z2, z3, e1, e2, e3⟩ := R9.forms Hn.out
    subst e1 e2 e3
    obtain ⟨w10, H10⟩ : ∃ w10, Hid (w10 = w9.alloc (.cells (resV r.c (.slice b1 ng z1) r.l (.slice b2 nu z2) (.slice b3 nf z3)) 32)) := ⟨_, rfl⟩
    obtain ⟨G, HG⟩ : ∃ G, Hid (G = w9.heap.size) := ⟨_, rfl⟩
    have A10 : RA w10 w8.heap.size G r (.slice b1 ng z1) (.slice b2 nu z2) (.slice b3 nf z3) := by rw [H10.out, HG.out]; exact RA.new R9 k9.size
    have k10 : Below w9.heap.size w9 w10 := by rw [H10.out]; exact (Below.refl _ _).alloc (Nat.le_refl _) _
    have B11 := B10.trans (k10.mono B10.size)
    replace rb := row_later (row_later rb k9) k10
    replace rx := row_later (row_later rx k9) k10
    replace A5 := (A5.later k9).later k10
    replace N6 := (N6.later k9).later k10
    replace L8 := (L8.below k9).below k10
    have A10lt : ∀ b, ABlk G (.slice b1 ng z1) (.slice b2 nu z2) (.slice b3 nf z3) b → w8.heap.size ≤ b := fun b hb => (A10.lt b hb).1
    clear x0 x1 xl R9
    go_upto_region 11 with fail
    rw [← H10.out, ← HG.out]
    obtain ⟨i0, i1, i2, i3, i4, il⟩ := A5.cells
    obtain ⟨j0, j1, j2, j3, j4, jl⟩ := A10.cells
    go_wp2_with fail
    refine (cE _ _ _ _ _ _ _ _ _ _ _ _ _ _ _ A10.is A5.is).mono ?_
    rintro e w11 ⟨rfl, k11⟩
    have B12 := B11.trans (k11.mono B11.size)
    replace rb := row_later rb k11
    replace rx := row_later rx k11
    replace A5 := A5.later k11
    replace A10 := A10.later k11
    replace N6 := N6.later k11
    replace L8 := L8.below k11
    clear i0 i1 i2 i3 i4 il j0 j1 j2 j3 j4 jl
    obtain ⟨p0, p1, pl⟩ := row_brd rb
    obtain ⟨x0, x1, xl⟩ := row_brd rx
    go_upto_region 13 with fail
    go_cut [46] from 42 to 45 (fun sc wx => sc = .bool false ∧ Below w11.heap.size w11 wx)
    case first =>
      go_region_with (first
        | (go_at_call 26; with_reducible refine (cT _ B12.drew).mono ?_; rintro e wa ⟨g3, g3', rfl, Na, ka⟩; have Ba := bel_drew ka; have Nb := N6.later Ba; have x0 := (row_brd (row_later rx Ba)).c0; have x1 := (row_brd (row_later rx Ba)).c1)
        | (go_at_call 29; with_reducible refine (Nb.eq Na (by omega) (by omega)).mono ?_; rintro e wb ⟨rfl, kb⟩; have Bb := Ba.trans (kb.mono Ba.size)))
      all_goals
        go_wp2_with fail
        go_meet
        case rel => exact ⟨rfl, Bb⟩
    case rest =>
      obtain ⟨rfl, kc⟩ := hcut
      obtain ⟨w12, hwx⟩ : ∃ y : World, y = wc := ⟨_, rfl⟩
      subst hwx
      have B13 := B12.trans (kc.mono B12.size)
      replace rb := row_later rb kc
      replace rx := row_later rx kc
      replace A5 := A5.later kc
      replace A10 := A10.later kc
      replace N6 := N6.later kc
      replace L8 := L8.below kc
      clear p0 p1 pl x0 x1 xl kc
      go_wp2_with fail
      refine (cI _ B13).mono ?_
      rintro e w13 ⟨rfl, L13, k13⟩
      have B14 := B13.trans (k13.mono B13.size)
      replace rb := row_later rb k13
      replace rx := row_later rx k13
      replace A5 := A5.later k13
      replace A10 := A10.later k13
      replace N6 := N6.later k13
      replace L8 := L8.below k13
      go_wp2_with fail
      refine (eqInt64S_same _ _ _ _ _ rm.length rm rfl (by omega) L8 L13).mono ?_
      rintro e w14 ⟨rfl, nq, hw14⟩
      have k14 : Below w13.heap.size w13 w14 := by rw [hw14]; exact below_drewN _ _
      clear hw14
      have B15 := B14.trans (k14.mono B14.size)
      replace rb := row_later rb k14
      replace rx := row_later rx k14
      replace A5 := A5.later k14
      replace A10 := A10.later k14
      replace N6 := N6.later k14
      replace L8 := L8.below k14
      clear L13
      obtain ⟨x0, x1, xl⟩ := row_brd rx
      go_upto_region 18 with fail
      go_wp2_with fail
      refine (markBoard_c _ N6 (by omega) (by omega)).mono ?_
      rintro e w15 ⟨rfl, k15⟩
      have K15 := KeptS.of2 k15
      have B16 : Below W.heap.size W w15 := K15.below B15 B15.size (fun q _ e => by rcases e with e | e <;> omega)
      replace L8 := L8.of_block (K15.block Y L8.lt (by rintro (e | e) <;> omega))
      replace rb := row_kept rb K15 (by rintro (e | e) <;> omega)
      replace A5 := A5.kept K15 (fun b hb => by have := A5lt b hb; rintro (e | e) <;> omega)
      replace A10 := A10.kept K15 (fun b hb => by have := A10lt b hb; rintro (e | e) <;> omega)
      clear x0 x1 xl rx N6 k15 K15
      go_wp2_with fail
      refine (markInt64S_any _ Y _ rm.length (1 + 10 * (us.length : Int) + 3 * (fs.length : Int)) rm rfl (by omega) (by omega) (by omega) L8).mono ?_
      rintro e w16 ⟨rfl, _, g16⟩
      have K16 := KeptS.ofG g16
      have B17 : Below W.heap.size W w16 := K16.below B16 B16.size (fun q _ e => by omega)
      replace rb := row_kept rb K16 (by omega)
      replace A5 := A5.kept K16 (fun b hb => by have := A5lt b hb; omega)
      replace A10 := A10.kept K16 (fun b hb => by have := A10lt b hb; omega)
      have dk : decide ((1 : Int) + 10 * (us.length : Int) + 3 * (fs.length : Int) + (rm.length : Int) < 0) = false := decide_eq_false (by omega)
      clear L8 g16 K16
      obtain ⟨i0, i1, i2, i3, i4, il⟩ := A5.cells
      obtain ⟨j0, j1, j2, j3, j4, jl⟩ := A10.cells
      go_wp2_with fail
      refine (cE _ _ _ _ _ _ _ _ _ _ _ _ _ _ _ A10.is A5.is).mono ?_
      rintro e w17 ⟨rfl, k17⟩
      have B18 := B17.trans (k17.mono B17.size)
      replace rb := row_later rb k17
      replace A5 := A5.later k17
      replace A10 := A10.later k17
      clear i0 i1 i2 i3 i4 il j0 j1 j2 j3 j4 jl
      obtain ⟨j0, j1, j2, j3, j4, jl⟩ := A10.cells
      have cM := markTR r ng nu nf Hn.out b1 b2 b3 z1 z2 z3 _ w17 A10.is
      go_upto_region 23 with fail
      go_wp2_with fail
      refine cM.mono ?_
      rintro e w18 ⟨rfl, M18, K18⟩
      have B19 : Below W.heap.size W w18 := K18.below B18 B18.size (fun q _ e => by have := A10lt q (.inr e); omega)
      replace rb := row_kept rb K18 (fun e => by have := A10lt _ (.inr e); omega)
      replace A5 := A5.kept K18 (fun b hb e => by have := A10lt b (.inr e); have := A5lt b hb; omega)
      have rg := row_kept A10.row K18 A10.ne
      clear j0 j1 j2 j3 j4 jl cM K18 A10
      have gcells : ∀ w', Below w18.heap.size w18 w' → w'.cell? ⟨G, 0, none⟩ = some (.int .i64 r.c) ∧ w'.cell? ⟨G, 1, none⟩ = some (.slice b1 ng z1) ∧ w'.cell? ⟨G, 2, none⟩ = some (.int .i64 r.l) ∧ w'.cell? ⟨G, 3, none⟩ = some (.slice b2 nu z2) ∧ w'.cell? ⟨G, 4, none⟩ = some (.slice b3 nf z3) ∧ G < w'.heap.size := fun w' hb => by
        have r' := row_later rg hb
        exact ⟨r'.cell (i := 0) (by omega), r'.cell (i := 1) (by omega), r'.cell (i := 2) (by omega), r'.cell (i := 3) (by omega), r'.cell (i := 4) (by omega), r'.lt⟩
      obtain ⟨j0, j1, j2, j3, j4, jl⟩ := gcells _ (Below.refl _ _)
      have hd1 : decide ((1 : Int) + (ng : Int) + 10 * (nu : Int) + 3 * (nf : Int) < 0) = false := decide_eq_false (by omega)
      have hd2 : (((1 : Int) + (ng : Int) + 10 * (nu : Int) + 3 * (nf : Int)) != (1 + (ng : Int) + 10 * (nu : Int) + 3 * (nf : Int))) = false := by simp
      go_upto_region 25 with fail
      go_wp2_with fail
      refine (heldTR r.c r.l ng nu nf lg lu lf b1 b2 b3 z1 z2 z3 _ M18).mono ?_
      rintro e w19 ⟨rfl, k19⟩
      have B20 := B19.trans (k19.mono B19.size)
      replace rb := row_later rb k19
      replace A5 := A5.later k19
      have M19 := M18.later k19
      clear j0 j1 j2 j3 j4 jl
      obtain ⟨p0, p1, pl⟩ := row_brd rb
      go_upto_region 30 with fail
      go_wp2_with fail
      refine (cT _ B20).mono ?_
      rintro e w20 ⟨g9, g9', rfl, N20, k20⟩
      have B21 := B20.trans (k20.mono B20.size)
      go_wp2_with fail
      refine (cI _ B21).mono ?_
      rintro e w21 ⟨rfl, L21, k21⟩
      have B22 := B21.trans (k21.mono B21.size)
      go_wp2_with fail
      refine (s2 g9 g9' w20.heap.size w21 B22 (tin_of (N20.later k21) L21 rfl (by omega))).mono ?_
      rintro e w22 ⟨o1, o2, o3, rfl, R22, k22⟩
      have B23 := B22.trans (k22.mono B22.size)
      obtain ⟨l1, l2, l3, t1, t2, t3, e1, e2, e3⟩ := R22.forms Hn.out
      subst e1 e2 e3
      obtain ⟨w23, H23⟩ : ∃ w23, Hid (w23 = w22.alloc (.cells (resV r.c (.slice l1 ng t1) r.l (.slice l2 nu t2) (.slice l3 nf t3)) 32)) := ⟨_, rfl⟩
      obtain ⟨Z, HZ⟩ : ∃ Z, Hid (Z = w22.heap.size) := ⟨_, rfl⟩
      have A23 : RA w23 w21.heap.size Z r (.slice l1 ng t1) (.slice l2 nu t2) (.slice l3 nf t3) := by rw [H23.out, HZ.out]; exact RA.new R22 k22.size
      have k23 : Below w22.heap.size w22 w23 := by rw [H23.out]; exact (Below.refl _ _).alloc (Nat.le_refl _) _
      have B24 := B23.trans (k23.mono B23.size)
      have K23 := ((k20.trans (k21.mono k20.size)).trans (k22.mono (k20.trans (k21.mono k20.size)).size)).trans (k23.mono ((k20.trans (k21.mono k20.size)).trans (k22.mono (k20.trans (k21.mono k20.size)).size)).size)
      replace A5 := A5.later K23
      have M23 := M19.later K23
      have KG := k19.trans (K23.mono k19.size)
      clear p0 p1 pl rb N20 L21 R22
      go_upto_region 31 with fail
      rw [← H23.out, ← HZ.out]
      obtain ⟨i0, i1, i2, i3, i4, il⟩ := A5.cells
      obtain ⟨j0, j1, j2, j3, j4, jl⟩ := A23.cells
      go_wp2_with fail
      refine (cE _ _ _ _ _ _ _ _ _ _ _ _ _ _ _ A23.is A5.is).mono ?_
      rintro e w24 ⟨rfl, k24⟩
      have B25 := B24.trans (k24.mono B24.size)
      have M24 := M23.later k24
      clear i0 i1 i2 i3 i4 il j0 j1 j2 j3 j4 jl
      obtain ⟨j0, j1, j2, j3, j4, jl⟩ := gcells _ (KG.trans (k24.mono KG.size))
      go_upto_region 34 with fail
      go_wp2_with fail
      refine (heldTR r.c r.l ng nu nf lg lu lf b1 b2 b3 z1 z2 z3 _ M24).mono ?_
      rintro e w25 ⟨rfl, k25⟩
      have B26 := B25.trans (k25.mono B25.size)
      go_wp2_with fail
      go_ret
      exact ⟨rfl, B26⟩
  · rw [if_neg hs] at q0
    obtain ⟨p0, p1, pl⟩ := row_brd rb
    go_enter Tryz.func7, Tryz.ntmps7
    go_upto_region 1 with fail
    rw [← HW1.out]
    go_wp2_with fail
    refine (q0 _).mono ?_
    rintro e w1 ⟨rfl, k1⟩
    have B2 := B1.trans (k1.mono B1.size)
    go_wp2_with fail
    go_ret
    exact ⟨rfl, B2⟩
end Go.Proofs.YtlonmobfjpmokaaGreatDoor
end
