/- Texts of mine put together (a claim holds at most 60 files): TickManyS. -/
import Derived.Test.YtepjkcfheejlbaaGreatDoorPartT29

/- TickManyS -/
/- The contract of the model's TickMany. Condition: the lists lie in memory as they were laid there. -/
section
namespace Go.Proofs.YtepjkcfheejlbaaGreatDoor
open Go.ChangeShapes Go.WideShapes Go.ChangeAt Go.RowKit
open Bd
set_option linter.unusedVariables false

theorem TB.setB {w : World} {base S qg cg ql cl : Nat} {vu vf v f : Value} {us us' : List K10} {fs fs' : List K3} {gn rm : List Int} {lost : Int} (h : TB w base S qg cg ql cl vu vf us fs gn rm lost) (hu : SlU w base v us') (hf : SlF w base f fs') (nn : v ≠ .slice none 0 0) :
    TB ((w.setCell ⟨S, 3, none⟩ v).setCell ⟨S, 4, none⟩ f) base S qg cg ql cl v f us' fs' gn rm lost := by
  have sp := h.sep
  obtain ⟨ct, ht, _⟩ := h.row
  have kb : ∀ q, q ≠ S → ((w.setCell ⟨S, 3, none⟩ v).setCell ⟨S, 4, none⟩ f).heap[q]? = w.heap[q]? := fun q hq => (Below.heap_setCell _ _ _ _ hq).trans (Below.heap_setCell _ _ _ _ hq)
  exact ⟨((h.row.set 3 v).set 4 f).congr (fun i hi => by rcases i with _ | _ | _ | _ | _ | i <;> first | rfl | omega), hu.of_block (fun q hq => kb q (by obtain ⟨c, hc⟩ := hu.blk hq; exact blk_ne hc ht (by decide))), hf.of_block (fun q hq => kb q (by obtain ⟨c, hc⟩ := hf.blk hq; exact blk_ne hc ht (by decide))), h.g.of_block (kb qg sp.sg.symm), h.l.of_block (kb ql sp.sl.symm), h.ne, nn, h.bS, h.bg, h.bl⟩
theorem TB.lin {w : World} {base S qg cg ql cl g m c g' m' c' : Nat} {us : List K10} {fs : List K3} {gn rm : List Int} {lost : Int} (h : TB w base S qg cg ql cl (.slice (some ⟨g, 0, none⟩) m c) (.slice (some ⟨g', 0, none⟩) m' c') us fs gn rm lost) (hr : rm.length = 4) : LIn w S 3 (some ⟨g, 0, none⟩) m c (some ⟨g', 0, none⟩) m' c' ql 0 us fs rm := by
  obtain ⟨g1, c1, e1, _, l1, u1⟩ := h.u.addr (by simp)
  obtain ⟨g2, c2, e2, _, l2, u2⟩ := h.f.addr (by simp)
  simp only [Value.slice.injEq, Option.some.injEq, Addr.mk.injEq] at e1 e2
  obtain ⟨⟨rfl, _, _⟩, hm, rfl⟩ := e1
  obtain ⟨⟨rfl, _, _⟩, hm', rfl⟩ := e2
  exact ⟨h.row.cell (i := 3) (by omega), h.row.cell (i := 4) (by omega), h.row.lt, hm.symm, hm'.symm, hr, .mk l1 u1, .mk l2 u2, h.l.iat, h.l.lt⟩
theorem TG.bare {s : TS} (h : TG s) : TG (ts0 s.us s.fs s.rm) := TG.start h.gd h.rl h.r
set_option maxRecDepth 20000 in
set_option maxHeartbeats 16000000 in
theorem specTickMany (pu : Option Addr) (m c : Nat) (pf : Option Addr) (m' c' gr og mr cr : Nat) (us : List K10) (fs : List K3) (n : Int) (rm : List Int) (w : World) (h : TIn w pu m c pf m' c' gr og mr cr us fs rm) :
    Calls Tryz.prog 18 #[.agg (brdV pu m c pf m' c'), .slice (some ⟨gr, og, none⟩) mr cr, .int .i64 n] w fun e w' => ∃ q v f, e = .returned (.agg (resV (tmR us fs rm n).c q (tmR us fs rm n).l v f)) ∧ RIs w' w.heap.size (tmR us fs rm n) q v f ∧ Below w.heap.size w w' := by
  obtain ⟨W1, HW1, rb, rr, B1⟩ := two_res w (.slice pu m c) (.slice pf m' c')
  have cF := (h.later B1).asked (row_brd rb)
  have cN := fun W => l1In_c n 0 20 W
  rcases tm_cases us fs rm n with ⟨h1, e⟩ | ⟨h1, hn, e⟩ | ⟨h1, k, rfl, hk, e⟩
  · rw [e]
    have h1' := bne_of h1
    generalize tkF us fs rm = R at h1 h1' cF ⊢
    clear h e
    go_enter Tryz.func18, Tryz.ntmps18
    go_upto_region 1 with fail
    rw [← HW1.out]
    go_wp2_with fail
    refine cF.mono ?_
    rintro e w2 ⟨rfl, k2⟩
    have B2 := B1.trans (k2.mono B1.size)
    have rr2 := row_later rr k2
    obtain ⟨e0, e1, e2, e3, e4, z0, z1, z2, z3, z4, el⟩ := res_cells rr2
    obtain ⟨x0, x1, x2, x3, x4⟩ := setRes_cells (setRes_row rr2 R (.slice none 0 0) 0 (.slice none 0 0) (.slice none 0 0))
    have BZ := setRes_bel B2 (w.heap.size + 1) (by omega) R (.slice none 0 0) 0 (.slice none 0 0) (.slice none 0 0)
    have RZ := RIs.nil (stRes w2 (w.heap.size + 1) R (.slice none 0 0) 0 (.slice none 0 0) (.slice none 0 0)) w.heap.size R
    go_wp2_with fail
    refine bodyPost_ret (v := .agg (resV R (.slice none 0 0) 0 (.slice none 0 0) (.slice none 0 0))) ?_ rfl ⟨_, _, _, rfl, RZ, BZ⟩
    simp [results, Tryz.results18, go_sem, x0, x1, x2, x3, x4]
    done
  · rw [e]
    rw [h1] at cF
    rw [inb_f (by omega)] at cN
    clear h e h1 hn
    go_enter Tryz.func18, Tryz.ntmps18
    go_upto_region 1 with fail
    rw [← HW1.out]
    go_wp2_with fail
    refine cF.mono ?_
    rintro e w2 ⟨rfl, k2⟩
    have B2 := B1.trans (k2.mono B1.size)
    have rr2 := row_later rr k2
    obtain ⟨e0, e1, e2, e3, e4, z0, z1, z2, z3, z4, el⟩ := res_cells rr2
    obtain ⟨x0, x1, x2, x3, x4⟩ := setRes_cells (setRes_row rr2 3 (.slice none 0 0) 0 (.slice none 0 0) (.slice none 0 0))
    have BZ := setRes_bel B2 (w.heap.size + 1) (by omega) 3 (.slice none 0 0) 0 (.slice none 0 0) (.slice none 0 0)
    have RZ := RIs.nil (stRes w2 (w.heap.size + 1) 3 (.slice none 0 0) 0 (.slice none 0 0) (.slice none 0 0)) w.heap.size 3
    go_wp2_with (first | (go_at_call 52; refine (cN _).mono ?_; rintro e w1 ⟨rfl, rfl⟩))
    refine bodyPost_ret (v := .agg (resV 3 (.slice none 0 0) 0 (.slice none 0 0) (.slice none 0 0))) ?_ rfl ⟨_, _, _, rfl, RZ, BZ⟩
    simp [results, Tryz.results18, go_sem, x0, x1, x2, x3, x4]
    done
  · rw [e]
    have hm : mr = 4 := by have := (tkF_ok h1).2.1; have := h.hr; omega
    subst hm
    rw [h1] at cF
    rw [inb_t (by omega) (by omega)] at cN
    have HT : Hid (TG (ts0 us fs rm)) := tg0 h1
    have m8 : m ≤ 8 := by have e := HT.out.gd.n8; change us.length ≤ 8 at e; have := h.hl; omega
    have m4 : m' ≤ 4 := by have e := HT.out.gd.n4; change fs.length ≤ 4 at e; have := h.hl'; omega
    have H : Hid (TIn w pu m c pf m' c' gr og 4 cr us fs rm) := h
    obtain ⟨s0, Hs0⟩ : ∃ s0, Hid (s0 = ts0 us fs rm) := ⟨_, rfl⟩
    have HT0 : Hid (TG s0) := by show TG _; rw [Hs0.out]; exact HT.out
    rw [← Hs0.out]
    obtain ⟨L, HLo⟩ : ∃ L, Hid ((tkN k s0).lost = L) := ⟨_, rfl⟩
    have eL : (TR.of (tkN k s0)).l = L := HLo.out
    have eC : (TR.of (tkN k s0)).c = 0 := rfl
    rw [eL, eC]
    clear h e h1 eL eC
    go_enter Tryz.func18, Tryz.ntmps18
    go_upto_region 1 with fail
    rw [← HW1.out]
    go_wp2_with fail
    refine cF.mono ?_
    rintro e w2 ⟨rfl, k2⟩
    have B2 := B1.trans (k2.mono B1.size)
    have hS2 : w.heap.size + 1 < w2.heap.size := (row_later rr k2).lt
    have rr2 : Hid (w2.rowIs (w.heap.size + 1) 32 5 (fun i => zResV[i]!)) := row_later rr k2
    obtain ⟨W3, HW3⟩ : ∃ W3, Hid (W3 = w2.alloc G4) := ⟨_, rfl⟩
    have k3 : Below w2.heap.size w2 W3 := by rw [HW3.out]; exact (Below.refl _ _).alloc (Nat.le_refl _) _
    have G3 : Hid (Lst W3 w2.heap.size 4 z4) := by show Lst _ _ _ _; rw [HW3.out]; exact g4_new w2
    have h3 := (H.out.later B2).later k3
    have cC := l4Copy2_i pu c m pf c' m' us fs H.out.hl m8 H.out.hl' m4 W3 h3.u h3.f
    obtain ⟨p0, p1, pl⟩ := row_brd (row_later rb k2)
    go_wp2_with (first | (go_at_call 52; refine (cN _).mono ?_; rintro e w1 ⟨rfl, hw1⟩; obtain rfl := hw1.symm))
    rw [← HW3.out]
    refine cC.mono ?_
    rintro e w4 ⟨v, f, rfl, SU, SF, nv, nf, k4⟩
    obtain ⟨g1, c1, hv1, hg1, lg1, _⟩ := SU.addr nv
    obtain ⟨g2, c2, hv2, hg2, lg2, _⟩ := SF.addr nf
    rw [H.out.hl] at hv1
    rw [H.out.hl'] at hv2
    subst hv1 hv2
    obtain ⟨W5, HW5⟩ : ∃ W5, Hid (W5 = w4.alloc (.cells (resV 0 (.slice (some ⟨w2.heap.size, 0, none⟩) 4 4) 0 (.slice (some ⟨g1, 0, none⟩) m c1) (.slice (some ⟨g2, 0, none⟩) m' c2)) 32)) := ⟨_, rfl⟩
    obtain ⟨S, HS⟩ : ∃ S, Hid (S = w4.heap.size) := ⟨_, rfl⟩
    have k5 : Below w4.heap.size w4 W5 := by rw [HW5.out]; exact (Below.refl _ _).alloc (Nat.le_refl _) _
    have rS : W5.rowIs S 32 5 (fun i => (resV 0 (.slice (some ⟨w2.heap.size, 0, none⟩) 4 4) 0 (.slice (some ⟨g1, 0, none⟩) m c1) (.slice (some ⟨g2, 0, none⟩) m' c2))[i]!) := by rw [HW5.out, HS.out]; exact rowAll w4 _ _
    have K4 := k3.trans (k4.mono k3.size)
    have K5 := K4.trans (k5.mono K4.size)
    have h5 := (H.out.later B2).later K5
    have cL := l1Ints_c gr og cr 4 rm h5.hr (by omega) W5 h5.lr h5.r
    go_upto_region 7 with fail
    rw [← HW5.out, ← HS.out]
    clear p0 p1 pl
    go_wp2_with fail
    refine cL.mono ?_
    rintro e w6 ⟨ql, cl, rfl, hql, L6, k6⟩
    have K6 : Hid (Below w2.heap.size w2 w6) := K5.trans (k6.mono K5.size)
    have T6 : Hid (TB w6 w2.heap.size S w2.heap.size 4 ql cl (.slice (some ⟨g1, 0, none⟩) m c1) (.slice (some ⟨g2, 0, none⟩) m' c2) (tkN 0 s0).us (tkN 0 s0).fs (tkN 0 s0).gn (tkN 0 s0).rm (tkN 0 s0).lost) := by
      show TB _ _ _ _ _ _ _ _ _ _ _ _ _ _
      rw [Hs0.out]
      exact ⟨row_later rS k6, ((SU.below k5).below k6).mono k3.size, ((SF.below k5).below k6).mono k3.size, ((G3.out.below k4).below k5).below k6, L6, by have := G3.out.lt; have := k4.size; have := k5.size; omega, nv, by have := K4.size; have := HS.out; omega, Nat.le_refl _, by have := K5.size; omega⟩
    clear cC cL cF cN SU SF rS L6 h3 h5 K4 K5
    go_wp2_with fail
    go_loopw [10] (fun i wr => ∃ j : Nat, j ≤ k ∧ i = .int .i64 j ∧ (∃ vu vf, Hid (TB wr w2.heap.size S w2.heap.size 4 ql cl vu vf (tkN j s0).us (tkN j s0).fs (tkN j s0).gn (tkN j s0).rm (tkN j s0).lost) ∧ Hid (vf ≠ .slice none 0 0)) ∧ Hid (Below w2.heap.size w2 wr)) (fun i _ => k - (intOf i).toNat)
    case atStart => exact ⟨0, Nat.zero_le _, rfl, ⟨_, _, T6, nf⟩, K6⟩
    case round =>
      obtain ⟨j, hj, rfl, ⟨vu, vf, hT, nvf⟩, hK⟩ := hrel
      obtain ⟨s, Hs⟩ : ∃ s, Hid (s = tkN j s0) := ⟨_, rfl⟩
      rw [← Hs.out] at hT
      have tgs : Hid (TG s) := by show TG _; rw [Hs.out]; exact HT0.out.ticks j
      obtain ⟨gu, cu, hvu, hgu, lgu, _⟩ := hT.out.u.addr hT.out.nn
      obtain ⟨gf, cf, hvf, hgf, lgf, _⟩ := hT.out.f.addr nvf.out
      obtain ⟨n, Hn⟩ : ∃ n, Hid (s.us.length = n) := ⟨_, rfl⟩
      obtain ⟨n', Hn'⟩ : ∃ n, Hid (s.fs.length = n) := ⟨_, rfl⟩
      rw [Hn.out] at hvu
      rw [Hn'.out] at hvf
      subst hvu hvf
      by_cases hlt : j < k
      · have hlt' : (j : Int) < (k : Int) := by omega
        have cT := l5Tick_c S 3 (some ⟨gu, 0, none⟩) n cu (some ⟨gf, 0, none⟩) n' cf ql 0 cl s.us s.fs s.rm wr (hT.out.lin tgs.out.rl) tgs.out.bare
        obtain ⟨t, Ht⟩ : ∃ t, Hid (t = tkB (ts0 s.us s.fs s.rm)) := ⟨_, rfl⟩
        rw [← Ht.out] at cT
        have HE : Hid (tkN (j + 1) s0 = ⟨t.us, t.fs, subL s.rm t.gn, addL s.gn t.gn, s.lost + t.lost⟩) := by show _ = _; rw [tkN_next, ← Hs.out, tick_add s tgs.out.rl tgs.out.gl, ← Ht.out]
        have tgt : Hid (TG t) := by show TG _; rw [Ht.out]; exact tgs.out.bare.tick
        have hlo : 0 ≤ s.lost ∧ s.lost ≤ 160 ∧ 0 ≤ t.lost ∧ t.lost ≤ 160 := by
          have a := tgs.out.l0; have b := tgs.out.l1; have c := tgt.out.l0; have d := tgt.out.l1; omega
        go_wp2_with fail
        refine cT.mono ?_
        rintro e w7 ⟨q, v, f, rfl, R7, nv7, nf7, k7⟩
        rcases R7.g.cases with ⟨h0, _⟩ | ⟨_, qv, cv, hq, hqv, Lv⟩
        · have := tgt.out.gl; have e0 : t.gn = [] := h0; rw [e0] at this; cases this
        obtain ⟨ga, ca, hv, hga, lga, _⟩ := R7.u.addr nv7
        obtain ⟨gb, cb, hf, hgb, lgb, _⟩ := R7.f.addr nf7
        have e4 : (TR.of t).g.length = 4 := tgt.out.gl
        rw [e4] at hq
        obtain ⟨lu, Hlu⟩ : ∃ n, Hid ((TR.of t).us.length = n) := ⟨_, rfl⟩
        obtain ⟨lf, Hlf⟩ : ∃ n, Hid ((TR.of t).fs.length = n) := ⟨_, rfl⟩
        rw [Hlu.out] at hv
        rw [Hlf.out] at hf
        subst hq hv hf
        obtain ⟨W8, HW8⟩ : ∃ W8, Hid (W8 = w7.alloc (.cells (resV 0 (.slice (some ⟨qv, 0, none⟩) 4 cv) t.lost (.slice (some ⟨ga, 0, none⟩) lu ca) (.slice (some ⟨gb, 0, none⟩) lf cb)) 32)) := ⟨_, rfl⟩
        obtain ⟨D, HD⟩ : ∃ D, Hid (D = w7.heap.size) := ⟨_, rfl⟩
        have k8 : Below w7.heap.size w7 W8 := by rw [HW8.out]; exact (Below.refl _ _).alloc (Nat.le_refl _) _
        have rD : W8.rowIs D 32 5 (fun i => (resV 0 (.slice (some ⟨qv, 0, none⟩) 4 cv) t.lost (.slice (some ⟨ga, 0, none⟩) lu ca) (.slice (some ⟨gb, 0, none⟩) lf cb))[i]!) := by rw [HW8.out, HD.out]; exact rowAll w7 _ _
        have T8 := (hT.out.later k7).later k8
        have hKs := hK.out.size
        have hSD : D ≠ S := by have := hT.out.row.lt; have := k7.size; have := HD.out; omega
        have hgD : D ≠ w2.heap.size := by have := hT.out.g.lt; have := k7.size; have := HD.out; omega
        have hlD : D ≠ ql := by have := hT.out.l.lt; have := k7.size; have := HD.out; omega
        have nv1 : qv ≠ w2.heap.size := by have := hT.out.g.lt; omega
        have nv2 : qv ≠ ql := by have := hT.out.l.lt; omega
        have nv3 : qv ≠ S := by have := hT.out.row.lt; omega
        have K8 : Below w2.heap.size w2 W8 := (hK.out.trans (k7.mono hKs)).trans (k8.mono (Nat.le_trans hKs k7.size))
        obtain ⟨W9, HW9⟩ : ∃ W9, Hid (W9 = (W8.setCell ⟨S, 3, none⟩ (.slice (some ⟨ga, 0, none⟩) lu ca)).setCell ⟨S, 4, none⟩ (.slice (some ⟨gb, 0, none⟩) lf cb)) := ⟨_, rfl⟩
        have T9 : TB W9 w2.heap.size S w2.heap.size 4 ql cl (.slice (some ⟨ga, 0, none⟩) lu ca) (.slice (some ⟨gb, 0, none⟩) lf cb) t.us t.fs s.gn s.rm s.lost := by rw [HW9.out]; exact T8.setB ((R7.u.below k8).mono hKs) ((R7.f.below k8).mono hKs) nv7
        have kb9 : ∀ q, q ≠ S → W9.heap[q]? = W8.heap[q]? := fun q hq => by rw [HW9.out]; exact (Below.heap_setCell _ _ _ _ hq).trans (Below.heap_setCell _ _ _ _ hq)
        have K9 : Below w2.heap.size w2 W9 := by rw [HW9.out]; exact bel_set (bel_set K8 _ _ hT.out.bS _) _ _ hT.out.bS _
        obtain ⟨W10, HW10⟩ : ∃ W10, Hid (W10 = W9.setCell ⟨S, 2, none⟩ (.int .i64 (s.lost + t.lost))) := ⟨_, rfl⟩
        have T10 : Hid (TB W10 w2.heap.size S w2.heap.size 4 ql cl (.slice (some ⟨ga, 0, none⟩) lu ca) (.slice (some ⟨gb, 0, none⟩) lf cb) t.us t.fs (mixF (· + ·) s.gn t.gn 0) (mixF (· - ·) s.rm t.gn 0) (s.lost + t.lost)) := by show TB _ _ _ _ _ _ _ _ _ _ _ _ _ _; rw [HW10.out, mix_start, mix_start]; exact T9.setLost _
        have kb10 : ∀ q, q ≠ S → W10.heap[q]? = W8.heap[q]? := fun q hq => by rw [HW10.out]; exact (Below.heap_setCell _ _ _ _ hq).trans (kb9 q hq)
        have K10 : Hid (Below w2.heap.size w2 W10) := by show Below _ _ _; rw [HW10.out]; exact bel_set K9 _ _ hT.out.bS _
        have V10 : Hid (Lst W10 qv cv t.gn) := (Lv.below k8).of_block (kb10 qv nv3)
        have rD10 : Hid (W10.rowIs D 32 5 (fun i => (resV 0 (.slice (some ⟨qv, 0, none⟩) 4 cv) t.lost (.slice (some ⟨ga, 0, none⟩) lu ca) (.slice (some ⟨gb, 0, none⟩) lf cb))[i]!)) := rD.of_block (kb10 D hSD)
        have rD9 := rD.of_block (kb9 D hSD)
        have d3 : W8.cell? ⟨D, 3, none⟩ = some (.slice (some ⟨ga, 0, none⟩) lu ca) := rD.cell (i := 3) (by omega)
        have d4 : W8.cell? ⟨D, 4, none⟩ = some (.slice (some ⟨gb, 0, none⟩) lf cb) := rD.cell (i := 4) (by omega)
        have dl := rD.lt
        have s3 : W8.cell? ⟨S, 3, none⟩ = some (.slice (some ⟨gu, 0, none⟩) n cu) := T8.row.cell (i := 3) (by omega)
        have s4 : W8.cell? ⟨S, 4, none⟩ = some (.slice (some ⟨gf, 0, none⟩) n' cf) := T8.row.cell (i := 4) (by omega)
        have f3 := T8.row.frozen 3
        have f4 := T8.row.frozen 4
        have sl := T8.row.lt
        clear R7 Lv lgu lgf lga lgb hqv hga hgb
        go_upto_region 12 with fail
        rw [← HW8.out, ← HD.out]
        go_upto_region 13 with fail
        rw [← HW9.out]
        clear d3 d4 dl s3 s4 f3 f4 sl
        have d2 : W9.cell? ⟨D, 2, none⟩ = some (.int .i64 t.lost) := rD9.cell (i := 2) (by omega)
        have dl := rD9.lt
        have s2 : W9.cell? ⟨S, 2, none⟩ = some (.int .i64 s.lost) := T9.row.cell (i := 2) (by omega)
        have f2 := T9.row.frozen 2
        have sl := T9.row.lt
        obtain ⟨o1, o2, o3, o4⟩ := hlo
        go_upto_region 14 with fail
        rw [← HW10.out]
        clear d2 dl s2 f2 sl rD9 T9 K9 kb9 kb10 T8 K8 rD
        have hgl4 : t.gn.length = 4 := tgt.out.gl
        have hbd : Hid (∀ j, j < 4 → (0 ≤ s.gn.getD j 0 ∧ s.gn.getD j 0 ≤ 1000000 ∧ 0 ≤ s.rm.getD j 0 ∧ s.rm.getD j 0 ≤ 1000000) ∧ 0 ≤ t.gn.getD j 0 ∧ t.gn.getD j 0 ≤ 1000000) := fun j hj => ⟨tgs.out.bd hj, by have := tgt.out.bd hj; omega⟩
        go_wp2_with fail
        go_loopw [12] (fun i wq => ∃ x : Nat, x ≤ 4 ∧ i = .int .i64 x ∧ Hid (TB wq w2.heap.size S w2.heap.size 4 ql cl (.slice (some ⟨ga, 0, none⟩) lu ca) (.slice (some ⟨gb, 0, none⟩) lf cb) t.us t.fs (mixF (· + ·) s.gn t.gn x) (mixF (· - ·) s.rm t.gn x) (s.lost + t.lost)) ∧ Hid (Lst wq qv cv t.gn) ∧ Hid (World.rowIs wq D 32 5 (fun i => (resV 0 (.slice (some ⟨qv, 0, none⟩) 4 cv) t.lost (.slice (some ⟨ga, 0, none⟩) lu ca) (.slice (some ⟨gb, 0, none⟩) lf cb))[i]!)) ∧ Hid (Below w2.heap.size w2 wq)) (fun i _ => 4 - (intOf i).toNat)
        case atStart => exact ⟨0, by omega, rfl, T10, V10, rD10, K10⟩
        case round =>
          obtain ⟨x, hx4, rfl, hTq, hLq, hDq, hKq⟩ := hrel
          by_cases hj4 : x < 4
          · have hj' : (x : Int) < 4 := by omega
            obtain ⟨m1, m2, m3⟩ := mix_step (· + ·) tgs.out.gl hgl4 hj4
            obtain ⟨l1, _, l3⟩ := mix_step (· - ·) tgs.out.rl hgl4 hj4
            obtain ⟨⟨b1, b2, b3, b4⟩, b5, b6⟩ := hbd.out x hj4
            have M3 : Hid _ := m3
            have L3 : Hid _ := l3
            have L1 : Hid _ := l1
            have M2 : Hid _ := m2
            obtain ⟨X, HX⟩ : ∃ X, Hid (X = s.gn.getD x 0) := ⟨_, rfl⟩
            obtain ⟨Y, HY⟩ : ∃ Y, Hid (Y = t.gn.getD x 0) := ⟨_, rfl⟩
            obtain ⟨Z, HZ⟩ : ∃ Z, Hid (Z = s.rm.getD x 0) := ⟨_, rfl⟩
            have r1 : wr.cell? ⟨S, 1, none⟩ = some (.slice (some ⟨w2.heap.size, 0, none⟩) 4 4) := hTq.out.row.cell (i := 1) (by omega)
            have rl := hTq.out.row.lt
            have gc := hTq.out.g.cell m1
            have gz := hTq.out.g.frozen x
            have gll := hTq.out.g.lt
            have vc := hLq.out.cell m2
            have vl := hLq.out.lt
            have d1 : wr.cell? ⟨D, 1, none⟩ = some (.slice (some ⟨qv, 0, none⟩) 4 cv) := hDq.out.cell (i := 1) (by omega)
            have dl := hDq.out.lt
            rw [← HX.out] at gc b1 b2
            rw [← HY.out] at vc b5 b6
            rw [← HZ.out] at b3 b4
            clear m1 m2 m3 l1 l3
            obtain ⟨W7, HW7⟩ : ∃ W7, Hid (W7 = (wr.setCell ⟨w2.heap.size, x, none⟩ (.int .i64 (X + Y))).drew) := ⟨_, rfl⟩
            have T7 : TB W7 w2.heap.size S w2.heap.size 4 ql cl (.slice (some ⟨ga, 0, none⟩) lu ca) (.slice (some ⟨gb, 0, none⟩) lf cb) t.us t.fs (mixF (· + ·) s.gn t.gn (x + 1)) (mixF (· - ·) s.rm t.gn x) (s.lost + t.lost) := by
              have := (hTq.out.setG x (X + Y)).later ((Below.refl _ _).drew)
              rw [← HW7.out, HX.out, HY.out] at this
              rw [← M3.out]; exact this
            have V7 : Lst W7 qv cv t.gn := by rw [HW7.out]; exact (hLq.out.setOther (a := ⟨w2.heap.size, x, none⟩) nv1 _).below ((Below.refl _ _).drew)
            have D7 : World.rowIs W7 D 32 5 (fun i => (resV 0 (.slice (some ⟨qv, 0, none⟩) 4 cv) t.lost (.slice (some ⟨ga, 0, none⟩) lu ca) (.slice (some ⟨gb, 0, none⟩) lf cb))[i]!) := by rw [HW7.out]; exact row_later (row_other hDq.out (a := ⟨w2.heap.size, x, none⟩) hgD _) ((Below.refl _ _).drew)
            have Q7 : Below w2.heap.size w2 W7 := by rw [HW7.out]; exact (bel_set hKq.out _ _ (Nat.le_refl _) _).drew
            go_wp2_with fail
            go_region
            all_goals
              rw [← HW7.out]
              clear r1 rl gc gz gll vc vl d1 dl
              have lc := T7.l.cell L1.out
              have lz := T7.l.frozen x
              have lll := T7.l.lt
              have vc := V7.cell M2.out
              have vl := V7.lt
              have d1 : W7.cell? ⟨D, 1, none⟩ = some (.slice (some ⟨qv, 0, none⟩) 4 cv) := D7.cell (i := 1) (by omega)
              have dl := D7.lt
              rw [← HZ.out] at lc
              rw [← HY.out] at vc
              obtain ⟨W8, HW8⟩ : ∃ W8, Hid (W8 = (W7.setCell ⟨ql, x, none⟩ (.int .i64 (Z - Y))).drew) := ⟨_, rfl⟩
              have T8 : TB W8 w2.heap.size S w2.heap.size 4 ql cl (.slice (some ⟨ga, 0, none⟩) lu ca) (.slice (some ⟨gb, 0, none⟩) lf cb) t.us t.fs (mixF (· + ·) s.gn t.gn (x + 1)) (mixF (· - ·) s.rm t.gn (x + 1)) (s.lost + t.lost) := by
                have := (T7.setL x (Z - Y)).later ((Below.refl _ _).drew)
                rw [← HW8.out, HZ.out, HY.out] at this
                rw [← L3.out]; exact this
              have V8 : Lst W8 qv cv t.gn := by rw [HW8.out]; exact (V7.setOther (a := ⟨ql, x, none⟩) nv2 _).below ((Below.refl _ _).drew)
              have D8 : World.rowIs W8 D 32 5 (fun i => (resV 0 (.slice (some ⟨qv, 0, none⟩) 4 cv) t.lost (.slice (some ⟨ga, 0, none⟩) lu ca) (.slice (some ⟨gb, 0, none⟩) lf cb))[i]!) := by rw [HW8.out]; exact row_later (row_other D7 (a := ⟨ql, x, none⟩) hlD _) ((Below.refl _ _).drew)
              have Q8 : Below w2.heap.size w2 W8 := by rw [HW8.out]; exact (bel_set Q7 _ _ T7.bl _).drew
              go_wp2_with fail
              go_region
              all_goals
                rw [← HW8.out]
                go_wp2_with fail
                go_roundw
                case rel => exact ⟨x + 1, by omega, by go_num, T8, V8, D8, Q8⟩
                case measure => simp [intOf]; omega
          · obtain rfl : x = 4 := by omega
            have TE := hTq.out
            rw [mix_end tgs.out.gl hgl4, mix_end tgs.out.rl hgl4] at TE
            go_wp2_with fail
            go_roundw
            case rel => exact ⟨j + 1, by omega, by go_num, ⟨_, _, by show TB _ _ _ _ _ _ _ _ _ _ _ _ _ _; rw [HE.out]; exact TE, nf7⟩, hKq⟩
            case measure => simp [intOf]; omega
      · obtain rfl : j = k := by omega
        rw [← Hs.out] at HLo
        have rS := hT.out.row
        rw [HLo.out] at rS
        have q0 : wr.cell? ⟨S, 0, none⟩ = some (.int .i64 0) := rS.cell (i := 0) (by omega)
        have q1 : wr.cell? ⟨S, 1, none⟩ = some (.slice (some ⟨w2.heap.size, 0, none⟩) 4 4) := rS.cell (i := 1) (by omega)
        have q2 : wr.cell? ⟨S, 2, none⟩ = some (.int .i64 L) := rS.cell (i := 2) (by omega)
        have q3 : wr.cell? ⟨S, 3, none⟩ = some (.slice (some ⟨gu, 0, none⟩) n cu) := rS.cell (i := 3) (by omega)
        have q4 : wr.cell? ⟨S, 4, none⟩ = some (.slice (some ⟨gf, 0, none⟩) n' cf) := rS.cell (i := 4) (by omega)
        have ql' := rS.lt
        have rr6 := rr2.out.of_block (hK.out.block _ hS2)
        have R6 : RIs wr w2.heap.size (TR.of (tkN j s0)) (.slice (some ⟨w2.heap.size, 0, none⟩) 4 4) (.slice (some ⟨gu, 0, none⟩) n cu) (.slice (some ⟨gf, 0, none⟩) n' cf) := by
          rw [← Hs.out]
          refine ⟨?_, hT.out.u, hT.out.f⟩
          have := SlI.of_lst hT.out.g (Nat.le_refl w2.heap.size)
          rwa [tgs.out.gl] at this
        have B6 : Below w.heap.size w wr := B2.trans (hK.out.mono (by omega))
        obtain ⟨e0, e1, e2, e3, e4, z0, z1, z2, z3, z4, el⟩ := res_cells rr6
        obtain ⟨x0, x1, x2, x3, x4⟩ := setRes_cells (setRes_row rr6 0 (.slice (some ⟨w2.heap.size, 0, none⟩) 4 4) L (.slice (some ⟨gu, 0, none⟩) n cu) (.slice (some ⟨gf, 0, none⟩) n' cf))
        have BZ := setRes_bel B6 (w.heap.size + 1) (by omega) 0 (.slice (some ⟨w2.heap.size, 0, none⟩) 4 4) L (.slice (some ⟨gu, 0, none⟩) n cu) (.slice (some ⟨gf, 0, none⟩) n' cf)
        have RZ := (R6.setRes hS2 0 (.slice (some ⟨w2.heap.size, 0, none⟩) 4 4) L (.slice (some ⟨gu, 0, none⟩) n cu) (.slice (some ⟨gf, 0, none⟩) n' cf)).mono (base' := w.heap.size) (by omega)
        clear rS lgu lgf
        go_wp2_with fail
        refine bodyPost_ret (v := .agg (resV 0 (.slice (some ⟨w2.heap.size, 0, none⟩) 4 4) L (.slice (some ⟨gu, 0, none⟩) n cu) (.slice (some ⟨gf, 0, none⟩) n' cf))) ?_ rfl ⟨_, _, _, rfl, RZ, BZ⟩
        simp [results, Tryz.results18, go_sem, x0, x1, x2, x3, x4]
        done
end Go.Proofs.YtepjkcfheejlbaaGreatDoor
end
