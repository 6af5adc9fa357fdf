/- Texts of mine put together (a claim holds at most 60 files): TickAll, TickMany, TickBoardS. -/
import Derived.Test.YtepjkcfheejlbaaGreatDoorPartT26
import Derived.Test.YtepjkcfheejlbaaGreatDoorPartT28

/- TickAll -/
/- Contracts of the program's turn of a whole board, and of many. Condition: the state is the call's own; the homes lie in their variable. -/
section
namespace Go.Proofs.YtepjkcfheejlbaaGreatDoor
open Go.ChangeShapes Go.WideShapes Go.ChangeAt Go.RowKit
open Bd
set_option linter.unusedVariables false

theorem ST.own_lt {w : World} {base T mb : Nat} {vf : Value} {gr cr gg cg : Nat} {s : TS} (h : ST w base T mb vf gr cr gg cg s) {q : Nat} (hq : ownS T mb vf gr gg q) : q < w.heap.size := by
  rcases hq with rfl | rfl | hq | rfl | rfl
  · exact h.row.lt
  · exact h.m.lt
  · exact (h.f.lt q hq).2
  · exact h.r.lt
  · exact h.g.lt
/- a list that is newer than the state is left as it was -/
theorem SlI.keptS {w a b : World} {base T mb : Nat} {vf : Value} {gr cr gg cg : Nat} {s : TS} (h : ST w base T mb vf gr cr gg cg s) (k : KB base T mb vf gr gg a b) {v : Value} {l : List Int} (hs : SlI a w.heap.size v l) : SlI b w.heap.size v l := by
  refine hs.of_blk (fun q hq => ?_)
  rcases hs.2 with ⟨rfl, _⟩ | ⟨g, cap, cur, rfl, hg, hc, _⟩
  · cases hq
  · cases hq
    refine k.kept.block g ?_ (fun e => by have := h.own_lt e; omega)
    exact (Array.getElem?_eq_some_iff.1 hc).1
set_option maxRecDepth 20000 in
set_option maxHeartbeats 8000000 in
theorem tickBoard_c (base T mb : Nat) (vf : Value) (gr cr gg cg : Nat) (s : TS) (w : World) (hL : HmAt w) (hG : 0 < base) (h : ST w base T mb vf gr cr gg cg s) (tg : TG s) :
    Calls Tryz.prog 41 #[.pointer (some ⟨T, 0, none⟩)] w fun e w' => e = .returned (.tuple #[]) ∧ ST w' base T mb vf gr cr gg cg (tkB s) ∧ KB base T mb vf gr gg w w' := by
  obtain ⟨n, Hn⟩ : ∃ n, Hid (s.us.length = n) := ⟨_, rfl⟩
  have H : Hid (ST w base T mb vf gr cr gg cg s) := h
  have HT : Hid (TG s) := tg
  have HL : Hid (HmAt w) := hL
  have n8 : n ≤ 8 := by have := tg.gd.n8; have := Hn.out; omega
  have cS := sorted_c mb s.us (by have := tg.gd.n8; omega) tg.gd.r w h.m
  have cK := keys_c (some mb)
  have hb := h.base
  obtain ⟨t0, t1, t2, t3, t4, tl⟩ := h.cells
  obtain ⟨ids, Hids⟩ : ∃ ids, Hid (ids = s.us.map K10.c0) := ⟨_, rfl⟩
  have Hil : Hid (ids.length = n) := by show _ = _; rw [Hids.out, List.length_map]; exact Hn.out
  have Hb : Hid (tkB s = tkL s (ids.take n)) := by show _ = _; rw [List.take_of_length_le (by have := Hil.out; omega), Hids.out]; rfl
  have Hid1 : Hid (∀ x ∈ ids, 1 ≤ x ∧ x ≤ 99) := by
    show ∀ x ∈ ids, _
    rw [Hids.out]
    intro x hx
    obtain ⟨u, hu, rfl⟩ := List.mem_map.1 hx
    have g := tg.gd.gu hu
    exact ⟨g.i0, g.i1⟩
  rw [← Hids.out] at cS
  clear h tg hL t1 t2 t3 t4
  go_enter Tryz.func41, Tryz.ntmps41
  go_wp2_with fail
  refine (cK _).mono ?_
  rintro e w2 ⟨rfl, rfl⟩
  go_wp2_with fail
  refine cS.mono ?_
  rintro e w3 ⟨vi, rfl, L3, k3⟩
  obtain ⟨ai, ci, hvi⟩ := L3.form
  rw [Hil.out] at hvi
  subst hvi
  have HS : Hid (SlI w3 w.heap.size (.slice ai n ci) ids) := L3
  have S3 : Hid (ST w3 base T mb vf gr cr gg cg (tkL s (ids.take 0))) := H.out.later k3
  have K3 : Hid (KB base T mb vf gr gg w w3) := KB.of k3 hb
  clear cK cS L3 t0 tl k3
  go_wp2_with fail
  go_loopw [11] (fun i wr => ∃ k : Nat, k ≤ n ∧ i = .int .i64 k ∧ Hid (ST wr base T mb vf gr cr gg cg (tkL s (ids.take k))) ∧ Hid (KB base T mb vf gr gg w wr) ∧ Hid (SlI wr w.heap.size (.slice ai n ci) ids)) (fun i _ => n - (intOf i).toNat)
  case atStart => exact ⟨0, Nat.zero_le _, rfl, S3, K3, HS⟩
  case round =>
    obtain ⟨k, hk, rfl, hS, hK, Hs⟩ := hrel
    by_cases hlt : k < n
    · have hlt' : (k : Int) < (n : Int) := by omega
      obtain ⟨x, hx⟩ : ∃ x, ids[k]? = some x := ⟨_, List.getElem?_eq_getElem (by have := Hil.out; omega)⟩
      have hid := Hid1.out x (List.mem_of_getElem? hx)
      have HE : Hid (tkL s (ids.take (k + 1)) = tkS (tkL s (ids.take k)) x) := tkL_take hx
      have cT := tickUnit_c base T mb vf gr cr gg cg (tkL s (ids.take k)) x (wf_int (by omega) (by omega)) wr (HL.out.below hK.out.bel hG) hS.out (HT.out.list _)
      rcases Hs.out.cases with ⟨h0, _⟩ | ⟨_, gi, ci', hv, hgi, Lx⟩
      · have := congrArg List.length h0
        rw [Hil.out] at this
        simp at this
        omega
      simp only [Value.slice.injEq] at hv
      obtain ⟨rfl, hnn, rfl⟩ := hv
      clear hnn
      have ic := Lx.cell (i := k) (x := x) hx
      have il := Lx.lt
      clear hx Lx hid
      go_wp2_with fail
      refine cT.mono ?_
      rintro e w4 ⟨rfl, S4, K4⟩
      have hs4 := SlI.keptS H.out K4 Hs.out
      go_wp2_with fail
      go_roundw
      case rel => exact ⟨k + 1, by omega, by go_num, by show ST _ _ _ _ _ _ _ _ _ _; rw [HE.out]; exact S4, hK.out.trans K4, hs4⟩
      case measure => simp [intOf]; omega
    · obtain rfl : k = n := by omega
      go_wp2_with fail
      go_end0
      exact ⟨rfl, by rw [Hb.out]; exact hS.out, hK.out⟩
end Go.Proofs.YtepjkcfheejlbaaGreatDoor
end

/- TickMany -/
/- The contracts of the program's TickMany and TickBoard. Condition: the lists lie in memory as they were laid there; the homes lie in their variable. -/
section
namespace Go.Proofs.YtepjkcfheejlbaaGreatDoor
open Go.ChangeShapes Go.WideShapes Go.ChangeAt Go.RowKit
open Bd
set_option linter.unusedVariables false

def tmR (us : List K10) (fs : List K3) (rm : List Int) (n : Int) : TR := if (tkF us fs rm == 0) = true then (if 0 ≤ n ∧ n ≤ 20 then .of (tkN n.toNat (ts0 us fs rm)) else .no 3) else .no (tkF us fs rm)
theorem tm_cases (us : List K10) (fs : List K3) (rm : List Int) (n : Int) : ((tkF us fs rm == 0) = false ∧ tmR us fs rm n = .no (tkF us fs rm)) ∨ (tkF us fs rm = 0 ∧ (n < 0 ∨ (0 ≤ n ∧ 20 < n)) ∧ tmR us fs rm n = .no 3) ∨ (tkF us fs rm = 0 ∧ (∃ k : Nat, n = k ∧ k ≤ 20 ∧ tmR us fs rm n = .of (tkN k (ts0 us fs rm)))) := by
  unfold tmR
  cases h : tkF us fs rm == 0
  · exact .inl ⟨rfl, by rw [if_neg (by simp)]⟩
  · have hz : tkF us fs rm = 0 := by simpa using h
    rw [if_pos rfl]
    by_cases hn : 0 ≤ n ∧ n ≤ 20
    · exact .inr (.inr ⟨hz, n.toNat, by omega, by omega, by rw [if_pos hn]⟩)
    · exact .inr (.inl ⟨hz, by omega, by rw [if_neg hn]⟩)
set_option maxRecDepth 20000 in
set_option maxHeartbeats 16000000 in
theorem implTickMany (pu : Option Addr) (m c : Nat) (pf : Option Addr) (m' c' gr og mr cr : Nat) (us : List K10) (fs : List K3) (n : Int) (rm : List Int) (w : World) (hL : HmAt w) (h : TIn w pu m c pf m' c' gr og mr cr us fs rm) :
    Calls Tryz.prog 10 #[.agg (brdV pu m c pf m' c'), .slice (some ⟨gr, og, none⟩) mr cr, .int .i64 n] w fun e w' => ∃ q v f, e = .returned (.agg (resV (tmR us fs rm n).c q (tmR us fs rm n).l v f)) ∧ RIs w' w.heap.size (tmR us fs rm n) q v f ∧ Below w.heap.size w w' := by
  obtain ⟨W1, HW1, rb, rr, B1⟩ := two_res w (.slice pu m c) (.slice pf m' c')
  have cF := (h.later B1).fault
  rcases tm_cases us fs rm n with ⟨h1, e⟩ | ⟨h1, hn, e⟩ | ⟨h1, k, rfl, hk, e⟩
  · rw [e]
    have h1' := bne_of h1
    generalize tkF us fs rm = R at h1 h1' cF ⊢
    obtain ⟨p0, p1, pl⟩ := row_brd rb
    clear h e hL
    go_enter Tryz.func10, Tryz.ntmps10
    go_upto_region 1 with fail
    rw [← HW1.out]
    go_wp2_with fail
    refine cF.mono ?_
    rintro e w2 ⟨rfl, k2⟩
    have B2 := B1.trans (k2.mono B1.size)
    have rr2 := row_later rr k2
    obtain ⟨e0, e1, e2, e3, e4, z0, z1, z2, z3, z4, el⟩ := res_cells rr2
    obtain ⟨x0, x1, x2, x3, x4⟩ := setRes_cells (setRes_row rr2 R (.slice none 0 0) 0 (.slice none 0 0) (.slice none 0 0))
    have BZ := setRes_bel B2 (w.heap.size + 1) (by omega) R (.slice none 0 0) 0 (.slice none 0 0) (.slice none 0 0)
    have RZ := RIs.nil (stRes w2 (w.heap.size + 1) R (.slice none 0 0) 0 (.slice none 0 0) (.slice none 0 0)) w.heap.size R
    clear p0 p1 pl
    go_wp2_with fail
    refine bodyPost_ret (v := .agg (resV R (.slice none 0 0) 0 (.slice none 0 0) (.slice none 0 0))) ?_ rfl ⟨_, _, _, rfl, RZ, BZ⟩
    simp [results, Tryz.results10, go_sem, x0, x1, x2, x3, x4]
    done
  · rw [e]
    rw [h1] at cF
    obtain ⟨p0, p1, pl⟩ := row_brd rb
    clear h e hL h1
    rcases hn with hn | ⟨hn0, hn⟩
    all_goals
      go_enter Tryz.func10, Tryz.ntmps10
      go_upto_region 1 with fail
      rw [← HW1.out]
      go_wp2_with fail
      refine cF.mono ?_
      rintro e w2 ⟨rfl, k2⟩
      have B2 := B1.trans (k2.mono B1.size)
      have rr2 := row_later rr k2
      obtain ⟨e0, e1, e2, e3, e4, z0, z1, z2, z3, z4, el⟩ := res_cells rr2
      obtain ⟨x0, x1, x2, x3, x4⟩ := setRes_cells (setRes_row rr2 3 (.slice none 0 0) 0 (.slice none 0 0) (.slice none 0 0))
      have BZ := setRes_bel B2 (w.heap.size + 1) (by omega) 3 (.slice none 0 0) 0 (.slice none 0 0) (.slice none 0 0)
      have RZ := RIs.nil (stRes w2 (w.heap.size + 1) 3 (.slice none 0 0) 0 (.slice none 0 0) (.slice none 0 0)) w.heap.size 3
      clear p0 p1 pl
      go_wp2_with fail
      refine bodyPost_ret (v := .agg (resV 3 (.slice none 0 0) 0 (.slice none 0 0) (.slice none 0 0))) ?_ rfl ⟨_, _, _, rfl, RZ, BZ⟩
      simp [results, Tryz.results10, go_sem, x0, x1, x2, x3, x4]
      done
  · rw [e]
    have hm : mr = 4 := by have := (tkF_ok h1).2.1; have := h.hr; omega
    subst hm
    have cN := fun W hB => (h.later (w' := W) hB).new h1 rfl
    have tg := tg0 h1
    rw [h1] at cF
    have HL : Hid (HmAt w) := hL
    obtain ⟨L, HLo⟩ : ∃ L, Hid ((tkN k (ts0 us fs rm)).lost = L) := ⟨_, rfl⟩
    have eL : (TR.of (tkN k (ts0 us fs rm))).l = L := HLo.out
    have eC : (TR.of (tkN k (ts0 us fs rm))).c = 0 := rfl
    rw [eL, eC]
    clear eL eC
    obtain ⟨p0, p1, pl⟩ := row_brd rb
    clear h e hL h1
    go_enter Tryz.func10, Tryz.ntmps10
    go_upto_region 1 with fail
    rw [← HW1.out]
    go_wp2_with fail
    refine cF.mono ?_
    rintro e w2 ⟨rfl, k2⟩
    have B2 := B1.trans (k2.mono B1.size)
    clear p0 p1 pl
    obtain ⟨p0, p1, pl⟩ := row_brd (row_later rb k2)
    go_wp2_with fail
    refine (cN _ B2).mono ?_
    rintro e w3 ⟨T, mb, vf, q1, c1, q2, c2, rfl, S3, k3⟩
    have B3 := B2.trans (k3.mono B2.size)
    have hS2 : w.heap.size + 1 < w2.heap.size := (row_later rr k2).lt
    have hG : 0 < w2.heap.size := (HL.out.later B2).lt
    have HS3 : Hid (ST w3 w2.heap.size T mb vf q1 c1 q2 c2 (tkN 0 (ts0 us fs rm))) := S3
    have HK3 : Hid (KB w2.heap.size T mb vf q1 q2 w3 w3) := KB.of (Below.refl _ _) (k3.size)
    have HL3 : Hid (HmAt w3) := HL.out.later B3
    have rr3 := row_later (row_later rr k2) k3
    have HT : Hid (TG (ts0 us fs rm)) := tg
    clear p0 p1 pl S3 tg
    go_wp2_with fail
    go_loopw [27] (fun i wr => ∃ j : Nat, j ≤ k ∧ i = .int .i64 j ∧ Hid (ST wr w2.heap.size T mb vf q1 c1 q2 c2 (tkN j (ts0 us fs rm))) ∧ Hid (KB w2.heap.size T mb vf q1 q2 w3 wr)) (fun i _ => k - (intOf i).toNat)
    case atStart => exact ⟨0, Nat.zero_le _, rfl, HS3, HK3⟩
    case round =>
      obtain ⟨j, hj, rfl, hS, hK⟩ := hrel
      by_cases hlt : j < k
      · have hlt' : (j : Int) < (k : Int) := by omega
        have cT := tickBoard_c w2.heap.size T mb vf q1 c1 q2 c2 _ wr (HL3.out.below hK.out.bel hG) hG hS.out (HT.out.ticks j)
        rw [← tkN_next] at cT
        go_wp2_with fail
        refine cT.mono ?_
        rintro e w4 ⟨rfl, S4, K4⟩
        go_wp2_with fail
        go_roundw
        case rel => exact ⟨j + 1, by omega, by go_num, S4, hK.out.trans K4⟩
        case measure => simp [intOf]; omega
      · obtain rfl : j = k := by omega
        have S5 := hS.out
        have k5 := hK.out.bel
        have cR := result_c w2.heap.size T mb vf q1 c1 q2 c2 _ (HT.out.ticks j) wr S5
        rw [HLo.out] at cR
        have rr5 := rr3.of_block (k5.block _ hS2)
        have B5 : Below w.heap.size w wr := B3.trans (k5.mono (by omega))
        go_wp2_with fail
        refine cR.mono ?_
        rintro e w6 ⟨q, v, f, rfl, R6, k6⟩
        have B6 := B5.trans (k6.mono B5.size)
        have rr6 := row_later rr5 k6
        obtain ⟨aq, cq, hq⟩ := R6.g.form
        obtain ⟨av, cv, hv, _⟩ := R6.u.form
        obtain ⟨af, cf, hf, _⟩ := R6.f.form
        obtain ⟨lq, Hlq⟩ : ∃ n, Hid ((TR.of (tkN j (ts0 us fs rm))).g.length = n) := ⟨_, rfl⟩
        obtain ⟨lv, Hlv⟩ : ∃ n, Hid ((TR.of (tkN j (ts0 us fs rm))).us.length = n) := ⟨_, rfl⟩
        obtain ⟨lf, Hlf⟩ : ∃ n, Hid ((TR.of (tkN j (ts0 us fs rm))).fs.length = n) := ⟨_, rfl⟩
        rw [Hlq.out] at hq
        rw [Hlv.out] at hv
        rw [Hlf.out] at hf
        subst hq hv hf
        obtain ⟨e0, e1, e2, e3, e4, z0, z1, z2, z3, z4, el⟩ := res_cells rr6
        obtain ⟨x0, x1, x2, x3, x4⟩ := setRes_cells (setRes_row rr6 0 (.slice aq lq cq) L (.slice av lv cv) (.slice af lf cf))
        have BZ := setRes_bel B6 (w.heap.size + 1) (by omega) 0 (.slice aq lq cq) L (.slice av lv cv) (.slice af lf cf)
        have RZ := (R6.setRes hS2 0 (.slice aq lq cq) L (.slice av lv cv) (.slice af lf cf)).mono (base' := w.heap.size) (by omega)
        go_wp2_with fail
        refine bodyPost_ret (v := .agg (resV 0 (.slice aq lq cq) L (.slice av lv cv) (.slice af lf cf))) ?_ rfl ⟨_, _, _, rfl, RZ, BZ⟩
        simp [results, Tryz.results10, go_sem, x0, x1, x2, x3, x4]
        done
set_option maxRecDepth 20000 in
set_option maxHeartbeats 16000000 in
theorem implTickBoard (pu : Option Addr) (m c : Nat) (pf : Option Addr) (m' c' gr og mr cr : Nat) (us : List K10) (fs : List K3) (rm : List Int) (w : World) (hL : HmAt w) (h : TIn w pu m c pf m' c' gr og mr cr us fs rm) :
    Calls Tryz.prog 22 #[.agg (brdV pu m c pf m' c'), .slice (some ⟨gr, og, none⟩) mr cr] w fun e w' => ∃ q v f, e = .returned (.agg (resV (tmR us fs rm 1).c q (tmR us fs rm 1).l v f)) ∧ RIs w' w.heap.size (tmR us fs rm 1) q v f ∧ Below w.heap.size w w' := by
  obtain ⟨W1, HW1, rb, rr, B1⟩ := two_res w (.slice pu m c) (.slice pf m' c')
  have cM := implTickMany pu m c pf m' c' gr og mr cr us fs 1 rm W1 (hL.later B1) (h.later B1)
  obtain ⟨C, HC⟩ : ∃ C, Hid ((tmR us fs rm 1).c = C) := ⟨_, rfl⟩
  obtain ⟨L, HLo⟩ : ∃ L, Hid ((tmR us fs rm 1).l = L) := ⟨_, rfl⟩
  rw [HC.out, HLo.out] at cM ⊢
  obtain ⟨p0, p1, pl⟩ := row_brd rb
  have hS2 : w.heap.size + 1 < W1.heap.size := rr.lt
  clear h hL
  go_enter Tryz.func22, Tryz.ntmps22
  go_upto_region 1 with fail
  rw [← HW1.out]
  go_wp2_with fail
  refine cM.mono ?_
  rintro e w6 ⟨q, v, f, rfl, R6, k6⟩
  have B6 := B1.trans (k6.mono B1.size)
  have rr6 := row_later rr k6
  obtain ⟨aq, cq, hq⟩ := R6.g.form
  obtain ⟨av, cv, hv, _⟩ := R6.u.form
  obtain ⟨af, cf, hf, _⟩ := R6.f.form
  obtain ⟨lq, Hlq⟩ : ∃ n, Hid ((tmR us fs rm 1).g.length = n) := ⟨_, rfl⟩
  obtain ⟨lv, Hlv⟩ : ∃ n, Hid ((tmR us fs rm 1).us.length = n) := ⟨_, rfl⟩
  obtain ⟨lf, Hlf⟩ : ∃ n, Hid ((tmR us fs rm 1).fs.length = n) := ⟨_, rfl⟩
  rw [Hlq.out] at hq
  rw [Hlv.out] at hv
  rw [Hlf.out] at hf
  subst hq hv hf
  obtain ⟨e0, e1, e2, e3, e4, z0, z1, z2, z3, z4, el⟩ := res_cells rr6
  obtain ⟨x0, x1, x2, x3, x4⟩ := setRes_cells (setRes_row rr6 C (.slice aq lq cq) L (.slice av lv cv) (.slice af lf cf))
  have BZ := setRes_bel B6 (w.heap.size + 1) (by omega) C (.slice aq lq cq) L (.slice av lv cv) (.slice af lf cf)
  have RZ := (R6.setRes hS2 C (.slice aq lq cq) L (.slice av lv cv) (.slice af lf cf)).mono (base' := w.heap.size) (by omega)
  clear p0 p1 pl
  go_wp2_with fail
  refine bodyPost_ret (v := .agg (resV C (.slice aq lq cq) L (.slice av lv cv) (.slice af lf cf))) ?_ rfl ⟨_, _, _, rfl, RZ, BZ⟩
  simp [results, Tryz.results22, go_sem, x0, x1, x2, x3, x4]
  done
end Go.Proofs.YtepjkcfheejlbaaGreatDoor
end

/- TickBoardS -/
/- The contract of the model's TickBoard. Condition: the lists lie in memory as they were laid there. -/
section
namespace Go.Proofs.YtepjkcfheejlbaaGreatDoor
open Go.ChangeShapes Go.WideShapes Go.ChangeAt Go.RowKit
open Bd
set_option linter.unusedVariables false

theorem tb_cases (us : List K10) (fs : List K3) (rm : List Int) : ((tkF us fs rm == 0) = false ∧ tmR us fs rm 1 = .no (tkF us fs rm)) ∨ (tkF us fs rm = 0 ∧ tmR us fs rm 1 = .of (tkB (ts0 us fs rm))) := by
  rcases tm_cases us fs rm 1 with a | ⟨_, b, _⟩ | ⟨h, k, hk, _, e⟩
  · exact .inl a
  · omega
  · obtain rfl : k = 1 := by omega
    exact .inr ⟨h, e⟩
theorem TIn.lin {w : World} {pu : Option Addr} {m c : Nat} {pf : Option Addr} {m' c' gr og cr p : Nat} {us : List K10} {fs : List K3} {rm : List Int} (h : TIn w pu m c pf m' c' gr og 4 cr us fs rm) (hB : BrdAt w p (.slice pu m c) (.slice pf m' c')) : LIn w p 0 pu m c pf m' c' gr og us fs rm :=
  ⟨hB.c0, hB.c1, hB.lt, h.hl, h.hl', h.hr, h.u, h.f, h.r, h.lr⟩
set_option maxRecDepth 20000 in
set_option maxHeartbeats 16000000 in
theorem specTickBoard (pu : Option Addr) (m c : Nat) (pf : Option Addr) (m' c' gr og mr cr : Nat) (us : List K10) (fs : List K3) (rm : List Int) (w : World) (h : TIn w pu m c pf m' c' gr og mr cr us fs rm) :
    Calls Tryz.prog 23 #[.agg (brdV pu m c pf m' c'), .slice (some ⟨gr, og, none⟩) mr cr] w fun e w' => ∃ q v f, e = .returned (.agg (resV (tmR us fs rm 1).c q (tmR us fs rm 1).l v f)) ∧ RIs w' w.heap.size (tmR us fs rm 1) q v f ∧ Below w.heap.size w w' := by
  obtain ⟨W1, HW1, rb, rr, B1⟩ := two_res w (.slice pu m c) (.slice pf m' c')
  have cF := (h.later B1).asked (row_brd rb)
  rcases tb_cases us fs rm with ⟨h1, e⟩ | ⟨h1, e⟩
  · rw [e]
    have h1' := bne_of h1
    generalize tkF us fs rm = R at h1 h1' cF ⊢
    clear h e
    go_enter Tryz.func23, Tryz.ntmps23
    go_upto_region 1 with fail
    rw [← HW1.out]
    go_wp2_with fail
    refine cF.mono ?_
    rintro e w2 ⟨rfl, k2⟩
    have B2 := B1.trans (k2.mono B1.size)
    have rr2 := row_later rr k2
    obtain ⟨e0, e1, e2, e3, e4, z0, z1, z2, z3, z4, el⟩ := res_cells rr2
    obtain ⟨x0, x1, x2, x3, x4⟩ := setRes_cells (setRes_row rr2 R (.slice none 0 0) 0 (.slice none 0 0) (.slice none 0 0))
    have BZ := setRes_bel B2 (w.heap.size + 1) (by omega) R (.slice none 0 0) 0 (.slice none 0 0) (.slice none 0 0)
    have RZ := RIs.nil (stRes w2 (w.heap.size + 1) R (.slice none 0 0) 0 (.slice none 0 0) (.slice none 0 0)) w.heap.size R
    go_wp2_with fail
    refine bodyPost_ret (v := .agg (resV R (.slice none 0 0) 0 (.slice none 0 0) (.slice none 0 0))) ?_ rfl ⟨_, _, _, rfl, RZ, BZ⟩
    simp [results, Tryz.results23, go_sem, x0, x1, x2, x3, x4]
    done
  · rw [e]
    have hm : mr = 4 := by have := (tkF_ok h1).2.1; have := h.hr; omega
    subst hm
    have cT := fun W (hB : Below W1.heap.size W1 W) => l5Tick_c w.heap.size 0 pu m c pf m' c' gr og cr us fs rm W (((h.later B1).later hB).lin (row_brd (row_later rb hB))) (tg0 h1)
    rw [h1] at cF
    obtain ⟨s, Hs⟩ : ∃ s, Hid (s = tkB (ts0 us fs rm)) := ⟨_, rfl⟩
    obtain ⟨L, HLo⟩ : ∃ L, Hid (s.lost = L) := ⟨_, rfl⟩
    rw [← Hs.out] at cT ⊢
    have eL : (TR.of s).l = L := HLo.out
    have eC : (TR.of s).c = 0 := rfl
    rw [eL, eC]
    rw [HLo.out] at cT
    have hS2 : w.heap.size + 1 < W1.heap.size := rr.lt
    obtain ⟨p0, p1, pl⟩ := row_brd rb
    clear h e h1 eL eC
    go_enter Tryz.func23, Tryz.ntmps23
    go_upto_region 1 with fail
    rw [← HW1.out]
    go_wp2_with fail
    refine cF.mono ?_
    rintro e w2 ⟨rfl, k2⟩
    have B2 := B1.trans (k2.mono B1.size)
    go_wp2_with fail
    refine (cT _ k2).mono ?_
    rintro e w6 ⟨q, v, f, rfl, R6, _, _, k6⟩
    have B6 := B2.trans (k6.mono B2.size)
    have rr6 := row_later (row_later rr k2) k6
    obtain ⟨aq, cq, hq⟩ := R6.g.form
    obtain ⟨av, cv, hv, _⟩ := R6.u.form
    obtain ⟨af, cf, hf, _⟩ := R6.f.form
    obtain ⟨lq, Hlq⟩ : ∃ n, Hid ((TR.of s).g.length = n) := ⟨_, rfl⟩
    obtain ⟨lv, Hlv⟩ : ∃ n, Hid ((TR.of s).us.length = n) := ⟨_, rfl⟩
    obtain ⟨lf, Hlf⟩ : ∃ n, Hid ((TR.of s).fs.length = n) := ⟨_, rfl⟩
    rw [Hlq.out] at hq
    rw [Hlv.out] at hv
    rw [Hlf.out] at hf
    subst hq hv hf
    obtain ⟨e0, e1, e2, e3, e4, z0, z1, z2, z3, z4, el⟩ := res_cells rr6
    obtain ⟨x0, x1, x2, x3, x4⟩ := setRes_cells (setRes_row rr6 0 (.slice aq lq cq) L (.slice av lv cv) (.slice af lf cf))
    have BZ := setRes_bel B6 (w.heap.size + 1) (by omega) 0 (.slice aq lq cq) L (.slice av lv cv) (.slice af lf cf)
    have hS3 : w.heap.size + 1 < w2.heap.size := Nat.lt_of_lt_of_le hS2 k2.size
    have RZ := (R6.setRes hS3 0 (.slice aq lq cq) L (.slice av lv cv) (.slice af lf cf)).mono (base' := w.heap.size) (by omega)
    clear p0 p1 pl
    go_wp2_with fail
    refine bodyPost_ret (v := .agg (resV 0 (.slice aq lq cq) L (.slice av lv cv) (.slice af lf cf))) ?_ rfl ⟨_, _, _, rfl, RZ, BZ⟩
    simp [results, Tryz.results23, go_sem, x0, x1, x2, x3, x4]
    done
end Go.Proofs.YtepjkcfheejlbaaGreatDoor
end
