/- Texts of mine put together (a claim holds at most 60 files): TickOne, TickAll, TickMany, TickSum. -/
import Derived.Test.YtppgjmpdnpidnaaGreatDoorPartK22
import Derived.Test.YtppgjmpdnpidnaaGreatDoorPartK13

/- TickOne -/
/- The contract of the program's TickUnit. Condition: the lists lie in memory as they were laid there; the homes lie in their variable. -/
section
namespace Go.Proofs.YtppgjmpdnpidnaaGreatDoor
open Go.ChangeShapes Go.WideShapes Go.ChangeAt Go.RowKit
open Bd
set_option linter.unusedVariables false

theorem two_res (w : World) (s f : Value) : ∃ W, Hid (W = (w.alloc (.cells #[s, f] 27)).alloc (.cells zResV 48)) ∧ W.rowIs w.heap.size 27 2 (fun i => if i = 0 then s else f) ∧ W.rowIs (w.heap.size + 1) 48 5 (fun i => zResV[i]!) ∧ Below w.heap.size w W := by
  refine ⟨_, rfl, ?_⟩
  have s1 : (w.alloc (.cells #[s, f] 27)).heap.size = w.heap.size + 1 := size_new _ _
  have r0 := rowTwo w s f 27
  have r1 := res_row (w.alloc (.cells #[s, f] 27))
  rw [s1] at r1
  have b1 : Below (w.alloc (.cells #[s, f] 27)).heap.size (w.alloc (.cells #[s, f] 27)) ((w.alloc (.cells #[s, f] 27)).alloc (.cells zResV 48)) := (Below.refl _ _).alloc (Nat.le_refl _) _
  exact ⟨r0.of_block (b1.block _ r0.lt), r1, ((Below.refl _ _).alloc (Nat.le_refl _) _).alloc (by rw [s1]; omega) _⟩
/- what a call of ticks is handed -/
structure TIn (w : World) (pu : Option Addr) (m c : Nat) (pf : Option Addr) (m' c' gr og mr cr : Nat) (us : List K10) (fs : List K3) (rm : List Int) : Prop where
  hl : us.length = m
  hl' : fs.length = m'
  hr : rm.length = mr
  mx : (mr : Int) ≤ 9223372036854775807
  u : InU w pu m c us
  f : InF w pf m' c' fs
  r : IAt w gr og rm
  lr : gr < w.heap.size
theorem TIn.later {w w' : World} {pu : Option Addr} {m c : Nat} {pf : Option Addr} {m' c' gr og mr cr : Nat} {us : List K10} {fs : List K3} {rm : List Int} (h : TIn w pu m c pf m' c' gr og mr cr us fs rm) (hb : Below w.heap.size w w') : TIn w' pu m c pf m' c' gr og mr cr us fs rm :=
  ⟨h.hl, h.hl', h.hr, h.mx, h.u.later hb, h.f.later hb, h.r.later h.lr hb, Nat.lt_of_lt_of_le h.lr hb.size⟩
theorem TIn.au {w : World} {pu : Option Addr} {m c : Nat} {pf : Option Addr} {m' c' gr og mr cr : Nat} {us : List K10} {fs : List K3} {rm : List Int} (h : TIn w pu m c pf m' c' gr og mr cr us fs rm) : ArgU w pu us := h.u.arg
theorem TIn.af {w : World} {pu : Option Addr} {m c : Nat} {pf : Option Addr} {m' c' gr og mr cr : Nat} {us : List K10} {fs : List K3} {rm : List Int} (h : TIn w pu m c pf m' c' gr og mr cr us fs rm) : ArgF w pf fs := h.f.arg
theorem TIn.ar {w : World} {pu : Option Addr} {m c : Nat} {pf : Option Addr} {m' c' gr og mr cr : Nat} {us : List K10} {fs : List K3} {rm : List Int} (h : TIn w pu m c pf m' c' gr og mr cr us fs rm) : ArgI w (some ⟨gr, og, none⟩) rm := .inr ⟨gr, og, rfl, h.lr, h.r⟩
theorem TIn.fault {w : World} {pu : Option Addr} {m c : Nat} {pf : Option Addr} {m' c' gr og mr cr : Nat} {us : List K10} {fs : List K3} {rm : List Int} (h : TIn w pu m c pf m' c' gr og mr cr us fs rm) :
    Calls Tryz.prog 64 #[.agg (brdV pu m c pf m' c'), .slice (some ⟨gr, og, none⟩) mr cr] w fun e w' => e = .returned (.int .i64 (tkF us fs rm)) ∧ Below w.heap.size w w' :=
  tickFault_c _ m c _ m' c' _ mr cr us fs rm h.hl h.hl' h.hr h.mx w h.au h.af h.ar
theorem TIn.new {w : World} {pu : Option Addr} {m c : Nat} {pf : Option Addr} {m' c' gr og mr cr : Nat} {us : List K10} {fs : List K3} {rm : List Int} (h : TIn w pu m c pf m' c' gr og mr cr us fs rm) (h0 : tkF us fs rm = 0) : ∀ hm : mr = 4,
    Calls Tryz.prog 65 #[.agg (brdV pu m c pf m' c'), .slice (some ⟨gr, og, none⟩) 4 cr] w fun e w' => ∃ T mb vf q1 c1 q2 c2, e = .returned (.pointer (some ⟨T, 0, none⟩)) ∧ ST w' w.heap.size T mb vf q1 c1 q2 c2 (ts0 us fs rm) ∧ Below w.heap.size w w' := by
  intro hm
  obtain ⟨h1, h2, h3⟩ := tkF_ok h0
  exact newTickState_c _ m c pf m' c' gr og cr us fs rm h.hl h.hl' (Gd.of h1) h2 w h.au h.f h.lr h.r
theorem tg0 {us : List K10} {fs : List K3} {rm : List Int} (h0 : tkF us fs rm = 0) : TG (ts0 us fs rm) := by
  obtain ⟨h1, h2, h3⟩ := tkF_ok h0
  exact TG.start (Gd.of h1) h2 h3
end Go.Proofs.YtppgjmpdnpidnaaGreatDoor
end

/- TickAll -/
/- Contracts of the program's turn of a whole board, and of many. Condition: the state is the call's own; the homes lie in their variable. -/
section
namespace Go.Proofs.YtppgjmpdnpidnaaGreatDoor
open Go.ChangeShapes Go.WideShapes Go.ChangeAt Go.RowKit
open Bd
set_option linter.unusedVariables false

theorem ST.own_lt {w : World} {base T mb : Nat} {vf : Value} {gr cr gg cg : Nat} {s : TS} (h : ST w base T mb vf gr cr gg cg s) {q : Nat} (hq : ownS T mb vf gr gg q) : q < w.heap.size := by
  rcases hq with rfl | rfl | hq | rfl | rfl
  · exact h.row.lt
  · exact h.m.lt
  · exact (h.f.lt q hq).2
  · exact h.r.lt
  · exact h.g.lt
/- a list that is newer than the state is left as it was -/
theorem SlI.keptS {w a b : World} {base T mb : Nat} {vf : Value} {gr cr gg cg : Nat} {s : TS} (h : ST w base T mb vf gr cr gg cg s) (k : KB base T mb vf gr gg a b) {v : Value} {l : List Int} (hs : SlI a w.heap.size v l) : SlI b w.heap.size v l := by
  refine hs.of_blk (fun q hq => ?_)
  rcases hs.2 with ⟨rfl, _⟩ | ⟨g, cap, cur, rfl, hg, hc, _⟩
  · cases hq
  · cases hq
    refine k.kept.block g ?_ (fun e => by have := h.own_lt e; omega)
    exact (Array.getElem?_eq_some_iff.1 hc).1
set_option maxRecDepth 20000 in
set_option maxHeartbeats 8000000 in
theorem tickBoard_c (base T mb : Nat) (vf : Value) (gr cr gg cg : Nat) (s : TS) (w : World) (hL : HmAt w) (hG : 0 < base) (h : ST w base T mb vf gr cr gg cg s) (tg : TG s) :
    Calls Tryz.prog 66 #[.pointer (some ⟨T, 0, none⟩)] w fun e w' => e = .returned (.tuple #[]) ∧ ST w' base T mb vf gr cr gg cg (tkB s) ∧ KB base T mb vf gr gg w w' := by
  obtain ⟨n, Hn⟩ : ∃ n, Hid (s.us.length = n) := ⟨_, rfl⟩
  have H : Hid (ST w base T mb vf gr cr gg cg s) := h
  have HT : Hid (TG s) := tg
  have HL : Hid (HmAt w) := hL
  have n8 : n ≤ 8 := by have := tg.gd.n8; have := Hn.out; omega
  have cS := sorted_c mb s.us (by have := tg.gd.n8; omega) tg.gd.r w h.m
  have cK := keys_c (some mb)
  have hb := h.base
  obtain ⟨t0, t1, t2, t3, t4, tl⟩ := h.cells
  obtain ⟨ids, Hids⟩ : ∃ ids, Hid (ids = s.us.map K10.c0) := ⟨_, rfl⟩
  have Hil : Hid (ids.length = n) := by show _ = _; rw [Hids.out, List.length_map]; exact Hn.out
  have Hb : Hid (tkB s = tkL s (ids.take n)) := by show _ = _; rw [List.take_of_length_le (by have := Hil.out; omega), Hids.out]; rfl
  have Hid1 : Hid (∀ x ∈ ids, 1 ≤ x ∧ x ≤ 99) := by
    show ∀ x ∈ ids, _
    rw [Hids.out]
    intro x hx
    obtain ⟨u, hu, rfl⟩ := List.mem_map.1 hx
    have g := tg.gd.gu hu
    exact ⟨g.i0, g.i1⟩
  rw [← Hids.out] at cS
  clear h tg hL t1 t2 t3 t4
  go_enter Tryz.func66, Tryz.ntmps66
  go_wp2_with fail
  refine (cK _).mono ?_
  rintro e w2 ⟨rfl, rfl⟩
  go_wp2_with fail
  refine cS.mono ?_
  rintro e w3 ⟨vi, rfl, L3, k3⟩
  obtain ⟨ai, ci, hvi⟩ := L3.form
  rw [Hil.out] at hvi
  subst hvi
  have HS : Hid (SlI w3 w.heap.size (.slice ai n ci) ids) := L3
  have S3 : Hid (ST w3 base T mb vf gr cr gg cg (tkL s (ids.take 0))) := H.out.later k3
  have K3 : Hid (KB base T mb vf gr gg w w3) := KB.of k3 hb
  clear cK cS L3 t0 tl k3
  go_wp2_with fail
  go_loopw [11] (fun i wr => ∃ k : Nat, k ≤ n ∧ i = .int .i64 k ∧ Hid (ST wr base T mb vf gr cr gg cg (tkL s (ids.take k))) ∧ Hid (KB base T mb vf gr gg w wr) ∧ Hid (SlI wr w.heap.size (.slice ai n ci) ids)) (fun i _ => n - (intOf i).toNat)
  case atStart => exact ⟨0, Nat.zero_le _, rfl, S3, K3, HS⟩
  case round =>
    obtain ⟨k, hk, rfl, hS, hK, Hs⟩ := hrel
    by_cases hlt : k < n
    · have hlt' : (k : Int) < (n : Int) := by omega
      obtain ⟨x, hx⟩ : ∃ x, ids[k]? = some x := ⟨_, List.getElem?_eq_getElem (by have := Hil.out; omega)⟩
      have hid := Hid1.out x (List.mem_of_getElem? hx)
      have HE : Hid (tkL s (ids.take (k + 1)) = tkS (tkL s (ids.take k)) x) := tkL_take hx
      have cT := tickUnit_c base T mb vf gr cr gg cg (tkL s (ids.take k)) x (wf_int (by omega) (by omega)) wr (HL.out.below hK.out.bel hG) hS.out (HT.out.list _)
      rcases Hs.out.cases with ⟨h0, _⟩ | ⟨_, gi, ci', hv, hgi, Lx⟩
      · have := congrArg List.length h0
        rw [Hil.out] at this
        simp at this
        omega
      simp only [Value.slice.injEq] at hv
      obtain ⟨rfl, hnn, rfl⟩ := hv
      clear hnn
      have ic := Lx.cell (i := k) (x := x) hx
      have il := Lx.lt
      clear hx Lx hid
      go_wp2_with fail
      refine cT.mono ?_
      rintro e w4 ⟨rfl, S4, K4⟩
      have hs4 := SlI.keptS H.out K4 Hs.out
      go_wp2_with fail
      go_roundw
      case rel => exact ⟨k + 1, by omega, by go_num, by show ST _ _ _ _ _ _ _ _ _ _; rw [HE.out]; exact S4, hK.out.trans K4, hs4⟩
      case measure => simp [intOf]; omega
    · obtain rfl : k = n := by omega
      go_wp2_with fail
      go_end0
      exact ⟨rfl, by rw [Hb.out]; exact hS.out, hK.out⟩
end Go.Proofs.YtppgjmpdnpidnaaGreatDoor
end

/- TickMany -/
/- The contracts of the program's TickMany and TickBoard. Condition: the lists lie in memory as they were laid there; the homes lie in their variable. -/
section
namespace Go.Proofs.YtppgjmpdnpidnaaGreatDoor
open Go.ChangeShapes Go.WideShapes Go.ChangeAt Go.RowKit
open Bd
set_option linter.unusedVariables false

def tmR (us : List K10) (fs : List K3) (rm : List Int) (n : Int) : TR := if (tkF us fs rm == 0) = true then (if 0 ≤ n ∧ n ≤ 20 then .of (tkN n.toNat (ts0 us fs rm)) else .no 3) else .no (tkF us fs rm)
theorem tm_cases (us : List K10) (fs : List K3) (rm : List Int) (n : Int) : ((tkF us fs rm == 0) = false ∧ tmR us fs rm n = .no (tkF us fs rm)) ∨ (tkF us fs rm = 0 ∧ (n < 0 ∨ (0 ≤ n ∧ 20 < n)) ∧ tmR us fs rm n = .no 3) ∨ (tkF us fs rm = 0 ∧ (∃ k : Nat, n = k ∧ k ≤ 20 ∧ tmR us fs rm n = .of (tkN k (ts0 us fs rm)))) := by
  unfold tmR
  cases h : tkF us fs rm == 0
  · exact .inl ⟨rfl, by rw [if_neg (by simp)]⟩
  · have hz : tkF us fs rm = 0 := by simpa using h
    rw [if_pos rfl]
    by_cases hn : 0 ≤ n ∧ n ≤ 20
    · exact .inr (.inr ⟨hz, n.toNat, by omega, by omega, by rw [if_pos hn]⟩)
    · exact .inr (.inl ⟨hz, by omega, by rw [if_neg hn]⟩)
set_option maxRecDepth 20000 in
set_option maxHeartbeats 16000000 in
theorem implTickMany (pu : Option Addr) (m c : Nat) (pf : Option Addr) (m' c' gr og mr cr : Nat) (us : List K10) (fs : List K3) (n : Int) (rm : List Int) (w : World) (hL : HmAt w) (h : TIn w pu m c pf m' c' gr og mr cr us fs rm) :
    Calls Tryz.prog 35 #[.agg (brdV pu m c pf m' c'), .slice (some ⟨gr, og, none⟩) mr cr, .int .i64 n] w fun e w' => ∃ q v f, e = .returned (.agg (resV (tmR us fs rm n).c q (tmR us fs rm n).l v f)) ∧ RIs w' w.heap.size (tmR us fs rm n) q v f ∧ Below w.heap.size w w' := by
  obtain ⟨W1, HW1, rb, rr, B1⟩ := two_res w (.slice pu m c) (.slice pf m' c')
  have cF := (h.later B1).fault
  rcases tm_cases us fs rm n with ⟨h1, e⟩ | ⟨h1, hn, e⟩ | ⟨h1, k, rfl, hk, e⟩
  · rw [e]
    have h1' := bne_of h1
    generalize tkF us fs rm = R at h1 h1' cF ⊢
    obtain ⟨p0, p1, pl⟩ := row_brd rb
    clear h e hL
    go_enter Tryz.func35, Tryz.ntmps35
    go_upto_region 1 with fail
    rw [← HW1.out]
    go_wp2_with fail
    refine cF.mono ?_
    rintro e w2 ⟨rfl, k2⟩
    have B2 := B1.trans (k2.mono B1.size)
    have rr2 := row_later rr k2
    obtain ⟨e0, e1, e2, e3, e4, z0, z1, z2, z3, z4, el⟩ := res_cells rr2
    obtain ⟨x0, x1, x2, x3, x4⟩ := setRes_cells (setRes_row rr2 R (.slice none 0 0) 0 (.slice none 0 0) (.slice none 0 0))
    have BZ := setRes_bel B2 (w.heap.size + 1) (by omega) R (.slice none 0 0) 0 (.slice none 0 0) (.slice none 0 0)
    have RZ := RIs.nil (stRes w2 (w.heap.size + 1) R (.slice none 0 0) 0 (.slice none 0 0) (.slice none 0 0)) w.heap.size R
    clear p0 p1 pl
    go_wp2_with fail
    refine bodyPost_ret (v := .agg (resV R (.slice none 0 0) 0 (.slice none 0 0) (.slice none 0 0))) ?_ rfl ⟨_, _, _, rfl, RZ, BZ⟩
    simp [results, Tryz.results35, go_sem, x0, x1, x2, x3, x4]
    done
  · rw [e]
    rw [h1] at cF
    obtain ⟨p0, p1, pl⟩ := row_brd rb
    clear h e hL h1
    rcases hn with hn | ⟨hn0, hn⟩
    all_goals
      go_enter Tryz.func35, Tryz.ntmps35
      go_upto_region 1 with fail
      rw [← HW1.out]
      go_wp2_with fail
      refine cF.mono ?_
      rintro e w2 ⟨rfl, k2⟩
      have B2 := B1.trans (k2.mono B1.size)
      have rr2 := row_later rr k2
      obtain ⟨e0, e1, e2, e3, e4, z0, z1, z2, z3, z4, el⟩ := res_cells rr2
      obtain ⟨x0, x1, x2, x3, x4⟩ := setRes_cells (setRes_row rr2 3 (.slice none 0 0) 0 (.slice none 0 0) (.slice none 0 0))
      have BZ := setRes_bel B2 (w.heap.size + 1) (by omega) 3 (.slice none 0 0) 0 (.slice none 0 0) (.slice none 0 0)
      have RZ := RIs.nil (stRes w2 (w.heap.size + 1) 3 (.slice none 0 0) 0 (.slice none 0 0) (.slice none 0 0)) w.heap.size 3
      clear p0 p1 pl
      go_wp2_with fail
      refine bodyPost_ret (v := .agg (resV 3 (.slice none 0 0) 0 (.slice none 0 0) (.slice none 0 0))) ?_ rfl ⟨_, _, _, rfl, RZ, BZ⟩
      simp [results, Tryz.results35, go_sem, x0, x1, x2, x3, x4]
      done
  · rw [e]
    have hm : mr = 4 := by have := (tkF_ok h1).2.1; have := h.hr; omega
    subst hm
    have cN := fun W hB => (h.later (w' := W) hB).new h1 rfl
    have tg := tg0 h1
    rw [h1] at cF
    have HL : Hid (HmAt w) := hL
    obtain ⟨L, HLo⟩ : ∃ L, Hid ((tkN k (ts0 us fs rm)).lost = L) := ⟨_, rfl⟩
    have eL : (TR.of (tkN k (ts0 us fs rm))).l = L := HLo.out
    have eC : (TR.of (tkN k (ts0 us fs rm))).c = 0 := rfl
    rw [eL, eC]
    clear eL eC
    obtain ⟨p0, p1, pl⟩ := row_brd rb
    clear h e hL h1
    go_enter Tryz.func35, Tryz.ntmps35
    go_upto_region 1 with fail
    rw [← HW1.out]
    go_wp2_with fail
    refine cF.mono ?_
    rintro e w2 ⟨rfl, k2⟩
    have B2 := B1.trans (k2.mono B1.size)
    clear p0 p1 pl
    obtain ⟨p0, p1, pl⟩ := row_brd (row_later rb k2)
    go_wp2_with fail
    refine (cN _ B2).mono ?_
    rintro e w3 ⟨T, mb, vf, q1, c1, q2, c2, rfl, S3, k3⟩
    have B3 := B2.trans (k3.mono B2.size)
    have hS2 : w.heap.size + 1 < w2.heap.size := (row_later rr k2).lt
    have hG : 0 < w2.heap.size := (HL.out.later B2).lt
    have HS3 : Hid (ST w3 w2.heap.size T mb vf q1 c1 q2 c2 (tkN 0 (ts0 us fs rm))) := S3
    have HK3 : Hid (KB w2.heap.size T mb vf q1 q2 w3 w3) := KB.of (Below.refl _ _) (k3.size)
    have HL3 : Hid (HmAt w3) := HL.out.later B3
    have rr3 := row_later (row_later rr k2) k3
    have HT : Hid (TG (ts0 us fs rm)) := tg
    clear p0 p1 pl S3 tg
    go_wp2_with fail
    go_loopw [27] (fun i wr => ∃ j : Nat, j ≤ k ∧ i = .int .i64 j ∧ Hid (ST wr w2.heap.size T mb vf q1 c1 q2 c2 (tkN j (ts0 us fs rm))) ∧ Hid (KB w2.heap.size T mb vf q1 q2 w3 wr)) (fun i _ => k - (intOf i).toNat)
    case atStart => exact ⟨0, Nat.zero_le _, rfl, HS3, HK3⟩
    case round =>
      obtain ⟨j, hj, rfl, hS, hK⟩ := hrel
      by_cases hlt : j < k
      · have hlt' : (j : Int) < (k : Int) := by omega
        have cT := tickBoard_c w2.heap.size T mb vf q1 c1 q2 c2 _ wr (HL3.out.below hK.out.bel hG) hG hS.out (HT.out.ticks j)
        rw [← tkN_next] at cT
        go_wp2_with fail
        refine cT.mono ?_
        rintro e w4 ⟨rfl, S4, K4⟩
        go_wp2_with fail
        go_roundw
        case rel => exact ⟨j + 1, by omega, by go_num, S4, hK.out.trans K4⟩
        case measure => simp [intOf]; omega
      · obtain rfl : j = k := by omega
        have S5 := hS.out
        have k5 := hK.out.bel
        have cR := tresult_c w2.heap.size T mb vf q1 c1 q2 c2 _ (HT.out.ticks j) wr S5
        rw [HLo.out] at cR
        have rr5 := rr3.of_block (k5.block _ hS2)
        have B5 : Below w.heap.size w wr := B3.trans (k5.mono (by omega))
        go_wp2_with fail
        refine cR.mono ?_
        rintro e w6 ⟨q, v, f, rfl, R6, k6⟩
        have B6 := B5.trans (k6.mono B5.size)
        have rr6 := row_later rr5 k6
        obtain ⟨aq, cq, hq⟩ := R6.g.form
        obtain ⟨av, cv, hv, _⟩ := R6.u.form
        obtain ⟨af, cf, hf, _⟩ := R6.f.form
        obtain ⟨lq, Hlq⟩ : ∃ n, Hid ((TR.of (tkN j (ts0 us fs rm))).g.length = n) := ⟨_, rfl⟩
        obtain ⟨lv, Hlv⟩ : ∃ n, Hid ((TR.of (tkN j (ts0 us fs rm))).us.length = n) := ⟨_, rfl⟩
        obtain ⟨lf, Hlf⟩ : ∃ n, Hid ((TR.of (tkN j (ts0 us fs rm))).fs.length = n) := ⟨_, rfl⟩
        rw [Hlq.out] at hq
        rw [Hlv.out] at hv
        rw [Hlf.out] at hf
        subst hq hv hf
        obtain ⟨e0, e1, e2, e3, e4, z0, z1, z2, z3, z4, el⟩ := res_cells rr6
        obtain ⟨x0, x1, x2, x3, x4⟩ := setRes_cells (setRes_row rr6 0 (.slice aq lq cq) L (.slice av lv cv) (.slice af lf cf))
        have BZ := setRes_bel B6 (w.heap.size + 1) (by omega) 0 (.slice aq lq cq) L (.slice av lv cv) (.slice af lf cf)
        have RZ := (R6.setRes hS2 0 (.slice aq lq cq) L (.slice av lv cv) (.slice af lf cf)).mono (base' := w.heap.size) (by omega)
        go_wp2_with fail
        refine bodyPost_ret (v := .agg (resV 0 (.slice aq lq cq) L (.slice av lv cv) (.slice af lf cf))) ?_ rfl ⟨_, _, _, rfl, RZ, BZ⟩
        simp [results, Tryz.results35, go_sem, x0, x1, x2, x3, x4]
        done
set_option maxRecDepth 20000 in
set_option maxHeartbeats 16000000 in
theorem implTickBoard (pu : Option Addr) (m c : Nat) (pf : Option Addr) (m' c' gr og mr cr : Nat) (us : List K10) (fs : List K3) (rm : List Int) (w : World) (hL : HmAt w) (h : TIn w pu m c pf m' c' gr og mr cr us fs rm) :
    Calls Tryz.prog 14 #[.agg (brdV pu m c pf m' c'), .slice (some ⟨gr, og, none⟩) mr cr] w fun e w' => ∃ q v f, e = .returned (.agg (resV (tmR us fs rm 1).c q (tmR us fs rm 1).l v f)) ∧ RIs w' w.heap.size (tmR us fs rm 1) q v f ∧ Below w.heap.size w w' := by
  obtain ⟨W1, HW1, rb, rr, B1⟩ := two_res w (.slice pu m c) (.slice pf m' c')
  have cM := implTickMany pu m c pf m' c' gr og mr cr us fs 1 rm W1 (hL.later B1) (h.later B1)
  obtain ⟨C, HC⟩ : ∃ C, Hid ((tmR us fs rm 1).c = C) := ⟨_, rfl⟩
  obtain ⟨L, HLo⟩ : ∃ L, Hid ((tmR us fs rm 1).l = L) := ⟨_, rfl⟩
  rw [HC.out, HLo.out] at cM ⊢
  obtain ⟨p0, p1, pl⟩ := row_brd rb
  have hS2 : w.heap.size + 1 < W1.heap.size := rr.lt
  clear h hL
  go_enter Tryz.func14, Tryz.ntmps14
  go_upto_region 1 with fail
  rw [← HW1.out]
  go_wp2_with fail
  refine cM.mono ?_
  rintro e w6 ⟨q, v, f, rfl, R6, k6⟩
  have B6 := B1.trans (k6.mono B1.size)
  have rr6 := row_later rr k6
  obtain ⟨aq, cq, hq⟩ := R6.g.form
  obtain ⟨av, cv, hv, _⟩ := R6.u.form
  obtain ⟨af, cf, hf, _⟩ := R6.f.form
  obtain ⟨lq, Hlq⟩ : ∃ n, Hid ((tmR us fs rm 1).g.length = n) := ⟨_, rfl⟩
  obtain ⟨lv, Hlv⟩ : ∃ n, Hid ((tmR us fs rm 1).us.length = n) := ⟨_, rfl⟩
  obtain ⟨lf, Hlf⟩ : ∃ n, Hid ((tmR us fs rm 1).fs.length = n) := ⟨_, rfl⟩
  rw [Hlq.out] at hq
  rw [Hlv.out] at hv
  rw [Hlf.out] at hf
  subst hq hv hf
  obtain ⟨e0, e1, e2, e3, e4, z0, z1, z2, z3, z4, el⟩ := res_cells rr6
  obtain ⟨x0, x1, x2, x3, x4⟩ := setRes_cells (setRes_row rr6 C (.slice aq lq cq) L (.slice av lv cv) (.slice af lf cf))
  have BZ := setRes_bel B6 (w.heap.size + 1) (by omega) C (.slice aq lq cq) L (.slice av lv cv) (.slice af lf cf)
  have RZ := (R6.setRes hS2 C (.slice aq lq cq) L (.slice av lv cv) (.slice af lf cf)).mono (base' := w.heap.size) (by omega)
  clear p0 p1 pl
  go_wp2_with fail
  refine bodyPost_ret (v := .agg (resV C (.slice aq lq cq) L (.slice av lv cv) (.slice af lf cf))) ?_ rfl ⟨_, _, _, rfl, RZ, BZ⟩
  simp [results, Tryz.results14, go_sem, x0, x1, x2, x3, x4]
  done
end Go.Proofs.YtppgjmpdnpidnaaGreatDoor
end

/- TickSum -/
/- Plain facts of chapter 5 (ticks): what there is together, two parts as one, who rests. No condition. -/
section
namespace Go.Proofs.YtppgjmpdnpidnaaGreatDoor
open Bd
set_option linter.unusedVariables false

def hldU : List K10 → Int
  | [] => 0
  | x :: l => x.c5 + hldU l
def hldF : List K3 → Int
  | [] => 0
  | x :: l => x.c2 + hldF l
def hldI : List Int → Int
  | [] => 0
  | x :: l => x + hldI l
theorem hldU_app (a b : List K10) : hldU (a ++ b) = hldU a + hldU b := by
  induction a with
  | nil => simp [hldU]
  | cons x l ih => show x.c5 + hldU (l ++ b) = x.c5 + hldU l + hldU b; rw [ih]; omega
theorem hldU_set {l : List K10} {k : Nat} {u : K10} (h : l[k]? = some u) (x : K10) : hldU (l.set k x) = hldU l - u.c5 + x.c5 := by
  induction l generalizing k with
  | nil => simp at h
  | cons y l ih =>
    cases k with
    | zero =>
      have e : y = u := by simpa using h
      subst e
      show x.c5 + hldU l = y.c5 + hldU l - y.c5 + x.c5
      omega
    | succ k =>
      show y.c5 + hldU (l.set k x) = y.c5 + hldU l - u.c5 + x.c5
      rw [ih (by simpa using h)]; omega
theorem hldF_set {l : List K3} {k : Nat} {u : K3} (h : l[k]? = some u) (x : K3) : hldF (l.set k x) = hldF l - u.c2 + x.c2 := by
  induction l generalizing k with
  | nil => simp at h
  | cons y l ih =>
    cases k with
    | zero =>
      have e : y = u := by simpa using h
      subst e
      show x.c2 + hldF l = y.c2 + hldF l - y.c2 + x.c2
      omega
    | succ k =>
      show y.c2 + hldF (l.set k x) = y.c2 + hldF l - u.c2 + x.c2
      rw [ih (by simpa using h)]; omega
theorem hldI_at : ∀ (l : List Int) (o : Nat) (x : Int), o < l.length → hldI (addAt l o x) = hldI l + x
  | [], o, x, h => by simp at h
  | y :: l, 0, x, _ => by show (y + x) + hldI l = y + hldI l + x; omega
  | y :: l, o + 1, x, h => by
    have := hldI_at l o x (by simpa using h)
    show y + hldI (addAt l o x) = y + hldI l + x
    omega
theorem hldU_put {us : List K10} (hr : Rise us) {u u' : K10} (hu : u ∈ us) (he : u'.c0 = u.c0) : hldU (putU u' us) = hldU us - u.c5 + u'.c5 := by
  obtain ⟨k, hk, rfl⟩ := List.getElem_of_mem hu
  rw [← set_put hr (List.getElem?_eq_getElem hk) he, hldU_set (List.getElem?_eq_getElem hk)]
theorem hldU_del {us : List K10} (hr : Rise us) {u : K10} (hu : u ∈ us) : hldU (delU us u.c0) = hldU us - u.c5 := by
  obtain ⟨k, hk, rfl⟩ := List.getElem_of_mem hu
  rw [← cut_del hr (List.getElem?_eq_getElem hk), hldU_app]
  have e : hldU us = hldU (us.take k ++ us.drop k) := by rw [List.take_append_drop]
  rw [e, hldU_app, List.drop_eq_getElem_cons hk]
  show _ = hldU (us.take k) + (us[k].c5 + hldU (us.drop (k + 1))) - us[k].c5
  omega
/- a unit's turn keeps what there is together -/
theorem tk1_sum {us : List K10} {fs : List K3} {u : K10} {room : Int} (h : Gd us fs) (hu : u ∈ us) : hldU (tk1 us fs u room).us + hldF (tk1 us fs u room).fs + (tk1 us fs u room).give + (tk1 us fs u room).lost = hldU us + hldF fs := by
  have keep : ∀ u', u'.c0 = u.c0 → u'.c5 = u.c5 → hldU (putU u' us) + hldF fs + 0 + 0 = hldU us + hldF fs := fun u' e e5 => by rw [hldU_put h.r hu e, e5]; omega
  have hid := keep (idle u) rfl rfl
  have hgo : ∀ x y, hldU (putU (goTo u x y) us) + hldF fs + 0 + 0 = hldU us + hldF fs := fun x y => keep (goTo u x y) rfl rfl
  have hself : hldU us + hldF fs + 0 + 0 = hldU us + hldF fs := by omega
  unfold tk1
  split
  · exact hself
  split
  · unfold tkMove
    split
    · exact hid
    · exact hgo _ _
  split
  · unfold tkHarv
    cases hf : fs[u.c9.toNat]? with
    | none => exact hid
    | some f =>
      dsimp only
      split
      · unfold tkBring
        split
        · show hldU (putU (carr u (u.c5 - mn u.c5 room)) us) + hldF fs + mn u.c5 room + 0 = _
          rw [hldU_put h.r (u' := carr u (u.c5 - mn u.c5 room)) hu rfl]
          show hldU us - u.c5 + (u.c5 - mn u.c5 room) + hldF fs + mn u.c5 room + 0 = _
          omega
        · exact hgo _ _
      · split
        · exact hid
        · unfold tkTake
          split
          · show hldU (putU (carr u (u.c5 + tkn u f)) us) + hldF (fs.set u.c9.toNat (leftF f (f.c2 - tkn u f))) + 0 + 0 = _
            rw [hldU_put h.r (u' := carr u (u.c5 + tkn u f)) hu rfl, hldF_set hf]
            show hldU us - u.c5 + (u.c5 + tkn u f) + (hldF fs - f.c2 + (f.c2 - tkn u f)) + 0 + 0 = _
            omega
          · exact hgo _ _
  split
  · unfold tkAtk
    cases hp : findU us u.c9 with
    | none => exact hid
    | some p =>
      have hpm := find_mem' hp
      dsimp only
      split
      · exact hid
      · split
        · exact hgo _ _
        · unfold tkHit
          split
          · show hldU (delU us p.c0) + hldF fs + 0 + p.c5 = _
            rw [hldU_del h.r hpm]; omega
          · show hldU (putU (life p (p.c4 - 7)) us) + hldF fs + 0 + 0 = _
            rw [hldU_put h.r (u' := life p (p.c4 - 7)) hpm rfl]
            show hldU us - p.c5 + p.c5 + hldF fs + 0 + 0 = _
            omega
  · exact hself
def tot (s : TS) : Int := hldU s.us + hldF s.fs + hldI s.gn + s.lost
theorem tot_step {s : TS} (h : TG s) (i : Int) : tot (tkS s i) = tot s := by
  unfold tkS
  cases hf : findU s.us i with
  | none => rfl
  | some u =>
    have hu := find_mem' hf
    have t := tk1_sum (room := s.rm.getD u.c1.toNat 0) h.gd hu
    have g := h.gd.gu hu
    by_cases h9 : u.c1 = 9
    · rw [tk1_nobody h9] at t
      dsimp only
      rw [tk1_nobody h9]
      simp only [Int.neg_zero, addAt_zero, Int.add_zero]
      try rfl
    · have ho : u.c1.toNat < 4 := by rcases g.o with h | h; omega; exact absurd h h9
      show hldU (tk1 s.us s.fs u (s.rm.getD u.c1.toNat 0)).us + hldF (tk1 s.us s.fs u (s.rm.getD u.c1.toNat 0)).fs + hldI (addAt s.gn u.c1.toNat (tk1 s.us s.fs u (s.rm.getD u.c1.toNat 0)).give) + (s.lost + (tk1 s.us s.fs u (s.rm.getD u.c1.toNat 0)).lost) = hldU s.us + hldF s.fs + hldI s.gn + s.lost
      rw [hldI_at _ _ _ (by rw [h.gl]; exact ho)]
      omega
theorem tot_list {s : TS} (h : TG s) (ids : List Int) : tot (tkL s ids) = tot s := by
  unfold tkL
  induction ids generalizing s with
  | nil => rfl
  | cons i l ih => exact (ih (h.step i)).trans (tot_step h i)
theorem tot_tick {s : TS} (h : TG s) : tot (tkB s) = tot s := tot_list h _
theorem tot_ticks {s : TS} (h : TG s) (n : Nat) : tot (tkN n s) = tot s := by
  induction n generalizing s with
  | zero => rfl
  | succ n ih => exact (ih h.tick).trans (tot_tick h)
theorem purs_of {l : List Int} (h : ∀ x ∈ l, 0 ≤ x ∧ x ≤ 1000000) : purs l = 0 := by
  induction l with
  | nil => rfl
  | cons a l ih =>
    have := h a (List.mem_cons_self ..)
    unfold purs
    rw [if_pos (inb_t (by omega) (by omega))]
    exact ih (fun x hx => h x (List.mem_cons_of_mem _ hx))
theorem tkF_of {us : List K10} {fs : List K3} {rm : List Int} (h : Gd us fs) (hl : rm.length = 4) (hr : ∀ x ∈ rm, 0 ≤ x ∧ x ≤ 1000000) : tkF us fs rm = 0 := by
  unfold tkF rmF
  rw [h.bf, if_pos (show ((0 : Int) == 0) = true from rfl), if_pos hl, purs_of hr]
theorem tmR_of {us : List K10} {fs : List K3} {rm : List Int} (h : tkF us fs rm = 0) {n : Nat} (hn : n ≤ 20) : tmR us fs rm (n : Int) = .of (tkN n (ts0 us fs rm)) := by
  unfold tmR
  rw [h, if_pos (show ((0 : Int) == 0) = true from rfl), if_pos ⟨by omega, by omega⟩]
  rfl
/- what is gained is what the rooms have less -/
theorem ticks_room {us : List K10} {fs : List K3} {rm : List Int} (hl : rm.length = 4) (n : Nat) : (tkN n (ts0 us fs rm)).rm = subL rm (tkN n (ts0 us fs rm)).gn := by
  have k := (Shift.start (us := us) (fs := fs) (rm := rm) (gn := z4) (l := 0) hl rfl).ticks n
  exact k.r
theorem gain_le {us : List K10} {fs : List K3} {rm : List Int} (h : tkF us fs rm = 0) (n : Nat) {k : Nat} (hk : k < 4) :
    0 ≤ (tkN n (ts0 us fs rm)).gn.getD k 0 ∧ (tkN n (ts0 us fs rm)).gn.getD k 0 ≤ rm.getD k 0 ∧ rm.getD k 0 - (tkN n (ts0 us fs rm)).gn.getD k 0 = (tkN n (ts0 us fs rm)).rm.getD k 0 := by
  have tg := (tg0 h).ticks n
  obtain ⟨_, hl, _⟩ := tkF_ok h
  have e := ticks_room (us := us) (fs := fs) hl n
  have g4 := tg.gl
  have r0 := tg.r _ (getD_mem (l := (tkN n (ts0 us fs rm)).rm) (k := k) (by rw [tg.rl]; exact hk))
  have g0 := tg.g _ (getD_mem (l := (tkN n (ts0 us fs rm)).gn) (k := k) (by rw [tg.gl]; exact hk))
  generalize (tkN n (ts0 us fs rm)).gn = gn at *
  rw [e] at r0 ⊢
  obtain ⟨a, b, c, d, rfl⟩ := four hl
  obtain ⟨p, q, r, s, rfl⟩ := four g4
  rcases k with _ | _ | _ | _ | k
  · simp [subL] at *; omega
  · simp [subL] at *; omega
  · simp [subL] at *; omega
  · simp [subL] at *; omega
  · omega
end Go.Proofs.YtppgjmpdnpidnaaGreatDoor
end
