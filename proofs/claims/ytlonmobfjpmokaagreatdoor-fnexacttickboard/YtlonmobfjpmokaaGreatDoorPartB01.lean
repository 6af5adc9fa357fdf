/- Texts of mine put together (a claim holds at most 60 files): TickHome, TickImpl3, TickImpl4. -/
import Derived.Test.YtlonmobfjpmokaaGreatDoorPartB00
import Derived.Test.YtlonmobfjpmokaaGreatDoorPartU19

/- TickHome -/
/- Contracts of the program's parts of ticks: homes, what is brought home. Condition: the state is the call's own; the homes lie in their variable. -/
section
namespace Go.Proofs.YtlonmobfjpmokaaGreatDoor
open Go.ChangeShapes Go.WideShapes Go.ChangeAt Go.RowKit
open Bd
set_option linter.unusedVariables false

/- the homes, as their variable holds them -/
structure HmAt (w : World) : Prop where
  c : ∀ o : Nat, o < 4 → w.cell? ⟨0, o * 3, none⟩ = some (.int .i64 0) ∧ w.cell? ⟨0, o * 3 + 1, none⟩ = some (.int .i64 (hmX o)) ∧ w.cell? ⟨0, o * 3 + 2, none⟩ = some (.int .i64 (hmY o))
  lt : 0 < w.heap.size
theorem HmAt.below {w w' : World} {n : Nat} (h : HmAt w) (hb : Below n w w') (hn : 0 < n) : HmAt w' :=
  ⟨fun o ho => by have := h.c o ho; rw [hb.cell (p := ⟨0, o * 3, none⟩) hn, hb.cell (p := ⟨0, o * 3 + 1, none⟩) hn, hb.cell (p := ⟨0, o * 3 + 2, none⟩) hn]; exact this, Nat.lt_of_lt_of_le h.lt hb.size⟩
theorem HmAt.later {w w' : World} (h : HmAt w) (hb : Below w.heap.size w w') : HmAt w' := h.below hb h.lt
set_option maxRecDepth 20000 in
set_option maxHeartbeats 4000000 in
theorem homeOf_c (o : Nat) (ho : o < 4) (w : World) (hL : HmAt w) :
    Calls Tryz.prog 16 #[.int .i64 o] w fun e w' => e = .returned (.agg (tileV (hmX o) (hmY o))) ∧ Below w.heap.size w w' := by
  have hs := fun W => isSide_c (o : Int) W
  rw [inb_t (by omega) (by omega)] at hs
  have ho' : (o : Int) < 4 := by omega
  obtain ⟨W1, HW1⟩ : ∃ W1, Hid (W1 = w.alloc (.cells (tileV 0 0) 40)) := ⟨_, rfl⟩
  have B1 : Below w.heap.size w W1 := by rw [HW1.out]; exact (Below.refl _ _).alloc (Nat.le_refl _) _
  have rr : W1.rowIs w.heap.size 40 3 (fun i => (tileV 0 0)[i]!) := by rw [HW1.out]; exact rowAll w (tileV 0 0) _
  obtain ⟨g0, g1, g2⟩ := (hL.later B1).c o ho
  have gl := (hL.later B1).lt
  have e0 : W1.cell? ⟨w.heap.size, 0, none⟩ = some (.int .i64 0) := rr.cell (i := 0) (by omega)
  have e1 : W1.cell? ⟨w.heap.size, 1, none⟩ = some (.int .i64 0) := rr.cell (i := 1) (by omega)
  have e2 : W1.cell? ⟨w.heap.size, 2, none⟩ = some (.int .i64 0) := rr.cell (i := 2) (by omega)
  have z0 := rr.frozen 0
  have z1 := rr.frozen 1
  have z2 := rr.frozen 2
  have rl := rr.lt
  generalize hmX (o : Int) = X at g1 ⊢
  generalize hmY (o : Int) = Y at g2 ⊢
  have t := ((rr.set 0 (.int .i64 0)).set 1 (.int .i64 X)).set 2 (.int .i64 Y)
  have c0 := t.cell (i := 0) (by omega)
  have c1 := t.cell (i := 1) (by omega)
  have c2 := t.cell (i := 2) (by omega)
  have BZ := bel_set (bel_set (bel_set B1 w.heap.size 0 (Nat.le_refl _) (.int .i64 0)) w.heap.size 1 (Nat.le_refl _) (.int .i64 X)) w.heap.size 2 (Nat.le_refl _) (.int .i64 Y)
  clear rr hL
  go_enter Tryz.func16, Tryz.ntmps16
  go_upto_region 1 with fail
  rw [← HW1.out]
  go_wp2_with (first | (go_at_call 51; refine (hs _).mono ?_; rintro e w1 ⟨rfl, rfl⟩))
  refine bodyPost_ret (v := .agg (tileV X Y)) ?_ rfl ⟨rfl, BZ⟩
  simp [results, Tryz.results16, go_sem, c0, c1, c2]
  done
theorem homeOf_i (o : Int) (h0 : 0 ≤ o) (h3 : o ≤ 3) (w : World) (hL : HmAt w) :
    Calls Tryz.prog 16 #[.int .i64 o] w fun e w' => e = .returned (.agg (tileV (hmX o) (hmY o))) ∧ Below w.heap.size w w' := by
  obtain ⟨n, rfl⟩ : ∃ n : Nat, o = n := ⟨o.toNat, by omega⟩
  exact homeOf_c n (by omega) w hL
end Go.Proofs.YtlonmobfjpmokaaGreatDoor
end

/- TickImpl3 -/
/- Contracts of the program's parts of ticks: homes, what is brought home. Condition: the state is the call's own; the homes lie in their variable. -/
section
namespace Go.Proofs.YtlonmobfjpmokaaGreatDoor
open Go.ChangeShapes Go.WideShapes Go.ChangeAt Go.RowKit
open Bd
set_option linter.unusedVariables false

abbrev uRow (u : K10) (i : Nat) : Value := u.v[i]!
theorem row_carr {w : World} {g : Nat} {t : TypeId} {u : K10} (h : w.rowIs g t 10 (uRow u)) (x : Int) : (w.setCell ⟨g, 5, none⟩ (.int .i64 x)).rowIs g t 10 (uRow (carr u x)) := (h.set 5 (.int .i64 x)).congr (fun i hi => by rcases ten hi with rfl | rfl | rfl | rfl | rfl | rfl | rfl | rfl | rfl | rfl <;> rfl)
theorem row_life {w : World} {g : Nat} {t : TypeId} {u : K10} (h : w.rowIs g t 10 (uRow u)) (x : Int) : (w.setCell ⟨g, 4, none⟩ (.int .i64 x)).rowIs g t 10 (uRow (life u x)) := (h.set 4 (.int .i64 x)).congr (fun i hi => by rcases ten hi with rfl | rfl | rfl | rfl | rfl | rfl | rfl | rfl | rfl | rfl <;> rfl)
theorem U1.of_v {w : World} {g : Nat} {t : TypeId} {u : K10} (h : w.rowIs g t 10 (uRow u)) : U1 w g 0 u := U1.of_row h (fun i hi => by rcases ten hi with rfl | rfl | rfl | rfl | rfl | rfl | rfl | rfl | rfl | rfl <;> rfl)
/- rooms, gains, what is lost, a field of the state -/
theorem ST.setR {w : World} {base T mb : Nat} {vf : Value} {gr cr gg cg : Nat} {s : TS} (h : ST w base T mb vf gr cr gg cg s) (o : Nat) (x : Int) : ST (w.setCell ⟨gr, o, none⟩ (.int .i64 x)) base T mb vf gr cr gg cg ⟨s.us, s.fs, s.rm.set o x, s.gn, s.lost⟩ := by
  have sp := h.sep
  have kb : ∀ q, q ≠ gr → (w.setCell ⟨gr, o, none⟩ (.int .i64 x)).heap[q]? = w.heap[q]? := fun q hq => Below.heap_setCell _ _ _ _ hq
  exact ⟨h.row.of_block (kb T sp.tr), h.m.of_block (kb mb sp.mr), h.f.of_block (fun q hq => kb q (sp.f q hq).2.2.1), h.r.set o x, h.g.of_block (kb gg sp.rg.symm), h.ne, h.bT, h.bm, h.br, h.bg⟩
theorem ST.setG {w : World} {base T mb : Nat} {vf : Value} {gr cr gg cg : Nat} {s : TS} (h : ST w base T mb vf gr cr gg cg s) (o : Nat) (x : Int) : ST (w.setCell ⟨gg, o, none⟩ (.int .i64 x)) base T mb vf gr cr gg cg ⟨s.us, s.fs, s.rm, s.gn.set o x, s.lost⟩ := by
  have sp := h.sep
  have kb : ∀ q, q ≠ gg → (w.setCell ⟨gg, o, none⟩ (.int .i64 x)).heap[q]? = w.heap[q]? := fun q hq => Below.heap_setCell _ _ _ _ hq
  exact ⟨h.row.of_block (kb T sp.tg), h.m.of_block (kb mb sp.mg), h.f.of_block (fun q hq => kb q (sp.f q hq).2.2.2), h.r.of_block (kb gr sp.rg), h.g.set o x, h.ne, h.bT, h.bm, h.br, h.bg⟩
theorem ST.setL {w : World} {base T mb : Nat} {vf : Value} {gr cr gg cg : Nat} {s : TS} (h : ST w base T mb vf gr cr gg cg s) (x : Int) : ST (w.setCell ⟨T, 4, none⟩ (.int .i64 x)) base T mb vf gr cr gg cg ⟨s.us, s.fs, s.rm, s.gn, x⟩ := by
  have sp := h.sep
  have kb : ∀ q, q ≠ T → (w.setCell ⟨T, 4, none⟩ (.int .i64 x)).heap[q]? = w.heap[q]? := fun q hq => Below.heap_setCell _ _ _ _ hq
  exact ⟨(h.row.set 4 (.int .i64 x)).congr (fun i hi => by rcases i with _ | _ | _ | _ | _ | i <;> first | rfl | omega), h.m.of_block (kb mb sp.tm.symm), h.f.of_block (fun q hq => kb q (sp.f q hq).1), h.r.of_block (kb gr sp.tr.symm), h.g.of_block (kb gg sp.tg.symm), h.ne, h.bT, h.bm, h.br, h.bg⟩
def stGive (s : TS) (u : K10) (o : Nat) (x : Int) : TS := ⟨putU u s.us, s.fs, addAt s.rm o (-x), addAt s.gn o x, s.lost⟩
theorem stGive_zero (s : TS) (u : K10) (o : Nat) : stGive s u o 0 = stPut s u := by unfold stGive stPut; rw [Int.neg_zero, addAt_zero, addAt_zero]
set_option maxRecDepth 20000 in
set_option maxHeartbeats 8000000 in
theorem bring_walk (base T mb : Nat) (vf : Value) (gr cr gg cg : Nat) (s : TS) (u : K10) (hr : Rise s.us) (hn : s.us.length ≤ 8) (gu : GU u) (o0 : 0 ≤ u.c1) (o3 : u.c1 ≤ 3) (w : World) (hL : HmAt w) (h : ST w base T mb vf gr cr gg cg s)
    (hq : ((u.c2 != hmX u.c1) = true) ∨ ((u.c2 != hmX u.c1) = false ∧ (u.c3 != hmY u.c1) = true)) :
    Calls Tryz.prog 121 #[.pointer (some ⟨T, 0, none⟩), .agg u.v] w fun e w' => e = .returned (.tuple #[]) ∧ ST w' base T mb vf gr cr gg cg (stPut s (goTo u (hmX u.c1) (hmY u.c1))) ∧ KB base T mb vf gr gg w w' := by
  obtain ⟨W1, HW1, B1, U0, row⟩ := boxU w u
  obtain ⟨b0, b1, b2, b3⟩ := hm_bd u.c1
  have cH := homeOf_i u.c1 o0 o3 W1 (hL.later B1)
  have cS := fun W hS => step_c base T mb vf gr cr gg cg s u (hmX u.c1) (hmY u.c1) hr hn gu b0 b1 b2 b3 W hS
  have H : Hid (ST w base T mb vf gr cr gg cg s) := h
  have hb := h.base
  have HU : Hid (U1 W1 w.heap.size 0 u) := U0
  generalize hmX u.c1 = X at cH cS hq ⊢
  generalize hmY u.c1 = Y at cH cS hq ⊢
  obtain ⟨s0, s1, s2, s3, s4, s5, s6, s7, s8, s9, sl⟩ := U0
  clear h row b0 b1 b2 b3 gu
  rcases hq with q1 | ⟨q1, q2⟩
  all_goals
    go_enter Tryz.func121, Tryz.ntmps121
    go_upto_region 1 with fail
    rw [← HW1.out]
    go_wp2_with fail
    refine cH.mono ?_
    rintro e w2 ⟨rfl, k2⟩
    have U2 := HU.out.later k2
    have k3 : Below w2.heap.size w2 (w2.alloc (.cells (tileV X Y) 40)) := (Below.refl _ _).alloc (Nat.le_refl _) _
    have B3 := (B1.trans (k2.mono B1.size)).trans (k3.mono (B1.trans (k2.mono B1.size)).size)
    clear s0 s1 s2 s3 s4 s5 s6 s7 s8 s9 sl
    obtain ⟨s0, s1, s2, s3, s4, s5, s6, s7, s8, s9, sl⟩ := U2
    go_wp2_with fail
    refine (cS _ (H.out.later B3)).mono ?_
    rintro e w4 ⟨rfl, S4, B4⟩
    go_wp2_with fail
    try simp only [Exit.inBlock, Exit.then]
    refine bodyPost_ret (results_none rfl _ _ _) rfl ?_
    exact ⟨rfl, S4, (KB.of B3 hb).trans B4⟩
end Go.Proofs.YtlonmobfjpmokaaGreatDoor
end

/- TickImpl4 -/
/- Contracts of the program's parts of ticks: homes, what is brought home. Condition: the state is the call's own; the homes lie in their variable. -/
section
namespace Go.Proofs.YtlonmobfjpmokaaGreatDoor
open Go.ChangeShapes Go.WideShapes Go.ChangeAt Go.RowKit
open Bd
set_option linter.unusedVariables false

set_option maxRecDepth 20000 in
set_option maxHeartbeats 16000000 in
theorem bring_give (base T mb : Nat) (vf : Value) (gr cr gg cg : Nat) (s : TS) (u : K10) (hr : Rise s.us) (hn : s.us.length ≤ 8) (gu : GU u) (o0 : 0 ≤ u.c1) (o3 : u.c1 ≤ 3) (w : World) (hL : HmAt w) (h : ST w base T mb vf gr cr gg cg s)
    (q1 : (u.c2 != hmX u.c1) = false) (q2 : (u.c3 != hmY u.c1) = false) (room gain : Int) (hrm : s.rm[u.c1.toNat]? = some room) (hgn : s.gn[u.c1.toNat]? = some gain) (r0 : 0 ≤ room) (r1 : room ≤ 1000000) (g0 : 0 ≤ gain) (g1 : gain ≤ 1000000) :
    Calls Tryz.prog 121 #[.pointer (some ⟨T, 0, none⟩), .agg u.v] w fun e w' => e = .returned (.tuple #[]) ∧ ST w' base T mb vf gr cr gg cg (stGive s (carr u (u.c5 - mn u.c5 room)) u.c1.toNat (mn u.c5 room)) ∧ KB base T mb vf gr gg w w' := by
  obtain ⟨W1, HW1, B1, U0, row⟩ := boxU w u
  have cH := homeOf_i u.c1 o0 o3 W1 (hL.later B1)
  have H : Hid (ST w base T mb vf gr cr gg cg s) := h
  have hb := h.base
  have HU : Hid (W1.rowIs w.heap.size 87 10 (fun i => u.v[i]!)) := row
  have HU1 : Hid (U1 W1 w.heap.size 0 u) := U0
  have u0 := gu.c0
  have u1 := gu.c1
  have i0 := gu.i0
  have i1 := gu.i1
  have mb' := mn_bd u.c5 room
  have o4 : u.c1 < 4 := by omega
  have Eg : Hid (s.gn.getD u.c1.toNat 0 = gain) := by show _ = _; rw [List.getD_eq_getElem?_getD, hgn]; rfl
  have Er : Hid (s.rm.getD u.c1.toNat 0 = room) := by show _ = _; rw [List.getD_eq_getElem?_getD, hrm]; rfl
  have Hrm : Hid (s.rm[u.c1.toNat]? = some room) := hrm
  have Hgn : Hid (s.gn[u.c1.toNat]? = some gain) := hgn
  have Hr : Hid (Rise s.us) := hr
  have Hn : Hid (s.us.length ≤ 8) := hn
  generalize hmX u.c1 = X at cH q1
  generalize hmY u.c1 = Y at cH q2
  obtain ⟨s0, s1, s2, s3, s4, s5, s6, s7, s8, s9, sl⟩ := U0
  clear h row hrm hgn gu hr hn
  have HmM : Hid (min u.c5 room = mn u.c5 room) := by show _ = _; unfold mn; omega
  have M0 : 0 ≤ mn u.c5 room := by omega
  generalize mn u.c5 room = M at HmM M0 mb' ⊢
  have W0 := H.out.base
  go_enter Tryz.func121, Tryz.ntmps121
  go_upto_region 1 with fail
  rw [← HW1.out]
  go_wp2_with fail
  refine cH.mono ?_
  rintro e w2 ⟨rfl, k2⟩
  obtain ⟨W3, HW3⟩ : ∃ W3, Hid (W3 = w2.alloc (.cells (tileV X Y) 40)) := ⟨_, rfl⟩
  have k3 : Below w2.heap.size w2 W3 := by rw [HW3.out]; exact (Below.refl _ _).alloc (Nat.le_refl _) _
  have K3 := k2.trans (k3.mono k2.size)
  have B3 := B1.trans (K3.mono B1.size)
  have h1' : W3.cell? ⟨w2.heap.size, 1, none⟩ = some (.int .i64 X) := by rw [HW3.out]; exact cell_new _ _ _ _ _ rfl
  have h2' : W3.cell? ⟨w2.heap.size, 2, none⟩ = some (.int .i64 Y) := by rw [HW3.out]; exact cell_new _ _ _ _ _ rfl
  have hl' : w2.heap.size < W3.heap.size := by rw [HW3.out, size_new]; omega
  have row3 := row_later HU.out K3
  have S3 := H.out.later B3
  clear s0 s1 s2 s3 s4 s5 s6 s7 s8 s9 sl
  go_upto_region 2 with fail
  rw [← HW3.out]
  obtain ⟨s0, s1, s2, s3, s4, s5, s6, s7, s8, s9, sl⟩ := HU1.out.later K3
  obtain ⟨t0, t1, t2, t3, t4, tl⟩ := S3.cells
  have rc := S3.r.cell Hrm.out
  have rl := S3.r.lt
  go_wp2_with fail
  go_quiet (fail)
  revert nq
  intro j
  rw [HmM.out]
  obtain ⟨W5, HW5⟩ : ∃ W5, Hid (W5 = (W3.drewN j).setCell ⟨w.heap.size, 5, none⟩ (.int .i64 (u.c5 - M))) := ⟨_, rfl⟩
  have B5 : Below w.heap.size w W5 := by rw [HW5.out]; exact bel_set (B3.trans ((below_drewN _ _).mono B3.size)) _ _ (Nat.le_refl _) _
  have row5 : W5.rowIs w.heap.size 87 10 (uRow (carr u (u.c5 - M))) := by rw [HW5.out]; exact row_carr (row_later row3 (below_drewN _ j)) (u.c5 - M)
  have U5 : U1 W5 w.heap.size 0 (carr u (u.c5 - M)) := U1.of_v row5
  have S5 := H.out.later B5
  have z5 := row3.frozen 5
  go_upto_region 6 with fail
  rw [← HW5.out]
  clear s0 s1 s2 s3 s4 s5 s6 s7 s8 s9 sl t0 t1 t2 t3 t4 tl rc rl z5 h1' h2' hl'
  obtain ⟨s0, s1, s2, s3, s4, s5, s6, s7, s8, s9, sl⟩ := U5
  obtain ⟨t0, t1, t2, t3, t4, tl⟩ := S5.cells
  have s1' : W5.cell? ⟨w.heap.size, 1, none⟩ = some (.int .i64 u.c1) := s1
  have rc := S5.r.cell Hrm.out
  have rz := S5.r.frozen u.c1.toNat
  have rl := S5.r.lt
  obtain ⟨W6, HW6⟩ : ∃ W6, Hid (W6 = (W5.setCell ⟨gr, u.c1.toNat, none⟩ (.int .i64 (room - M))).drew) := ⟨_, rfl⟩
  have S6 : ST W6 base T mb vf gr cr gg cg ⟨s.us, s.fs, s.rm.set u.c1.toNat (room - M), s.gn, s.lost⟩ := by rw [HW6.out]; exact (S5.setR u.c1.toNat (room - M)).later ((Below.refl _ _).drew)
  have B6 : KB base T mb vf gr gg w W6 := by rw [HW6.out]; exact ((KB.of B5 hb).set gr u.c1.toNat H.out.br (.inr (.inr (.inr (.inl rfl)))) (.int .i64 (room - M))).drew
  have U6 : W6.rowIs w.heap.size 87 10 (uRow (carr u (u.c5 - M))) := by rw [HW6.out]; exact row_later (row_other row5 (a := ⟨gr, u.c1.toNat, none⟩) (by have := H.out.r.lt; show w.heap.size ≠ gr; omega) (.int .i64 (room - M))) ((Below.refl _ _).drew)
  clear s0 s1 s2 s3 s4 s5 s6 s7 s8 s9 t0 t1 t3 t4
  go_region
  all_goals
    rw [← HW6.out]
    clear s1' t2 tl rc rz rl sl
    obtain ⟨t0, t1, t2, t3, t4, tl⟩ := S6.cells
    have s1' : W6.cell? ⟨w.heap.size, 1, none⟩ = some (.int .i64 u.c1) := U6.cell (i := 1) (by omega)
    have sl := U6.lt
    have rc := S6.g.cell Hgn.out
    have rz := S6.g.frozen u.c1.toNat
    have rl := S6.g.lt
    obtain ⟨W7, HW7⟩ : ∃ W7, Hid (W7 = (W6.setCell ⟨gg, u.c1.toNat, none⟩ (.int .i64 (gain + M))).drew) := ⟨_, rfl⟩
    have S7 : ST W7 base T mb vf gr cr gg cg ⟨s.us, s.fs, s.rm.set u.c1.toNat (room - M), s.gn.set u.c1.toNat (gain + M), s.lost⟩ := by rw [HW7.out]; exact (S6.setG u.c1.toNat (gain + M)).later ((Below.refl _ _).drew)
    have B7 : KB base T mb vf gr gg w W7 := by rw [HW7.out]; exact (B6.set gg u.c1.toNat H.out.bg (.inr (.inr (.inr (.inr rfl)))) (.int .i64 (gain + M))).drew
    have U7 : W7.rowIs w.heap.size 87 10 (uRow (carr u (u.c5 - M))) := by rw [HW7.out]; exact row_later (row_other U6 (a := ⟨gg, u.c1.toNat, none⟩) (by have := H.out.g.lt; show w.heap.size ≠ gg; omega) (.int .i64 (gain + M))) ((Below.refl _ _).drew)
    have U7' : U1 W7 w.heap.size 0 (carr u (u.c5 - M)) := U1.of_v U7
    have cP := put_c base T mb vf gr cr gg cg ⟨s.us, s.fs, s.rm.set u.c1.toNat (room - M), s.gn.set u.c1.toNat (gain + M), s.lost⟩ (carr u (u.c5 - M)) Hr.out Hn.out i0 i1 W7 S7
    have E : Hid (stPut ⟨s.us, s.fs, s.rm.set u.c1.toNat (room - M), s.gn.set u.c1.toNat (gain + M), s.lost⟩ (carr u (u.c5 - M)) = stGive s (carr u (u.c5 - M)) u.c1.toNat M) := by show _ = _; unfold stPut stGive addAt; rw [Eg.out, Er.out]; rfl
    rw [E.out] at cP
    clear t0 t1 t2 t4
    go_wp2_with fail
    go_region
    all_goals
      rw [← HW7.out]
      clear s1' t3 tl rc rz rl sl
      obtain ⟨s0, s1, s2, s3, s4, s5, s6, s7, s8, s9, sl⟩ := U7'
      go_wp2_with fail
      refine cP.mono ?_
      rintro e w8 ⟨rfl, S8, B8⟩
      go_wp2_with fail
      go_end0
      exact ⟨rfl, S8, B7.trans B8⟩
end Go.Proofs.YtlonmobfjpmokaaGreatDoor
end
