/- Texts of mine put together (a claim holds at most 60 files): TickImpl3, TickImpl4, TickImpl5, TickImpl6. -/
import Derived.Test.YtppgjmpdnpidnaaGreatDoorPartK16
import Derived.Test.YtppgjmpdnpidnaaGreatDoorPartK12

/- TickImpl3 -/
/- Contracts of the program's parts of ticks: homes, what is brought home. Condition: the state is the call's own; the homes lie in their variable. -/
section
namespace Go.Proofs.YtppgjmpdnpidnaaGreatDoor
open Go.ChangeShapes Go.WideShapes Go.ChangeAt Go.RowKit
open Bd
set_option linter.unusedVariables false

abbrev uRow (u : K10) (i : Nat) : Value := u.v[i]!
theorem row_carr {w : World} {g : Nat} {t : TypeId} {u : K10} (h : w.rowIs g t 10 (uRow u)) (x : Int) : (w.setCell ⟨g, 5, none⟩ (.int .i64 x)).rowIs g t 10 (uRow (carr u x)) := (h.set 5 (.int .i64 x)).congr (fun i hi => by rcases ten hi with rfl | rfl | rfl | rfl | rfl | rfl | rfl | rfl | rfl | rfl <;> rfl)
theorem row_life {w : World} {g : Nat} {t : TypeId} {u : K10} (h : w.rowIs g t 10 (uRow u)) (x : Int) : (w.setCell ⟨g, 4, none⟩ (.int .i64 x)).rowIs g t 10 (uRow (life u x)) := (h.set 4 (.int .i64 x)).congr (fun i hi => by rcases ten hi with rfl | rfl | rfl | rfl | rfl | rfl | rfl | rfl | rfl | rfl <;> rfl)
theorem U1.of_v {w : World} {g : Nat} {t : TypeId} {u : K10} (h : w.rowIs g t 10 (uRow u)) : U1 w g 0 u := U1.of_row h (fun i hi => by rcases ten hi with rfl | rfl | rfl | rfl | rfl | rfl | rfl | rfl | rfl | rfl <;> rfl)
/- rooms, gains, what is lost, a field of the state -/
theorem ST.setR {w : World} {base T mb : Nat} {vf : Value} {gr cr gg cg : Nat} {s : TS} (h : ST w base T mb vf gr cr gg cg s) (o : Nat) (x : Int) : ST (w.setCell ⟨gr, o, none⟩ (.int .i64 x)) base T mb vf gr cr gg cg ⟨s.us, s.fs, s.rm.set o x, s.gn, s.lost⟩ := by
  have sp := h.sep
  have kb : ∀ q, q ≠ gr → (w.setCell ⟨gr, o, none⟩ (.int .i64 x)).heap[q]? = w.heap[q]? := fun q hq => Below.heap_setCell _ _ _ _ hq
  exact ⟨h.row.of_block (kb T sp.tr), h.m.of_block (kb mb sp.mr), h.f.of_block (fun q hq => kb q (sp.f q hq).2.2.1), h.r.set o x, h.g.of_block (kb gg sp.rg.symm), h.ne, h.bT, h.bm, h.br, h.bg⟩
theorem ST.setG {w : World} {base T mb : Nat} {vf : Value} {gr cr gg cg : Nat} {s : TS} (h : ST w base T mb vf gr cr gg cg s) (o : Nat) (x : Int) : ST (w.setCell ⟨gg, o, none⟩ (.int .i64 x)) base T mb vf gr cr gg cg ⟨s.us, s.fs, s.rm, s.gn.set o x, s.lost⟩ := by
  have sp := h.sep
  have kb : ∀ q, q ≠ gg → (w.setCell ⟨gg, o, none⟩ (.int .i64 x)).heap[q]? = w.heap[q]? := fun q hq => Below.heap_setCell _ _ _ _ hq
  exact ⟨h.row.of_block (kb T sp.tg), h.m.of_block (kb mb sp.mg), h.f.of_block (fun q hq => kb q (sp.f q hq).2.2.2), h.r.of_block (kb gr sp.rg), h.g.set o x, h.ne, h.bT, h.bm, h.br, h.bg⟩
theorem ST.setL {w : World} {base T mb : Nat} {vf : Value} {gr cr gg cg : Nat} {s : TS} (h : ST w base T mb vf gr cr gg cg s) (x : Int) : ST (w.setCell ⟨T, 4, none⟩ (.int .i64 x)) base T mb vf gr cr gg cg ⟨s.us, s.fs, s.rm, s.gn, x⟩ := by
  have sp := h.sep
  have kb : ∀ q, q ≠ T → (w.setCell ⟨T, 4, none⟩ (.int .i64 x)).heap[q]? = w.heap[q]? := fun q hq => Below.heap_setCell _ _ _ _ hq
  exact ⟨(h.row.set 4 (.int .i64 x)).congr (fun i hi => by rcases i with _ | _ | _ | _ | _ | i <;> first | rfl | omega), h.m.of_block (kb mb sp.tm.symm), h.f.of_block (fun q hq => kb q (sp.f q hq).1), h.r.of_block (kb gr sp.tr.symm), h.g.of_block (kb gg sp.tg.symm), h.ne, h.bT, h.bm, h.br, h.bg⟩
def stGive (s : TS) (u : K10) (o : Nat) (x : Int) : TS := ⟨putU u s.us, s.fs, addAt s.rm o (-x), addAt s.gn o x, s.lost⟩
set_option maxRecDepth 20000 in
set_option maxHeartbeats 8000000 in
theorem bring_walk (base T mb : Nat) (vf : Value) (gr cr gg cg : Nat) (s : TS) (u : K10) (hr : Rise s.us) (hn : s.us.length ≤ 8) (gu : GU u) (o0 : 0 ≤ u.c1) (o3 : u.c1 ≤ 3) (w : World) (hL : HmAt w) (h : ST w base T mb vf gr cr gg cg s)
    (hq : ((u.c2 != hmX u.c1) = true) ∨ ((u.c2 != hmX u.c1) = false ∧ (u.c3 != hmY u.c1) = true)) :
    Calls Tryz.prog 136 #[.pointer (some ⟨T, 0, none⟩), .agg u.v] w fun e w' => e = .returned (.tuple #[]) ∧ ST w' base T mb vf gr cr gg cg (stPut s (goTo u (hmX u.c1) (hmY u.c1))) ∧ KB base T mb vf gr gg w w' := by
  obtain ⟨W1, HW1, B1, U0, row⟩ := boxU w u
  obtain ⟨b0, b1, b2, b3⟩ := hm_bd u.c1
  have cH := homeOf_i u.c1 o0 o3 W1 (hL.later B1)
  have cS := fun W hS => step_c base T mb vf gr cr gg cg s u (hmX u.c1) (hmY u.c1) hr hn gu b0 b1 b2 b3 W hS
  have H : Hid (ST w base T mb vf gr cr gg cg s) := h
  have hb := h.base
  have HU : Hid (U1 W1 w.heap.size 0 u) := U0
  generalize hmX u.c1 = X at cH cS hq ⊢
  generalize hmY u.c1 = Y at cH cS hq ⊢
  obtain ⟨s0, s1, s2, s3, s4, s5, s6, s7, s8, s9, sl⟩ := U0
  clear h row b0 b1 b2 b3 gu
  rcases hq with q1 | ⟨q1, q2⟩
  all_goals
    go_enter Tryz.func136, Tryz.ntmps136
    go_upto_region 1 with fail
    rw [← HW1.out]
    go_wp2_with fail
    refine cH.mono ?_
    rintro e w2 ⟨rfl, k2⟩
    have U2 := HU.out.later k2
    have k3 : Below w2.heap.size w2 (w2.alloc (.cells (tileV X Y) 179)) := (Below.refl _ _).alloc (Nat.le_refl _) _
    have B3 := (B1.trans (k2.mono B1.size)).trans (k3.mono (B1.trans (k2.mono B1.size)).size)
    clear s0 s1 s2 s3 s4 s5 s6 s7 s8 s9 sl
    obtain ⟨s0, s1, s2, s3, s4, s5, s6, s7, s8, s9, sl⟩ := U2
    go_wp2_with fail
    refine (cS _ (H.out.later B3)).mono ?_
    rintro e w4 ⟨rfl, S4, B4⟩
    go_wp2_with fail
    try simp only [Exit.inBlock, Exit.then]
    refine bodyPost_ret (results_none rfl _ _ _) rfl ?_
    exact ⟨rfl, S4, (KB.of B3 hb).trans B4⟩
end Go.Proofs.YtppgjmpdnpidnaaGreatDoor
end

/- TickImpl4 -/
/- Contracts of the program's parts of ticks: homes, what is brought home. Condition: the state is the call's own; the homes lie in their variable. -/
section
namespace Go.Proofs.YtppgjmpdnpidnaaGreatDoor
open Go.ChangeShapes Go.WideShapes Go.ChangeAt Go.RowKit
open Bd
set_option linter.unusedVariables false

set_option maxRecDepth 20000 in
set_option maxHeartbeats 16000000 in
theorem bring_give (base T mb : Nat) (vf : Value) (gr cr gg cg : Nat) (s : TS) (u : K10) (hr : Rise s.us) (hn : s.us.length ≤ 8) (gu : GU u) (o0 : 0 ≤ u.c1) (o3 : u.c1 ≤ 3) (w : World) (hL : HmAt w) (h : ST w base T mb vf gr cr gg cg s)
    (q1 : (u.c2 != hmX u.c1) = false) (q2 : (u.c3 != hmY u.c1) = false) (room gain : Int) (hrm : s.rm[u.c1.toNat]? = some room) (hgn : s.gn[u.c1.toNat]? = some gain) (r0 : 0 ≤ room) (r1 : room ≤ 1000000) (g0 : 0 ≤ gain) (g1 : gain ≤ 1000000) :
    Calls Tryz.prog 136 #[.pointer (some ⟨T, 0, none⟩), .agg u.v] w fun e w' => e = .returned (.tuple #[]) ∧ ST w' base T mb vf gr cr gg cg (stGive s (carr u (u.c5 - mn u.c5 room)) u.c1.toNat (mn u.c5 room)) ∧ KB base T mb vf gr gg w w' := by
  obtain ⟨W1, HW1, B1, U0, row⟩ := boxU w u
  have cH := homeOf_i u.c1 o0 o3 W1 (hL.later B1)
  have H : Hid (ST w base T mb vf gr cr gg cg s) := h
  have hb := h.base
  have HU : Hid (W1.rowIs w.heap.size 75 10 (fun i => u.v[i]!)) := row
  have HU1 : Hid (U1 W1 w.heap.size 0 u) := U0
  have u0 := gu.c0
  have u1 := gu.c1
  have i0 := gu.i0
  have i1 := gu.i1
  have mb' := mn_bd u.c5 room
  have o4 : u.c1 < 4 := by omega
  have Eg : Hid (s.gn.getD u.c1.toNat 0 = gain) := by show _ = _; rw [List.getD_eq_getElem?_getD, hgn]; rfl
  have Er : Hid (s.rm.getD u.c1.toNat 0 = room) := by show _ = _; rw [List.getD_eq_getElem?_getD, hrm]; rfl
  have Hrm : Hid (s.rm[u.c1.toNat]? = some room) := hrm
  have Hgn : Hid (s.gn[u.c1.toNat]? = some gain) := hgn
  have Hr : Hid (Rise s.us) := hr
  have Hn : Hid (s.us.length ≤ 8) := hn
  generalize hmX u.c1 = X at cH q1
  generalize hmY u.c1 = Y at cH q2
  obtain ⟨s0, s1, s2, s3, s4, s5, s6, s7, s8, s9, sl⟩ := U0
  clear h row hrm hgn gu hr hn
  have HmM : Hid (min u.c5 room = mn u.c5 room) := by show _ = _; unfold mn; omega
  have M0 : 0 ≤ mn u.c5 room := by omega
  generalize mn u.c5 room = M at HmM M0 mb' ⊢
  have W0 := H.out.base
  go_enter Tryz.func136, Tryz.ntmps136
  go_upto_region 1 with fail
  rw [← HW1.out]
  go_wp2_with fail
  refine cH.mono ?_
  rintro e w2 ⟨rfl, k2⟩
  obtain ⟨W3, HW3⟩ : ∃ W3, Hid (W3 = w2.alloc (.cells (tileV X Y) 179)) := ⟨_, rfl⟩
  have k3 : Below w2.heap.size w2 W3 := by rw [HW3.out]; exact (Below.refl _ _).alloc (Nat.le_refl _) _
  have K3 := k2.trans (k3.mono k2.size)
  have B3 := B1.trans (K3.mono B1.size)
  have h1' : W3.cell? ⟨w2.heap.size, 1, none⟩ = some (.int .i64 X) := by rw [HW3.out]; exact cell_new _ _ _ _ _ rfl
  have h2' : W3.cell? ⟨w2.heap.size, 2, none⟩ = some (.int .i64 Y) := by rw [HW3.out]; exact cell_new _ _ _ _ _ rfl
  have hl' : w2.heap.size < W3.heap.size := by rw [HW3.out, size_new]; omega
  have row3 := row_later HU.out K3
  have S3 := H.out.later B3
  clear s0 s1 s2 s3 s4 s5 s6 s7 s8 s9 sl
  go_upto_region 2 with fail
  rw [← HW3.out]
  obtain ⟨s0, s1, s2, s3, s4, s5, s6, s7, s8, s9, sl⟩ := HU1.out.later K3
  obtain ⟨t0, t1, t2, t3, t4, tl⟩ := S3.cells
  have rc := S3.r.cell Hrm.out
  have rl := S3.r.lt
  go_wp2_with fail
  go_quiet (fail)
  revert nq
  intro j
  rw [HmM.out]
  obtain ⟨W5, HW5⟩ : ∃ W5, Hid (W5 = (W3.drewN j).setCell ⟨w.heap.size, 5, none⟩ (.int .i64 (u.c5 - M))) := ⟨_, rfl⟩
  have B5 : Below w.heap.size w W5 := by rw [HW5.out]; exact bel_set (B3.trans ((below_drewN _ _).mono B3.size)) _ _ (Nat.le_refl _) _
  have row5 : W5.rowIs w.heap.size 75 10 (uRow (carr u (u.c5 - M))) := by rw [HW5.out]; exact row_carr (row_later row3 (below_drewN _ j)) (u.c5 - M)
  have U5 : U1 W5 w.heap.size 0 (carr u (u.c5 - M)) := U1.of_v row5
  have S5 := H.out.later B5
  have z5 := row3.frozen 5
  go_upto_region 6 with fail
  rw [← HW5.out]
  clear s0 s1 s2 s3 s4 s5 s6 s7 s8 s9 sl t0 t1 t2 t3 t4 tl rc rl z5 h1' h2' hl'
  obtain ⟨s0, s1, s2, s3, s4, s5, s6, s7, s8, s9, sl⟩ := U5
  obtain ⟨t0, t1, t2, t3, t4, tl⟩ := S5.cells
  have s1' : W5.cell? ⟨w.heap.size, 1, none⟩ = some (.int .i64 u.c1) := s1
  have rc := S5.r.cell Hrm.out
  have rz := S5.r.frozen u.c1.toNat
  have rl := S5.r.lt
  obtain ⟨W6, HW6⟩ : ∃ W6, Hid (W6 = (W5.setCell ⟨gr, u.c1.toNat, none⟩ (.int .i64 (room - M))).drew) := ⟨_, rfl⟩
  have S6 : ST W6 base T mb vf gr cr gg cg ⟨s.us, s.fs, s.rm.set u.c1.toNat (room - M), s.gn, s.lost⟩ := by rw [HW6.out]; exact (S5.setR u.c1.toNat (room - M)).later ((Below.refl _ _).drew)
  have B6 : KB base T mb vf gr gg w W6 := by rw [HW6.out]; exact ((KB.of B5 hb).set gr u.c1.toNat H.out.br (.inr (.inr (.inr (.inl rfl)))) (.int .i64 (room - M))).drew
  have U6 : W6.rowIs w.heap.size 75 10 (uRow (carr u (u.c5 - M))) := by rw [HW6.out]; exact row_later (row_other row5 (a := ⟨gr, u.c1.toNat, none⟩) (by have := H.out.r.lt; show w.heap.size ≠ gr; omega) (.int .i64 (room - M))) ((Below.refl _ _).drew)
  clear s0 s1 s2 s3 s4 s5 s6 s7 s8 s9 t0 t1 t3 t4
  go_region
  all_goals
    rw [← HW6.out]
    clear s1' t2 tl rc rz rl sl
    obtain ⟨t0, t1, t2, t3, t4, tl⟩ := S6.cells
    have s1' : W6.cell? ⟨w.heap.size, 1, none⟩ = some (.int .i64 u.c1) := U6.cell (i := 1) (by omega)
    have sl := U6.lt
    have rc := S6.g.cell Hgn.out
    have rz := S6.g.frozen u.c1.toNat
    have rl := S6.g.lt
    obtain ⟨W7, HW7⟩ : ∃ W7, Hid (W7 = (W6.setCell ⟨gg, u.c1.toNat, none⟩ (.int .i64 (gain + M))).drew) := ⟨_, rfl⟩
    have S7 : ST W7 base T mb vf gr cr gg cg ⟨s.us, s.fs, s.rm.set u.c1.toNat (room - M), s.gn.set u.c1.toNat (gain + M), s.lost⟩ := by rw [HW7.out]; exact (S6.setG u.c1.toNat (gain + M)).later ((Below.refl _ _).drew)
    have B7 : KB base T mb vf gr gg w W7 := by rw [HW7.out]; exact (B6.set gg u.c1.toNat H.out.bg (.inr (.inr (.inr (.inr rfl)))) (.int .i64 (gain + M))).drew
    have U7 : W7.rowIs w.heap.size 75 10 (uRow (carr u (u.c5 - M))) := by rw [HW7.out]; exact row_later (row_other U6 (a := ⟨gg, u.c1.toNat, none⟩) (by have := H.out.g.lt; show w.heap.size ≠ gg; omega) (.int .i64 (gain + M))) ((Below.refl _ _).drew)
    have U7' : U1 W7 w.heap.size 0 (carr u (u.c5 - M)) := U1.of_v U7
    have cP := put_c base T mb vf gr cr gg cg ⟨s.us, s.fs, s.rm.set u.c1.toNat (room - M), s.gn.set u.c1.toNat (gain + M), s.lost⟩ (carr u (u.c5 - M)) Hr.out Hn.out i0 i1 W7 S7
    have E : Hid (stPut ⟨s.us, s.fs, s.rm.set u.c1.toNat (room - M), s.gn.set u.c1.toNat (gain + M), s.lost⟩ (carr u (u.c5 - M)) = stGive s (carr u (u.c5 - M)) u.c1.toNat M) := by show _ = _; unfold stPut stGive addAt; rw [Eg.out, Er.out]; rfl
    rw [E.out] at cP
    clear t0 t1 t2 t4
    go_wp2_with fail
    go_region
    all_goals
      rw [← HW7.out]
      clear s1' t3 tl rc rz rl sl
      obtain ⟨s0, s1, s2, s3, s4, s5, s6, s7, s8, s9, sl⟩ := U7'
      go_wp2_with fail
      refine cP.mono ?_
      rintro e w8 ⟨rfl, S8, B8⟩
      go_wp2_with fail
      go_end0
      exact ⟨rfl, S8, B7.trans B8⟩
end Go.Proofs.YtppgjmpdnpidnaaGreatDoor
end

/- TickImpl5 -/
/- Contracts of the program's parts of ticks: what is taken from a field, a hit. Condition: the state is the call's own. -/
section
namespace Go.Proofs.YtppgjmpdnpidnaaGreatDoor
open Go.ChangeShapes Go.WideShapes Go.ChangeAt Go.RowKit
open Bd
set_option linter.unusedVariables false

theorem ST.setF {w : World} {base T mb gf p cf m' : Nat} {gr cr gg cg : Nat} {s : TS} {f : K3} (h : ST w base T mb (.slice (some ⟨gf, 0, none⟩) m' cf) gr cr gg cg s) (a : AtF w base gf cf p s.fs f) (hm : s.fs.length = m') (x : Int) : ST (w.setCell ⟨gf, p * 3 + 2, none⟩ (.int .i64 x)) base T mb (.slice (some ⟨gf, 0, none⟩) m' cf) gr cr gg cg ⟨s.us, s.fs.set p (leftF f x), s.rm, s.gn, s.lost⟩ := by
  have sp := h.sep
  obtain ⟨n1, n2, n3, n4⟩ := sp.f gf rfl
  have kb : ∀ q, q ≠ gf → (w.setCell ⟨gf, p * 3 + 2, none⟩ (.int .i64 x)).heap[q]? = w.heap[q]? := fun q hq => Below.heap_setCell _ _ _ _ hq
  have a' := (a.set 2 (by omega) x).s
  rw [List.length_set, hm] at a'
  exact ⟨h.row.of_block (kb T n1.symm), h.m.of_block (kb mb n2.symm), a', h.r.of_block (kb gr n3.symm), h.g.of_block (kb gg n4.symm), h.ne, h.bT, h.bm, h.br, h.bg⟩
/- what a state with a field at hand is -/
structure SF (w : World) (base T mb gf p cf m' : Nat) (gr cr gg cg : Nat) (s : TS) (u : K10) (f : K3) : Prop where
  st : ST w base T mb (.slice (some ⟨gf, 0, none⟩) m' cf) gr cr gg cg s
  a : AtF w base gf cf p s.fs f
  m : s.fs.length = m'
  p0 : 0 ≤ u.c9
  hp : u.c9.toNat = p
theorem SF.later {w w' : World} {base T mb gf p cf m' : Nat} {gr cr gg cg : Nat} {s : TS} {u : K10} {f : K3} (h : SF w base T mb gf p cf m' gr cr gg cg s u f) (hb : Below w.heap.size w w') : SF w' base T mb gf p cf m' gr cr gg cg s u f :=
  ⟨h.st.later hb, h.a.of_block (hb.block gf h.a.lt), h.m, h.p0, h.hp⟩
theorem SF.lt {w : World} {base T mb gf p cf m' : Nat} {gr cr gg cg : Nat} {s : TS} {u : K10} {f : K3} (h : SF w base T mb gf p cf m' gr cr gg cg s u f) : u.c9 < (m' : Int) := by
  have := (List.getElem?_eq_some_iff.1 h.a.h).1
  have := h.m; have := h.hp; have := h.p0
  omega
set_option maxRecDepth 20000 in
set_option maxHeartbeats 16000000 in
theorem take_walk (base T mb gf p cf m' : Nat) (gr cr gg cg : Nat) (s : TS) (u : K10) (f : K3) (hr : Rise s.us) (hn : s.us.length ≤ 8) (gu : GU u) (gf' : GF f) (w : World) (h : SF w base T mb gf p cf m' gr cr gg cg s u f)
    (hq : ((u.c2 != f.c0) = true) ∨ ((u.c2 != f.c0) = false ∧ (u.c3 != f.c1) = true)) :
    Calls Tryz.prog 137 #[.pointer (some ⟨T, 0, none⟩), .agg u.v] w fun e w' => e = .returned (.tuple #[]) ∧ ST w' base T mb (.slice (some ⟨gf, 0, none⟩) m' cf) gr cr gg cg (stPut s (goTo u f.c0 f.c1)) ∧ KB base T mb (.slice (some ⟨gf, 0, none⟩) m' cf) gr gg w w' := by
  obtain ⟨W1, HW1, B1, U0, row⟩ := boxU w u
  have cS := fun W hS => step_c base T mb (.slice (some ⟨gf, 0, none⟩) m' cf) gr cr gg cg s u f.c0 f.c1 hr hn gu gf'.x0 gf'.x1 gf'.y0 gf'.y1 W hS
  have H : Hid (SF w base T mb gf p cf m' gr cr gg cg s u f) := h
  have hb := h.st.base
  have h1 := h.later B1
  have HU : Hid (U1 W1 w.heap.size 0 u) := U0
  obtain ⟨s0, s1, s2, s3, s4, s5, s6, s7, s8, s9, sl⟩ := U0
  obtain ⟨t0, t1, t2, t3, t4, tl⟩ := h1.st.cells
  obtain ⟨f0, f1, f2⟩ := h1.a.one
  rw [← h.hp] at f0 f1 f2
  have fl := h1.a.lt
  have p0 := h.p0
  have pl := h.lt
  obtain ⟨W2, HW2⟩ : ∃ W2, Hid (W2 = (W1.alloc (.cells f.v 78)).drew) := ⟨_, rfl⟩
  have k2 : Below W1.heap.size W1 W2 := by rw [HW2.out]; exact ((Below.refl _ _).alloc (Nat.le_refl _) _).drew
  have B2 := B1.trans (k2.mono B1.size)
  have U2 := HU.out.later k2
  have f0' : W2.cell? ⟨W1.heap.size, 0, none⟩ = some (.int .i64 f.c0) := by rw [HW2.out]; exact cell_new _ _ _ _ _ rfl
  have f1' : W2.cell? ⟨W1.heap.size, 1, none⟩ = some (.int .i64 f.c1) := by rw [HW2.out]; exact cell_new _ _ _ _ _ rfl
  have fl' : W1.heap.size < W2.heap.size := by rw [HW2.out]; show _ < (W1.alloc _).heap.size; rw [size_new]; omega
  clear h row h1 gu gf' t0 t2 t3 t4
  rcases hq with q1 | ⟨q1, q2⟩
  all_goals
    go_enter Tryz.func137, Tryz.ntmps137
    go_upto_region 1 with fail
    rw [← HW1.out]
    go_region
    all_goals
      rw [← HW2.out]
      clear s0 s1 s2 s3 s4 s5 s6 s7 s8 s9 sl t1 tl f0 f1 f2 fl
      obtain ⟨s0, s1, s2, s3, s4, s5, s6, s7, s8, s9, sl⟩ := U2
      go_wp2_with fail
      refine (cS _ (H.out.st.later B2)).mono ?_
      rintro e w4 ⟨rfl, S4, B4⟩
      go_wp2_with fail
      try simp only [Exit.inBlock, Exit.then]
      refine bodyPost_ret (results_none rfl _ _ _) rfl ?_
      exact ⟨rfl, S4, (KB.of B2 hb).trans B4⟩
def stTake (s : TS) (u : K10) (p : Nat) (f : K3) (n : Int) : TS := ⟨putU (carr u (u.c5 + n)) s.us, s.fs.set p (leftF f (f.c2 - n)), s.rm, s.gn, s.lost⟩
set_option maxRecDepth 20000 in
set_option maxHeartbeats 16000000 in
theorem take_take (base T mb gf p cf m' : Nat) (gr cr gg cg : Nat) (s : TS) (u : K10) (f : K3) (hr : Rise s.us) (hn : s.us.length ≤ 8) (gu : GU u) (gf' : GF f) (w : World) (h : SF w base T mb gf p cf m' gr cr gg cg s u f)
    (q1 : (u.c2 != f.c0) = false) (q2 : (u.c3 != f.c1) = false) :
    Calls Tryz.prog 137 #[.pointer (some ⟨T, 0, none⟩), .agg u.v] w fun e w' => e = .returned (.tuple #[]) ∧ ST w' base T mb (.slice (some ⟨gf, 0, none⟩) m' cf) gr cr gg cg (stTake s u p f (tkn u f)) ∧ KB base T mb (.slice (some ⟨gf, 0, none⟩) m' cf) gr gg w w' := by
  obtain ⟨W1, HW1, B1, U0, row⟩ := boxU w u
  have H : Hid (SF w base T mb gf p cf m' gr cr gg cg s u f) := h
  have hb := h.st.base
  have h1 := h.later B1
  have HU : Hid (U1 W1 w.heap.size 0 u) := U0
  obtain ⟨s0, s1, s2, s3, s4, s5, s6, s7, s8, s9, sl⟩ := U0
  obtain ⟨t0, t1, t2, t3, t4, tl⟩ := h1.st.cells
  obtain ⟨f0, f1, f2⟩ := h1.a.one
  rw [← h.hp] at f0 f1 f2
  have fl := h1.a.lt
  have p0 := h.p0
  have pl := h.lt
  have tb := tkn_bd gu gf'
  have u0 := gu.c0
  have u1 := gu.c1
  have l0 := gf'.l0
  have l1 := gf'.l1
  have i0 := gu.i0
  have i1 := gu.i1
  have Hr : Hid (Rise s.us) := hr
  have Hn : Hid (s.us.length ≤ 8) := hn
  obtain ⟨W2, HW2⟩ : ∃ W2, Hid (W2 = (W1.alloc (.cells f.v 78)).drew) := ⟨_, rfl⟩
  have k2 : Below W1.heap.size W1 W2 := by rw [HW2.out]; exact ((Below.refl _ _).alloc (Nat.le_refl _) _).drew
  have B2 := B1.trans (k2.mono B1.size)
  have U2 := HU.out.later k2
  have row2 := row_later row k2
  have z5 := row2.frozen 5
  have f0' : W2.cell? ⟨W1.heap.size, 0, none⟩ = some (.int .i64 f.c0) := by rw [HW2.out]; exact cell_new _ _ _ _ _ rfl
  have f1' : W2.cell? ⟨W1.heap.size, 1, none⟩ = some (.int .i64 f.c1) := by rw [HW2.out]; exact cell_new _ _ _ _ _ rfl
  have f2' : W2.cell? ⟨W1.heap.size, 2, none⟩ = some (.int .i64 f.c2) := by rw [HW2.out]; exact cell_new _ _ _ _ _ rfl
  have fl' : W1.heap.size < W2.heap.size := by rw [HW2.out]; show _ < (W1.alloc _).heap.size; rw [size_new]; omega
  clear h row h1 gu gf' t0 t2 t3 t4 hr hn
  have hN : (f.c2 < 5 ∧ 20 - u.c5 < f.c2 ∧ tkn u f = 20 - u.c5) ∨ (f.c2 < 5 ∧ ¬ 20 - u.c5 < f.c2 ∧ tkn u f = f.c2) ∨ (¬ f.c2 < 5 ∧ 20 - u.c5 < 5 ∧ tkn u f = 20 - u.c5) ∨ (¬ f.c2 < 5 ∧ ¬ 20 - u.c5 < 5 ∧ tkn u f = 5) := by
    unfold tkn mn
    omega
  generalize tkn u f = N at tb hN ⊢
  have HN : Hid ((if 20 - u.c5 < (if f.c2 < 5 then f.c2 else 5) then 20 - u.c5 else if f.c2 < 5 then f.c2 else 5) = N) := by show _ = _; omega
  clear hN
  go_enter Tryz.func137, Tryz.ntmps137
  go_upto_region 1 with fail
  rw [← HW1.out]
  go_region
  all_goals
    rw [← HW2.out]
    clear s0 s1 s2 s3 s4 s5 s6 s7 s8 s9 sl t1 tl f0 f1 f2 fl
    obtain ⟨s0, s1, s2, s3, s4, s5, s6, s7, s8, s9, sl⟩ := U2
    go_upto_region 5 with fail
    rw [HN.out]
    obtain ⟨W3, HW3⟩ : ∃ W3, Hid (W3 = W2.setCell ⟨w.heap.size, 5, none⟩ (.int .i64 (u.c5 + N))) := ⟨_, rfl⟩
    have B3 : Below w.heap.size w W3 := by rw [HW3.out]; exact bel_set B2 _ _ (Nat.le_refl _) _
    have row3 : W3.rowIs w.heap.size 75 10 (uRow (carr u (u.c5 + N))) := by rw [HW3.out]; exact row_carr row2 (u.c5 + N)
    have h3 := H.out.later B3
    go_upto_region 6 with fail
    rw [← HW3.out]
    clear s0 s1 s2 s3 s4 s5 s6 s7 s8 s9 sl f0' f1' f2' fl' z5
    have s9' : W3.cell? ⟨w.heap.size, 9, none⟩ = some (.int .i64 u.c9) := row3.cell (i := 9) (by omega)
    have sl := row3.lt
    obtain ⟨t0, t1, t2, t3, t4, tl⟩ := h3.st.cells
    obtain ⟨f0, f1, f2⟩ := h3.a.one
    have fz := h3.a.frozen (p * 3 + 2)
    rw [← H.out.hp] at f0 f1 f2 fz
    have fl := h3.a.lt
    obtain ⟨W4, HW4⟩ : ∃ W4, Hid (W4 = (W3.setCell ⟨gf, u.c9.toNat * 3 + 2, none⟩ (.int .i64 (f.c2 - N))).drew) := ⟨_, rfl⟩
    have S4 : ST W4 base T mb (.slice (some ⟨gf, 0, none⟩) m' cf) gr cr gg cg ⟨s.us, s.fs.set p (leftF f (f.c2 - N)), s.rm, s.gn, s.lost⟩ := by rw [HW4.out, H.out.hp]; exact (h3.st.setF h3.a h3.m (f.c2 - N)).later ((Below.refl _ _).drew)
    have B4 : KB base T mb (.slice (some ⟨gf, 0, none⟩) m' cf) gr gg w W4 := by rw [HW4.out]; exact ((KB.of B3 hb).set gf _ H.out.a.b (.inr (.inr (.inl rfl))) (.int .i64 (f.c2 - N))).drew
    have row4 : W4.rowIs w.heap.size 75 10 (uRow (carr u (u.c5 + N))) := by rw [HW4.out]; exact row_later (row_other row3 (a := ⟨gf, u.c9.toNat * 3 + 2, none⟩) (by have := H.out.a.lt; show w.heap.size ≠ gf; omega) (.int .i64 (f.c2 - N))) ((Below.refl _ _).drew)
    have U4 := U1.of_v row4
    have cP := put_c base T mb (.slice (some ⟨gf, 0, none⟩) m' cf) gr cr gg cg ⟨s.us, s.fs.set p (leftF f (f.c2 - N)), s.rm, s.gn, s.lost⟩ (carr u (u.c5 + N)) Hr.out Hn.out i0 i1 W4 S4
    clear t0 t2 t3 t4
    go_region
    all_goals
      rw [← HW4.out]
      clear s9' sl t1 tl f0 f1 f2 fz fl
      obtain ⟨s0, s1, s2, s3, s4, s5, s6, s7, s8, s9, sl⟩ := U4
      go_wp2_with fail
      refine cP.mono ?_
      rintro e w8 ⟨rfl, S8, B8⟩
      go_wp2_with fail
      go_end0
      exact ⟨rfl, S8, B4.trans B8⟩
/- a map from which a unit is deleted -/
theorem del_all (i : Int) : ∀ (l : List K10), ((l.map ent).filter fun p => !p.1.sameKey (.int .i64 i)) = (delU l i).map ent
  | [] => rfl
  | x :: l => by
    unfold delU
    show List.filter _ (ent x :: l.map ent) = _
    by_cases h : x.c0 = i
    · rw [List.filter_cons_of_neg (by show ¬ (!(Lit.int .i64 x.c0).sameKey (.int .i64 i)) = true; rw [same_int, decide_eq_true h]; simp), List.filter_cons_of_neg (by simp [h])]
      exact del_all i l
    · rw [List.filter_cons_of_pos (by show (!(Lit.int .i64 x.c0).sameKey (.int .i64 i)) = true; rw [same_int, decide_eq_false h]; rfl), List.filter_cons_of_pos (by simp [h])]
      rw [del_all i l]; rfl
theorem MapAt.drop {w : World} {b : Nat} {l : List K10} (h : MapAt w b l) (i : Int) (hw : (Lit.int .i64 i).wf = true) (ty : TypeId) :
    ∃ w', (Builtin.delete_ #[124, 2] ty #[.map (some b), .int .i64 i]).run Tryz.prog w = .ok (.tuple #[]) w' ∧ MapAt w' b (delU l i) ∧ w.grownBy w' (some b) := by
  obtain ⟨w', h1, h2, h3⟩ := World.ownsMap.drop h (Maps.int_keyed Tryz.underlying2) Tryz.underlying124 (Maps.keyOf_int_mk Tryz.underlying2 hw) ty
  refine ⟨w', h1, ?_, ?_⟩
  · obtain ⟨es, clock, g1, F, hs, hD⟩ := h2
    refine ⟨es, clock, g1, F, ?_, ?_⟩
    · have e1 : (delU l i).length = es.size := by
        have e2 : (DataW.map (l.map ent)).del (.int .i64 i) = .map ((delU l i).map ent) := congrArg DataW.map (del_all i l)
        rw [e2] at hD
        have := congrArg (fun d => match d with | DataW.map x => x.length | _ => 0) hD
        simp only at this
        rw [List.length_map, length_sorted] at this
        simpa using this
      omega
    · rw [← hD]; exact (congrArg DataW.map (del_all i l)).symm
  · exact h3.grown
end Go.Proofs.YtppgjmpdnpidnaaGreatDoor
end

/- TickImpl6 -/
/- Contracts of the program's parts of ticks: a hit, the jobs. Condition: the state is the call's own; the homes lie in their variable. -/
section
namespace Go.Proofs.YtppgjmpdnpidnaaGreatDoor
open Go.ChangeShapes Go.WideShapes Go.ChangeAt Go.RowKit
open Bd
set_option linter.unusedVariables false

def stHit (s : TS) (p : K10) : TS := if p.c4 - 7 < 1 then ⟨delU s.us p.c0, s.fs, s.rm, s.gn, s.lost + p.c5⟩ else stPut s (life p (p.c4 - 7))
set_option maxRecDepth 20000 in
set_option maxHeartbeats 16000000 in
theorem hit_c (base T mb : Nat) (vf : Value) (gr cr gg cg : Nat) (s : TS) (u : K10) (hr : Rise s.us) (hn : s.us.length ≤ 8) (gu : GU u) (l0 : 0 ≤ s.lost) (l1 : s.lost ≤ 160) (w : World) (h : ST w base T mb vf gr cr gg cg s) :
    Calls Tryz.prog 139 #[.pointer (some ⟨T, 0, none⟩), .agg u.v] w fun e w' => e = .returned (.tuple #[]) ∧ ST w' base T mb vf gr cr gg cg (stHit s u) ∧ KB base T mb vf gr gg w w' := by
  obtain ⟨W1, HW1, B1, U0, row⟩ := boxU w u
  have H : Hid (ST w base T mb vf gr cr gg cg s) := h
  have hb := h.base
  have i0 := gu.i0
  have i1 := gu.i1
  have k0 := gu.l0
  have k1 := gu.l1
  have c0 := gu.c0
  have c1 := gu.c1
  obtain ⟨W2, HW2⟩ : ∃ W2, Hid (W2 = W1.setCell ⟨w.heap.size, 4, none⟩ (.int .i64 (u.c4 - 7))) := ⟨_, rfl⟩
  have B2 : Below w.heap.size w W2 := by rw [HW2.out]; exact bel_set B1 _ _ (Nat.le_refl _) _
  have row2 : W2.rowIs w.heap.size 75 10 (uRow (life u (u.c4 - 7))) := by rw [HW2.out]; exact row_life row (u.c4 - 7)
  have S2 := h.later B2
  have U2 := U1.of_v row2
  have z4 := row.frozen 4
  obtain ⟨s0, s1, s2, s3, s4, s5, s6, s7, s8, s9, sl⟩ := U0
  clear h gu
  by_cases hl : u.c4 - 7 < 1
  · have eS : stHit s u = ⟨delU s.us u.c0, s.fs, s.rm, s.gn, s.lost + u.c5⟩ := by unfold stHit; rw [if_pos hl]
    rw [eS]
    clear eS
    obtain ⟨t0, t1, t2, t3, t4, tl⟩ := S2.cells
    have tz := S2.row.frozen 4
    have s5' : W2.cell? ⟨w.heap.size, 5, none⟩ = some (.int .i64 u.c5) := row2.cell (i := 5) (by omega)
    have s4' : W2.cell? ⟨w.heap.size, 4, none⟩ = some (.int .i64 (u.c4 - 7)) := row2.cell (i := 4) (by omega)
    have sl2 := row2.lt
    obtain ⟨W3, HW3⟩ : ∃ W3, Hid (W3 = (W2.setCell ⟨T, 4, none⟩ (.int .i64 (s.lost + u.c5))).drew) := ⟨_, rfl⟩
    have S3 : ST W3 base T mb vf gr cr gg cg ⟨s.us, s.fs, s.rm, s.gn, s.lost + u.c5⟩ := by rw [HW3.out]; exact (S2.setL (s.lost + u.c5)).later ((Below.refl _ _).drew)
    have B3 : KB base T mb vf gr gg w W3 := by rw [HW3.out]; exact ((KB.of B2 hb).set T 4 H.out.bT (.inl rfl) (.int .i64 (s.lost + u.c5))).drew
    have row3 : W3.rowIs w.heap.size 75 10 (uRow (life u (u.c4 - 7))) := by rw [HW3.out]; exact row_later (row_other row2 (a := ⟨T, 4, none⟩) (by have := H.out.row.lt; show w.heap.size ≠ T; omega) (.int .i64 (s.lost + u.c5))) ((Below.refl _ _).drew)
    have S3d := S3.later (w' := W3.drew) ((Below.refl _ _).drew)
    obtain ⟨W4, hrun, M4, hg4⟩ := S3d.m.drop u.c0 (wf_int (by omega) (by omega)) 0
    have S4 : ST W4 base T mb vf gr cr gg cg ⟨delU s.us u.c0, s.fs, s.rm, s.gn, s.lost + u.c5⟩ := S3d.turnM hg4 M4
    have B4 : KB base T mb vf gr gg w W4 := B3.drew.grown hg4 (by have := B3.bel.size; show base ≤ W3.heap.size; omega) H.out.bm
    clear t0 t1 t2 t3
    go_enter Tryz.func139, Tryz.ntmps139
    go_upto_region 1 with fail
    rw [← HW1.out]
    go_upto_region 2 with fail
    rw [← HW2.out]
    clear s0 s1 s2 s3 s4 s5 s6 s7 s8 s9 sl z4
    go_wp2_with fail
    go_region
    all_goals
      rw [← HW3.out]
      clear s5' s4' sl2 t4 tl tz
      obtain ⟨t0, t1, t2, t3, t4, tl⟩ := S3.cells
      have s0' : W3.cell? ⟨w.heap.size, 0, none⟩ = some (.int .i64 u.c0) := row3.cell (i := 0) (by omega)
      have sl3 := row3.lt
      clear t1 t2 t3 t4
      go_wp2_with fail
      go_region
      all_goals
        go_wp2_with fail
        try simp only [Exit.inBlock, Exit.then]
        refine bodyPost_ret (results_none rfl _ _ _) rfl ?_
        exact ⟨rfl, S4, B4⟩
  · have eS : stHit s u = stPut s (life u (u.c4 - 7)) := by unfold stHit; rw [if_neg hl]
    rw [eS]
    clear eS
    have hd : decide (u.c4 - 7 < 1) = false := decide_eq_false hl
    have cP := put_c base T mb vf gr cr gg cg s (life u (u.c4 - 7)) hr hn i0 i1 W2 S2
    go_enter Tryz.func139, Tryz.ntmps139
    go_upto_region 1 with fail
    rw [← HW1.out]
    go_upto_region 2 with fail
    rw [← HW2.out]
    clear s0 s1 s2 s3 s4 s5 s6 s7 s8 s9 sl z4
    obtain ⟨s0, s1, s2, s3, s4, s5, s6, s7, s8, s9, sl⟩ := U2
    go_wp2_with fail
    refine cP.mono ?_
    rintro e w8 ⟨rfl, S8, B8⟩
    go_wp2_with fail
    go_end0
    exact ⟨rfl, S8, (KB.of B2 hb).trans B8⟩
end Go.Proofs.YtppgjmpdnpidnaaGreatDoor
end
