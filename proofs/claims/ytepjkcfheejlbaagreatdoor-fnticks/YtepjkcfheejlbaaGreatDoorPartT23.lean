/- Texts of mine put together (a claim holds at most 60 files): TickImpl8, TickImpl9. -/
import Derived.Test.YtepjkcfheejlbaaGreatDoorPartT20
import Derived.Test.YtepjkcfheejlbaaGreatDoorPartT22

/- TickImpl8 -/
/- Contracts of the program's jobs: harvest, attack. Condition: the state is the call's own; the homes lie in their variable. -/
section
namespace Go.Proofs.YtepjkcfheejlbaaGreatDoor
open Go.ChangeShapes Go.WideShapes Go.ChangeAt Go.RowKit
open Bd
set_option linter.unusedVariables false

theorem bringHome_c (base T mb : Nat) (vf : Value) (gr cr gg cg : Nat) (s : TS) (u : K10) (w : World) (hL : HmAt w) (h : ST w base T mb vf gr cr gg cg s) (tg : TG s) (gu : GU u) (ho : u.c1 ≠ 9) :
    Calls Tryz.prog 121 #[.pointer (some ⟨T, 0, none⟩), .agg u.v] w fun e w' => e = .returned (.tuple #[]) ∧ ST w' base T mb vf gr cr gg cg (ofTk s u (tkBring s.us s.fs u (s.rm.getD u.c1.toNat 0))) ∧ KB base T mb vf gr gg w w' := by
  have o' : 0 ≤ u.c1 ∧ u.c1 ≤ 3 := by rcases gu.o with h | h; exact h; exact absurd h ho
  have hk : u.c1.toNat < 4 := by omega
  rcases at2_cases u.c2 u.c3 (hmX u.c1) (hmY u.c1) with ⟨e, n1, n2, _, _⟩ | ⟨e, hn⟩
  · unfold tkBring
    rw [if_pos e, ofTk_give]
    have e1 : s.rm[u.c1.toNat]? = some (s.rm.getD u.c1.toNat 0) := by rw [List.getD_eq_getElem?_getD, List.getElem?_eq_getElem (by rw [tg.rl]; exact hk)]; rfl
    have e2 : s.gn[u.c1.toNat]? = some (s.gn.getD u.c1.toNat 0) := by rw [List.getD_eq_getElem?_getD, List.getElem?_eq_getElem (by rw [tg.gl]; exact hk)]; rfl
    have r := tg.r _ (List.mem_of_getElem? e1)
    have g0 := tg.g _ (List.mem_of_getElem? e2)
    have rg := tg.rg _ hk
    exact bring_give base T mb vf gr cr gg cg s u tg.gd.r tg.gd.n8 gu o'.1 o'.2 w hL h n1 n2 _ _ e1 e2 r.1 r.2 g0 (by omega)
  · unfold tkBring
    rw [if_neg (by rw [e]; simp), ofTk_put]
    refine bring_walk base T mb vf gr cr gg cg s u tg.gd.r tg.gd.n8 gu o'.1 o'.2 w hL h ?_
    rcases hn with ⟨a, _⟩ | ⟨a, b, _, _⟩
    · exact .inl a
    · exact .inr ⟨a, b⟩
theorem harvest_c (base T mb : Nat) (vf : Value) (gr cr gg cg : Nat) (s : TS) (u : K10) (w : World) (hL : HmAt w) (h : HI w base T mb vf gr cr gg cg s u) :
    Calls Tryz.prog 106 #[.pointer (some ⟨T, 0, none⟩), .agg u.v] w fun e w' => e = .returned (.tuple #[]) ∧ ST w' base T mb vf gr cr gg cg (ofTk s u (tkHarv s.us s.fs u (s.rm.getD u.c1.toNat 0))) ∧ KB base T mb vf gr gg w w' := by
  have hr := h.tg.gd.r
  have hn := h.tg.gd.n8
  cases hf : s.fs[u.c9.toNat]? with
  | none =>
    have e : tkHarv s.us s.fs u (s.rm.getD u.c1.toNat 0) = ⟨putU (idle u) s.us, s.fs, 0, 0⟩ := by unfold tkHarv; rw [hf]
    rw [e, ofTk_put]
    exact harv_none base T mb vf gr cr gg cg s u w h hf
  | some f =>
    have gf := h.tg.gd.gf (List.mem_of_getElem? hf)
    obtain ⟨gf', cf, rfl, a⟩ := h.st.f.at hf
    have sf : SF w base T mb gf' u.c9.toNat cf s.fs.length gr cr gg cg s u f := ⟨h.st, a, rfl, h.prey, rfl⟩
    have e : tkHarv s.us s.fs u (s.rm.getD u.c1.toNat 0) = if full u f = true then tkBring s.us s.fs u (s.rm.getD u.c1.toNat 0) else if (f.c2 == 0) = true then ⟨putU (idle u) s.us, s.fs, 0, 0⟩ else tkTake s.us s.fs u f := by unfold tkHarv; rw [hf]
    rcases full_cases_i (u := u) (f := f) with ⟨q, q1⟩ | ⟨q, q0, q1, q2⟩ | ⟨q, q0, q1, q2⟩
    · rw [e, if_pos q]
      exact harv_call base T mb gf' _ cf _ gr cr gg cg s _ u f w sf (.inl ⟨q1, fun W hB => bringHome_c base T mb _ gr cr gg cg s u W (hL.later hB) (h.st.later hB) h.tg h.gu h.ho⟩)
    · rw [e, if_neg (by rw [q]; simp), if_pos q0, ofTk_put]
      exact harv_call base T mb gf' _ cf _ gr cr gg cg s _ u f w sf (.inr (.inl ⟨⟨q0, q1, q2⟩, fun W hB => endJob_c base T mb _ gr cr gg cg s u hr hn h.gu.i0 h.gu.i1 W (h.st.later hB)⟩))
    · rw [e, if_neg (by rw [q]; simp), if_neg (by rw [q0]; simp)]
      unfold tkTake
      rcases at2_cases u.c2 u.c3 f.c0 f.c1 with ⟨a, a1, a2, _, _⟩ | ⟨a, a1⟩
      · rw [if_pos a, ofTk_take]
        exact harv_call base T mb gf' _ cf _ gr cr gg cg s _ u f w sf (.inr (.inr ⟨⟨q0, q1, q2⟩, fun W hB => take_take base T mb gf' _ cf _ gr cr gg cg s u f hr hn h.gu gf W (sf.later hB) a1 a2⟩))
      · rw [if_neg (by rw [a]; simp), ofTk_put]
        refine harv_call base T mb gf' _ cf _ gr cr gg cg s _ u f w sf (.inr (.inr ⟨⟨q0, q1, q2⟩, fun W hB => take_walk base T mb gf' _ cf _ gr cr gg cg s u f hr hn h.gu gf W (sf.later hB) ?_⟩))
        rcases a1 with ⟨b, _⟩ | ⟨b, c, _, _⟩
        · exact .inl b
        · exact .inr ⟨b, c⟩
/- the state and the unit that attacks -/
structure AI (w : World) (base T mb : Nat) (vf : Value) (gr cr gg cg : Nat) (s : TS) (u : K10) : Prop where
  st : ST w base T mb vf gr cr gg cg s
  tg : TG s
  gu : GU u
  p0 : 1 ≤ u.c9
  p1 : u.c9 ≤ 99
/- the rows that the attack makes of what it found -/
structure Made3 (W1 W2 W3 : World) (pb : Nat) (x : K10) : Prop where
  k2 : Below W1.heap.size W1 W2
  k3 : Below W1.heap.size W1 W3
  u : U1 W3 pb 0 x
theorem made3 (W1 : World) (x : K10) : ∃ W2 W3 pb, Hid (W2 = (W1.alloc (.cells x.v 73)).drew) ∧ Hid (W3 = ((W2.alloc (.cells x.v 73)).alloc (.cells x.v 87)).alloc (.cells x.v 87)) ∧ Hid (pb = W2.heap.size + 1 + 1) ∧ Made3 W1 W2 W3 pb x := by
  refine ⟨_, _, _, rfl, rfl, rfl, ?_⟩
  have k2 : Below W1.heap.size W1 (W1.alloc (.cells x.v 73)).drew := ((Below.refl _ _).alloc (Nat.le_refl _) _).drew
  obtain ⟨W2, e⟩ : ∃ W2, W2 = (W1.alloc (.cells x.v 73)).drew := ⟨_, rfl⟩
  rw [← e] at k2 ⊢
  have ha := ((Below.refl W2.heap.size W2).alloc (Nat.le_refl _) (.cells x.v 73))
  have hb := ha.alloc ha.size (.cells x.v 87)
  have hc := hb.alloc hb.size (.cells x.v 87)
  refine ⟨k2, k2.trans (hc.mono k2.size), ?_⟩
  have := U1.new ((W2.alloc (.cells x.v 73)).alloc (.cells x.v 87)) x 87
  rw [size_new, size_new] at this
  exact this
set_option maxRecDepth 20000 in
set_option maxHeartbeats 16000000 in
theorem atk_none (base T mb : Nat) (vf : Value) (gr cr gg cg : Nat) (s : TS) (u : K10) (w : World) (h : AI w base T mb vf gr cr gg cg s u) (hf : findU s.us u.c9 = none) :
    Calls Tryz.prog 107 #[.pointer (some ⟨T, 0, none⟩), .agg u.v] w fun e w' => e = .returned (.tuple #[]) ∧ ST w' base T mb vf gr cr gg cg (stPut s (idle u)) ∧ KB base T mb vf gr gg w w' := by
  obtain ⟨W1, HW1, B1, U0, row⟩ := boxU w u
  obtain ⟨W2, W3, pb, HW2, HW3, Hpb, md⟩ := made3 W1 K10.z
  have hb := h.st.base
  have S1 := h.st.later B1
  have hwf := wf_int (i := u.c9) (by have := h.p0; omega) (by have := h.p1; omega)
  have L1 := S1.m.look u.c9 hwf
  have L2 := (S1.later (w' := W1.drew) ((Below.refl _ _).drew)).m.look u.c9 hwf
  have L3 := (S1.later (w' := (W1.alloc (.cells K10.z.v 73)).drew) (((Below.refl _ _).alloc (Nat.le_refl _) _).drew)).m.look u.c9 hwf
  rw [hf] at L1 L2 L3
  have cU := fun W => unitIn_c K10.z W
  dsimp only [K10.z, K10.v] at L1 L2 L3 HW2 HW3 cU
  have B3 := B1.trans (md.k3.mono B1.size)
  have cE := endJob_c base T mb vf gr cr gg cg s u h.tg.gd.r h.tg.gd.n8 h.gu.i0 h.gu.i1 W3 (h.st.later B3)
  have HU : Hid (U1 W3 w.heap.size 0 u) := U0.later md.k3
  obtain ⟨s0, s1, s2, s3, s4, s5, s6, s7, s8, s9, sl⟩ := U0
  obtain ⟨t0, t1, t2, t3, t4, tl⟩ := S1.cells
  have HP : Hid (U1 W3 pb 0 K10.z) := md.u
  clear h row S1 hf t1 t2 t3 t4 hwf md
  go_enter Tryz.func107, Tryz.ntmps107
  go_upto_region 1 with fail
  rw [← HW1.out]
  go_region
  all_goals
    rw [← HW2.out]
    clear s0 s1 s2 s3 s4 s5 s6 s7 s8 s9 sl t0 tl L1 L2 L3
    have n0 : W2.cell? ⟨W1.heap.size, 0, none⟩ = some (.int .i64 0) := by rw [HW2.out]; exact cell_new _ _ _ _ _ rfl
    have n1 : W2.cell? ⟨W1.heap.size, 1, none⟩ = some (.int .i64 0) := by rw [HW2.out]; exact cell_new _ _ _ _ _ rfl
    have n2 : W2.cell? ⟨W1.heap.size, 2, none⟩ = some (.int .i64 0) := by rw [HW2.out]; exact cell_new _ _ _ _ _ rfl
    have n3 : W2.cell? ⟨W1.heap.size, 3, none⟩ = some (.int .i64 0) := by rw [HW2.out]; exact cell_new _ _ _ _ _ rfl
    have n4 : W2.cell? ⟨W1.heap.size, 4, none⟩ = some (.int .i64 0) := by rw [HW2.out]; exact cell_new _ _ _ _ _ rfl
    have n5 : W2.cell? ⟨W1.heap.size, 5, none⟩ = some (.int .i64 0) := by rw [HW2.out]; exact cell_new _ _ _ _ _ rfl
    have n6 : W2.cell? ⟨W1.heap.size, 6, none⟩ = some (.int .i64 0) := by rw [HW2.out]; exact cell_new _ _ _ _ _ rfl
    have n7 : W2.cell? ⟨W1.heap.size, 7, none⟩ = some (.int .i64 0) := by rw [HW2.out]; exact cell_new _ _ _ _ _ rfl
    have n8 : W2.cell? ⟨W1.heap.size, 8, none⟩ = some (.int .i64 0) := by rw [HW2.out]; exact cell_new _ _ _ _ _ rfl
    have n9 : W2.cell? ⟨W1.heap.size, 9, none⟩ = some (.int .i64 0) := by rw [HW2.out]; exact cell_new _ _ _ _ _ rfl
    go_upto_region 3 with (first | (go_at_call 77; refine (cU _).mono ?_; rintro e w1 ⟨rfl, rfl⟩))
    rw [← HW3.out, ← Hpb.out]
    clear n0 n1 n2 n3 n4 n5 n6 n7 n8 n9
    obtain ⟨s0, s1, s2, s3, s4, s5, s6, s7, s8, s9, sl⟩ := HU.out
    go_wp2_with fail
    refine cE.mono ?_
    rintro e w8 ⟨rfl, S8, B8⟩
    go_wp2_with fail
    try simp only [Exit.inBlock, Exit.then]
    refine bodyPost_ret (results_none rfl _ _ _) rfl ?_
    exact ⟨rfl, S8, (KB.of B3 hb).trans B8⟩
end Go.Proofs.YtepjkcfheejlbaaGreatDoor
end

/- TickImpl9 -/
/- Contracts of the program's attack, of its jobs, of a unit's turn. Condition: the state is the call's own; the homes lie in their variable. -/
section
namespace Go.Proofs.YtepjkcfheejlbaaGreatDoor
open Go.ChangeShapes Go.WideShapes Go.ChangeAt Go.RowKit
open Bd
set_option linter.unusedVariables false

set_option maxRecDepth 20000 in
set_option maxHeartbeats 16000000 in
theorem atk_same (base T mb : Nat) (vf : Value) (gr cr gg cg : Nat) (s : TS) (u x : K10) (w : World) (h : AI w base T mb vf gr cr gg cg s u) (hf : findU s.us u.c9 = some x) (ho : (x.c1 == u.c1) = true) :
    Calls Tryz.prog 107 #[.pointer (some ⟨T, 0, none⟩), .agg u.v] w fun e w' => e = .returned (.tuple #[]) ∧ ST w' base T mb vf gr cr gg cg (stPut s (idle u)) ∧ KB base T mb vf gr gg w w' := by
  obtain ⟨W1, HW1, B1, U0, row⟩ := boxU w u
  obtain ⟨W2, W3, pb, HW2, HW3, Hpb, md⟩ := made3 W1 x
  have hb := h.st.base
  have S1 := h.st.later B1
  have gx := h.tg.gd.gu (find_mem' hf)
  have hwf := wf_int (i := u.c9) (by have := h.p0; omega) (by have := h.p1; omega)
  have L1 := S1.m.look u.c9 hwf
  have L2 := (S1.later (w' := W1.drew) ((Below.refl _ _).drew)).m.look u.c9 hwf
  have L3 := (S1.later (w' := (W1.alloc (.cells K10.z.v 73)).drew) (((Below.refl _ _).alloc (Nat.le_refl _) _).drew)).m.look u.c9 hwf
  rw [hf] at L1 L2 L3
  have cU := fun W => unitIn_c x W
  dsimp only [K10.z, K10.v] at L1 L2 L3
  have B3 := B1.trans (md.k3.mono B1.size)
  have cE := endJob_c base T mb vf gr cr gg cg s u h.tg.gd.r h.tg.gd.n8 h.gu.i0 h.gu.i1 W3 (h.st.later B3)
  have HU : Hid (U1 W3 w.heap.size 0 u) := U0.later md.k3
  have HX : Hid (U1 W2 W1.heap.size 0 x) := by show U1 _ _ _ _; rw [HW2.out]; exact (U1.new W1 x 73).later ((Below.refl _ _).drew)
  obtain ⟨s0, s1, s2, s3, s4, s5, s6, s7, s8, s9, sl⟩ := U0
  obtain ⟨t0, t1, t2, t3, t4, tl⟩ := S1.cells
  have HP : Hid (U1 W3 pb 0 x) := md.u
  clear h row S1 hf t1 t2 t3 t4 hwf md gx
  go_enter Tryz.func107, Tryz.ntmps107
  go_upto_region 1 with fail
  rw [← HW1.out]
  go_region
  all_goals
    rw [← HW2.out]
    clear s0 s1 s2 s3 s4 s5 s6 s7 s8 s9 sl t0 tl L1 L2 L3
    obtain ⟨n0, n1, n2, n3, n4, n5, n6, n7, n8, n9, nl⟩ := HX.out
    go_upto_region 3 with (first | (go_at_call 77; refine (cU _).mono ?_; rintro e w1 ⟨rfl, rfl⟩))
    rw [← HW3.out, ← Hpb.out]
    clear n0 n1 n2 n3 n4 n5 n6 n7 n8 n9 nl
    obtain ⟨s0, s1, s2, s3, s4, s5, s6, s7, s8, s9, sl⟩ := HU.out
    obtain ⟨p0, p1, p2, p3, p4, p5, p6, p7, p8, p9, pl⟩ := HP.out
    go_wp2_with fail
    refine cE.mono ?_
    rintro e w8 ⟨rfl, S8, B8⟩
    go_wp2_with fail
    try simp only [Exit.inBlock, Exit.then]
    refine bodyPost_ret (results_none rfl _ _ _) rfl ?_
    exact ⟨rfl, S8, (KB.of B3 hb).trans B8⟩
set_option maxRecDepth 20000 in
set_option maxHeartbeats 16000000 in
theorem atk_far (base T mb : Nat) (vf : Value) (gr cr gg cg : Nat) (s : TS) (u x : K10) (w : World) (h : AI w base T mb vf gr cr gg cg s u) (hf : findU s.us u.c9 = some x) (ho : (x.c1 == u.c1) = false) (hfar : 1 < far u x) :
    Calls Tryz.prog 107 #[.pointer (some ⟨T, 0, none⟩), .agg u.v] w fun e w' => e = .returned (.tuple #[]) ∧ ST w' base T mb vf gr cr gg cg (stPut s (goTo u x.c2 x.c3)) ∧ KB base T mb vf gr gg w w' := by
  obtain ⟨W1, HW1, B1, U0, row⟩ := boxU w u
  obtain ⟨W2, W3, pb, HW2, HW3, Hpb, md⟩ := made3 W1 x
  have hb := h.st.base
  have S1 := h.st.later B1
  have gx := h.tg.gd.gu (find_mem' hf)
  have hwf := wf_int (i := u.c9) (by have := h.p0; omega) (by have := h.p1; omega)
  have L1 := S1.m.look u.c9 hwf
  have L2 := (S1.later (w' := W1.drew) ((Below.refl _ _).drew)).m.look u.c9 hwf
  have L3 := (S1.later (w' := (W1.alloc (.cells K10.z.v 73)).drew) (((Below.refl _ _).alloc (Nat.le_refl _) _).drew)).m.look u.c9 hwf
  rw [hf] at L1 L2 L3
  have cU := fun W => unitIn_c x W
  dsimp only [K10.z, K10.v] at L1 L2 L3
  have B3 := B1.trans (md.k3.mono B1.size)
  have gu := h.gu
  obtain ⟨e1, _, _, e2⟩ := step_in gu gx.x0 gx.x1 gx.y0 gx.y1
  have cF := fun W => implFarOf u.c2 u.c3 x.c2 x.c3 W
  rw [e1, e2] at cF
  clear e1 e2
  have hfld : ∀ (v : Int) (W : World), (Instr.field 150 (.agg #[.int .i64 0, .int .i64 v]) 1).run Tryz.prog W = .ok (.int .i64 v) W := fun v W => by kernel_rfl
  unfold far at hfar
  generalize Nums.mx (Nums.gap u.c2 x.c2) (Nums.gap u.c3 x.c3) = F at cF hfar
  have cS := fun W hS => step_c base T mb vf gr cr gg cg s u x.c2 x.c3 h.tg.gd.r h.tg.gd.n8 gu gx.x0 gx.x1 gx.y0 gx.y1 W hS
  have k4 : Below W3.heap.size W3 (W3.alloc (.cells #[.int .i64 0, .int .i64 F] 150)) := (Below.refl _ _).alloc (Nat.le_refl _) _
  have B4 := B3.trans (k4.mono B3.size)
  have S4 : Hid (ST (W3.alloc (.cells #[.int .i64 0, .int .i64 F] 150)) base T mb vf gr cr gg cg s) := h.st.later B4
  clear gu
  have HU : Hid (U1 W3 w.heap.size 0 u) := U0.later md.k3
  have HX : Hid (U1 W2 W1.heap.size 0 x) := by show U1 _ _ _ _; rw [HW2.out]; exact (U1.new W1 x 73).later ((Below.refl _ _).drew)
  obtain ⟨s0, s1, s2, s3, s4, s5, s6, s7, s8, s9, sl⟩ := U0
  obtain ⟨t0, t1, t2, t3, t4, tl⟩ := S1.cells
  have HP : Hid (U1 W3 pb 0 x) := md.u
  clear h row S1 hf t1 t2 t3 t4 hwf md gx
  go_enter Tryz.func107, Tryz.ntmps107
  go_upto_region 1 with fail
  rw [← HW1.out]
  go_region
  all_goals
    rw [← HW2.out]
    clear s0 s1 s2 s3 s4 s5 s6 s7 s8 s9 sl t0 tl L1 L2 L3
    obtain ⟨n0, n1, n2, n3, n4, n5, n6, n7, n8, n9, nl⟩ := HX.out
    go_upto_region 3 with (first | (go_at_call 77; refine (cU _).mono ?_; rintro e w1 ⟨rfl, rfl⟩))
    rw [← HW3.out, ← Hpb.out]
    clear n0 n1 n2 n3 n4 n5 n6 n7 n8 n9 nl
    obtain ⟨s0, s1, s2, s3, s4, s5, s6, s7, s8, s9, sl⟩ := HU.out
    obtain ⟨p0, p1, p2, p3, p4, p5, p6, p7, p8, p9, pl⟩ := HP.out
    go_wp2_with (first | (go_at_call 123; refine (cF _).mono ?_; rintro e w1 ⟨rfl, rfl⟩))
    refine (cS _ S4.out).mono ?_
    rintro e w8 ⟨rfl, S8, B8⟩
    go_wp2_with fail
    try simp only [Exit.inBlock, Exit.then]
    refine bodyPost_ret (results_none rfl _ _ _) rfl ?_
    exact ⟨rfl, S8, (KB.of B4 hb).trans B8⟩
set_option maxRecDepth 20000 in
set_option maxHeartbeats 16000000 in
theorem atk_hit (base T mb : Nat) (vf : Value) (gr cr gg cg : Nat) (s : TS) (u x : K10) (w : World) (h : AI w base T mb vf gr cr gg cg s u) (hf : findU s.us u.c9 = some x) (ho : (x.c1 == u.c1) = false) (hfar : ¬ 1 < far u x) :
    Calls Tryz.prog 107 #[.pointer (some ⟨T, 0, none⟩), .agg u.v] w fun e w' => e = .returned (.tuple #[]) ∧ ST w' base T mb vf gr cr gg cg (stHit s x) ∧ KB base T mb vf gr gg w w' := by
  obtain ⟨W1, HW1, B1, U0, row⟩ := boxU w u
  obtain ⟨W2, W3, pb, HW2, HW3, Hpb, md⟩ := made3 W1 x
  have hb := h.st.base
  have S1 := h.st.later B1
  have gx := h.tg.gd.gu (find_mem' hf)
  have hwf := wf_int (i := u.c9) (by have := h.p0; omega) (by have := h.p1; omega)
  have L1 := S1.m.look u.c9 hwf
  have L2 := (S1.later (w' := W1.drew) ((Below.refl _ _).drew)).m.look u.c9 hwf
  have L3 := (S1.later (w' := (W1.alloc (.cells K10.z.v 73)).drew) (((Below.refl _ _).alloc (Nat.le_refl _) _).drew)).m.look u.c9 hwf
  rw [hf] at L1 L2 L3
  have cU := fun W => unitIn_c x W
  dsimp only [K10.z, K10.v] at L1 L2 L3
  have B3 := B1.trans (md.k3.mono B1.size)
  have gu := h.gu
  obtain ⟨e1, _, _, e2⟩ := step_in gu gx.x0 gx.x1 gx.y0 gx.y1
  have cF := fun W => implFarOf u.c2 u.c3 x.c2 x.c3 W
  rw [e1, e2] at cF
  clear e1 e2
  have hfld : ∀ (v : Int) (W : World), (Instr.field 150 (.agg #[.int .i64 0, .int .i64 v]) 1).run Tryz.prog W = .ok (.int .i64 v) W := fun v W => by kernel_rfl
  have hfar' : decide (1 < far u x) = false := decide_eq_false hfar
  clear hfar
  unfold far at hfar'
  generalize Nums.mx (Nums.gap u.c2 x.c2) (Nums.gap u.c3 x.c3) = F at cF hfar'
  have cS := fun W hS => hit_c base T mb vf gr cr gg cg s x h.tg.gd.r h.tg.gd.n8 gx h.tg.l0 (by have := h.tg.l1; omega) W hS
  have k4 : Below W3.heap.size W3 (W3.alloc (.cells #[.int .i64 0, .int .i64 F] 150)) := (Below.refl _ _).alloc (Nat.le_refl _) _
  have B4 := B3.trans (k4.mono B3.size)
  have S4 : Hid (ST (W3.alloc (.cells #[.int .i64 0, .int .i64 F] 150)) base T mb vf gr cr gg cg s) := h.st.later B4
  clear gu
  have HU : Hid (U1 W3 w.heap.size 0 u) := U0.later md.k3
  have HX : Hid (U1 W2 W1.heap.size 0 x) := by show U1 _ _ _ _; rw [HW2.out]; exact (U1.new W1 x 73).later ((Below.refl _ _).drew)
  obtain ⟨s0, s1, s2, s3, s4, s5, s6, s7, s8, s9, sl⟩ := U0
  obtain ⟨t0, t1, t2, t3, t4, tl⟩ := S1.cells
  have HP : Hid (U1 W3 pb 0 x) := md.u
  clear h row S1 hf t1 t2 t3 t4 hwf md gx
  go_enter Tryz.func107, Tryz.ntmps107
  go_upto_region 1 with fail
  rw [← HW1.out]
  go_region
  all_goals
    rw [← HW2.out]
    clear s0 s1 s2 s3 s4 s5 s6 s7 s8 s9 sl t0 tl L1 L2 L3
    obtain ⟨n0, n1, n2, n3, n4, n5, n6, n7, n8, n9, nl⟩ := HX.out
    go_upto_region 3 with (first | (go_at_call 77; refine (cU _).mono ?_; rintro e w1 ⟨rfl, rfl⟩))
    rw [← HW3.out, ← Hpb.out]
    clear n0 n1 n2 n3 n4 n5 n6 n7 n8 n9 nl
    obtain ⟨s0, s1, s2, s3, s4, s5, s6, s7, s8, s9, sl⟩ := HU.out
    obtain ⟨p0, p1, p2, p3, p4, p5, p6, p7, p8, p9, pl⟩ := HP.out
    go_wp2_with (first | (go_at_call 123; refine (cF _).mono ?_; rintro e w1 ⟨rfl, rfl⟩))
    refine (cS _ S4.out).mono ?_
    rintro e w8 ⟨rfl, S8, B8⟩
    go_wp2_with fail
    go_end0
    exact ⟨rfl, S8, (KB.of B4 hb).trans B8⟩
theorem attack_c (base T mb : Nat) (vf : Value) (gr cr gg cg : Nat) (s : TS) (u : K10) (w : World) (h : AI w base T mb vf gr cr gg cg s u) :
    Calls Tryz.prog 107 #[.pointer (some ⟨T, 0, none⟩), .agg u.v] w fun e w' => e = .returned (.tuple #[]) ∧ ST w' base T mb vf gr cr gg cg (ofTk s u (tkAtk s.us s.fs u)) ∧ KB base T mb vf gr gg w w' := by
  cases hf : findU s.us u.c9 with
  | none =>
    have e : tkAtk s.us s.fs u = ⟨putU (idle u) s.us, s.fs, 0, 0⟩ := by unfold tkAtk; rw [hf]
    rw [e, ofTk_put]
    exact atk_none base T mb vf gr cr gg cg s u w h hf
  | some p =>
    have e : tkAtk s.us s.fs u = if (p.c1 == u.c1) = true then ⟨putU (idle u) s.us, s.fs, 0, 0⟩ else if 1 < far u p then ⟨putU (goTo u p.c2 p.c3) s.us, s.fs, 0, 0⟩ else tkHit s.us s.fs p := by unfold tkAtk; rw [hf]
    rw [e]
    cases ho : p.c1 == u.c1
    · rw [if_neg (by simp)]
      by_cases hfar : 1 < far u p
      · rw [if_pos hfar, ofTk_put]
        exact atk_far base T mb vf gr cr gg cg s u p w h hf ho hfar
      · rw [if_neg hfar, ofTk_hit]
        exact atk_hit base T mb vf gr cr gg cg s u p w h hf ho hfar
    · rw [if_pos rfl, ofTk_put]
      exact atk_same base T mb vf gr cr gg cg s u p w h hf ho
theorem rest_c (T : Nat) (u : K10) (w : World) : Calls Tryz.prog 104 #[.pointer (some ⟨T, 0, none⟩), .agg u.v] w fun e w' => e = .returned (.tuple #[]) ∧ Below w.heap.size w w' := by
  have B1 : Below w.heap.size w (w.alloc (.cells u.v 87)) := (Below.refl _ _).alloc (Nat.le_refl _) _
  go_enter Tryz.func104, Tryz.ntmps104
  go_wp2
  go_end0
  exact ⟨rfl, B1⟩
def jobF (u : K10) : Nat := if u.c1 = 9 then 104 else if u.c6 = 1 then 105 else if u.c6 = 2 then 106 else if u.c6 = 3 then 107 else 104
set_option maxHeartbeats 4000000 in
theorem jobOf_c (u : K10) (w : World) : Calls Tryz.prog 78 #[.agg u.v] w fun e w' => e = .returned (.func (.func (jobF u)) #[] #[]) ∧ Below w.heap.size w w' := by
  have B1 : Below w.heap.size w (w.alloc (.cells u.v 87)) := (Below.refl _ _).alloc (Nat.le_refl _) _
  obtain ⟨J, HJ⟩ : ∃ J, Hid (jobF u = J) := ⟨_, rfl⟩
  rw [HJ.out]
  have hJ := HJ.out
  unfold jobF at hJ
  by_cases h9 : u.c1 = 9
  · rw [if_pos h9] at hJ
    subst hJ
    have q : (u.c1 == 9) = true := by simp [h9]
    clear h9 HJ
    go_enter Tryz.func78, Tryz.ntmps78
    go_wp2
    go_ret
    exact ⟨rfl, B1⟩
  · rw [if_neg h9] at hJ
    have q : (u.c1 == 9) = false := by simpa using h9
    clear h9
    by_cases j1 : u.c6 = 1
    · rw [if_pos j1] at hJ
      subst hJ
      have q1 : (u.c6 == 1) = true := by simp [j1]
      clear j1 HJ
      go_enter Tryz.func78, Tryz.ntmps78
      go_wp2
      go_ret
      exact ⟨rfl, B1⟩
    rw [if_neg j1] at hJ
    have q1 : (u.c6 == 1) = false := by simpa using j1
    clear j1
    by_cases j2 : u.c6 = 2
    · rw [if_pos j2] at hJ
      subst hJ
      have q2 : (u.c6 == 2) = true := by simp [j2]
      clear j2 HJ
      go_enter Tryz.func78, Tryz.ntmps78
      go_wp2
      go_ret
      exact ⟨rfl, B1⟩
    rw [if_neg j2] at hJ
    have q2 : (u.c6 == 2) = false := by simpa using j2
    clear j2
    by_cases j3 : u.c6 = 3
    · rw [if_pos j3] at hJ
      subst hJ
      have q3 : (u.c6 == 3) = true := by simp [j3]
      clear j3 HJ
      go_enter Tryz.func78, Tryz.ntmps78
      go_wp2
      go_ret
      exact ⟨rfl, B1⟩
    rw [if_neg j3] at hJ
    subst hJ
    have q3 : (u.c6 == 3) = false := by simpa using j3
    clear j3 HJ
    go_enter Tryz.func78, Tryz.ntmps78
    go_wp2
    go_ret
    exact ⟨rfl, B1⟩
end Go.Proofs.YtepjkcfheejlbaaGreatDoor
end
