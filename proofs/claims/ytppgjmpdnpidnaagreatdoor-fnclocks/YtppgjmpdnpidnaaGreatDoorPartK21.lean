/- Texts of mine put together (a claim holds at most 60 files): TickImpl9, TickImpl10, TickSpec7. -/
import Derived.Test.YtppgjmpdnpidnaaGreatDoorPartK20

/- TickImpl9 -/
/- Contracts of the program's attack, of its jobs, of a unit's turn. Condition: the state is the call's own; the homes lie in their variable. -/
section
namespace Go.Proofs.YtppgjmpdnpidnaaGreatDoor
open Go.ChangeShapes Go.WideShapes Go.ChangeAt Go.RowKit
open Bd
set_option linter.unusedVariables false

set_option maxRecDepth 20000 in
set_option maxHeartbeats 16000000 in
theorem atk_same (base T mb : Nat) (vf : Value) (gr cr gg cg : Nat) (s : TS) (u x : K10) (w : World) (h : AI w base T mb vf gr cr gg cg s u) (hf : findU s.us u.c9 = some x) (ho : (x.c1 == u.c1) = true) :
    Calls Tryz.prog 121 #[.pointer (some ⟨T, 0, none⟩), .agg u.v] w fun e w' => e = .returned (.tuple #[]) ∧ ST w' base T mb vf gr cr gg cg (stPut s (idle u)) ∧ KB base T mb vf gr gg w w' := by
  obtain ⟨W1, HW1, B1, U0, row⟩ := boxU w u
  obtain ⟨W2, W3, pb, HW2, HW3, Hpb, md⟩ := made3 W1 x
  have hb := h.st.base
  have S1 := h.st.later B1
  have gx := h.tg.gd.gu (find_mem' hf)
  have hwf := wf_int (i := u.c9) (by have := h.p0; omega) (by have := h.p1; omega)
  have L1 := S1.m.look u.c9 hwf
  have L2 := (S1.later (w' := W1.drew) ((Below.refl _ _).drew)).m.look u.c9 hwf
  have L3 := (S1.later (w' := (W1.alloc (.cells K10.z.v 133)).drew) (((Below.refl _ _).alloc (Nat.le_refl _) _).drew)).m.look u.c9 hwf
  rw [hf] at L1 L2 L3
  have cU := fun W => unitIn_c x W
  dsimp only [K10.z, K10.v] at L1 L2 L3
  have B3 := B1.trans (md.k3.mono B1.size)
  have cE := endJob_c base T mb vf gr cr gg cg s u h.tg.gd.r h.tg.gd.n8 h.gu.i0 h.gu.i1 W3 (h.st.later B3)
  have HU : Hid (U1 W3 w.heap.size 0 u) := U0.later md.k3
  have HX : Hid (U1 W2 W1.heap.size 0 x) := by show U1 _ _ _ _; rw [HW2.out]; exact (U1.new W1 x 133).later ((Below.refl _ _).drew)
  obtain ⟨s0, s1, s2, s3, s4, s5, s6, s7, s8, s9, sl⟩ := U0
  obtain ⟨t0, t1, t2, t3, t4, tl⟩ := S1.cells
  have HP : Hid (U1 W3 pb 0 x) := md.u
  clear h row S1 hf t1 t2 t3 t4 hwf md gx
  go_enter Tryz.func121, Tryz.ntmps121
  go_upto_region 1 with fail
  rw [← HW1.out]
  go_region
  all_goals
    rw [← HW2.out]
    clear s0 s1 s2 s3 s4 s5 s6 s7 s8 s9 sl t0 tl L1 L2 L3
    obtain ⟨n0, n1, n2, n3, n4, n5, n6, n7, n8, n9, nl⟩ := HX.out
    go_upto_region 3 with (first | (go_at_call 109; refine (cU _).mono ?_; rintro e w1 ⟨rfl, rfl⟩))
    rw [← HW3.out, ← Hpb.out]
    clear n0 n1 n2 n3 n4 n5 n6 n7 n8 n9 nl
    obtain ⟨s0, s1, s2, s3, s4, s5, s6, s7, s8, s9, sl⟩ := HU.out
    obtain ⟨p0, p1, p2, p3, p4, p5, p6, p7, p8, p9, pl⟩ := HP.out
    go_wp2_with fail
    refine cE.mono ?_
    rintro e w8 ⟨rfl, S8, B8⟩
    go_wp2_with fail
    try simp only [Exit.inBlock, Exit.then]
    refine bodyPost_ret (results_none rfl _ _ _) rfl ?_
    exact ⟨rfl, S8, (KB.of B3 hb).trans B8⟩
set_option maxRecDepth 20000 in
set_option maxHeartbeats 16000000 in
theorem atk_far (base T mb : Nat) (vf : Value) (gr cr gg cg : Nat) (s : TS) (u x : K10) (w : World) (h : AI w base T mb vf gr cr gg cg s u) (hf : findU s.us u.c9 = some x) (ho : (x.c1 == u.c1) = false) (hfar : 1 < far u x) :
    Calls Tryz.prog 121 #[.pointer (some ⟨T, 0, none⟩), .agg u.v] w fun e w' => e = .returned (.tuple #[]) ∧ ST w' base T mb vf gr cr gg cg (stPut s (goTo u x.c2 x.c3)) ∧ KB base T mb vf gr gg w w' := by
  obtain ⟨W1, HW1, B1, U0, row⟩ := boxU w u
  obtain ⟨W2, W3, pb, HW2, HW3, Hpb, md⟩ := made3 W1 x
  have hb := h.st.base
  have S1 := h.st.later B1
  have gx := h.tg.gd.gu (find_mem' hf)
  have hwf := wf_int (i := u.c9) (by have := h.p0; omega) (by have := h.p1; omega)
  have L1 := S1.m.look u.c9 hwf
  have L2 := (S1.later (w' := W1.drew) ((Below.refl _ _).drew)).m.look u.c9 hwf
  have L3 := (S1.later (w' := (W1.alloc (.cells K10.z.v 133)).drew) (((Below.refl _ _).alloc (Nat.le_refl _) _).drew)).m.look u.c9 hwf
  rw [hf] at L1 L2 L3
  have cU := fun W => unitIn_c x W
  dsimp only [K10.z, K10.v] at L1 L2 L3
  have B3 := B1.trans (md.k3.mono B1.size)
  have gu := h.gu
  obtain ⟨e1, _, _, e2⟩ := step_in gu gx.x0 gx.x1 gx.y0 gx.y1
  have cF := fun W => implFarOf u.c2 u.c3 x.c2 x.c3 W
  rw [e1, e2] at cF
  clear e1 e2
  have hfld : ∀ (v : Int) (W : World), (Instr.field 44 (.agg #[.int .i64 0, .int .i64 v]) 1).run Tryz.prog W = .ok (.int .i64 v) W := fun v W => by kernel_rfl
  unfold far at hfar
  generalize Nums.mx (Nums.gap u.c2 x.c2) (Nums.gap u.c3 x.c3) = F at cF hfar
  have cS := fun W hS => step_c base T mb vf gr cr gg cg s u x.c2 x.c3 h.tg.gd.r h.tg.gd.n8 gu gx.x0 gx.x1 gx.y0 gx.y1 W hS
  have k4 : Below W3.heap.size W3 (W3.alloc (.cells #[.int .i64 0, .int .i64 F] 44)) := (Below.refl _ _).alloc (Nat.le_refl _) _
  have B4 := B3.trans (k4.mono B3.size)
  have S4 : Hid (ST (W3.alloc (.cells #[.int .i64 0, .int .i64 F] 44)) base T mb vf gr cr gg cg s) := h.st.later B4
  clear gu
  have HU : Hid (U1 W3 w.heap.size 0 u) := U0.later md.k3
  have HX : Hid (U1 W2 W1.heap.size 0 x) := by show U1 _ _ _ _; rw [HW2.out]; exact (U1.new W1 x 133).later ((Below.refl _ _).drew)
  obtain ⟨s0, s1, s2, s3, s4, s5, s6, s7, s8, s9, sl⟩ := U0
  obtain ⟨t0, t1, t2, t3, t4, tl⟩ := S1.cells
  have HP : Hid (U1 W3 pb 0 x) := md.u
  clear h row S1 hf t1 t2 t3 t4 hwf md gx
  go_enter Tryz.func121, Tryz.ntmps121
  go_upto_region 1 with fail
  rw [← HW1.out]
  go_region
  all_goals
    rw [← HW2.out]
    clear s0 s1 s2 s3 s4 s5 s6 s7 s8 s9 sl t0 tl L1 L2 L3
    obtain ⟨n0, n1, n2, n3, n4, n5, n6, n7, n8, n9, nl⟩ := HX.out
    go_upto_region 3 with (first | (go_at_call 109; refine (cU _).mono ?_; rintro e w1 ⟨rfl, rfl⟩))
    rw [← HW3.out, ← Hpb.out]
    clear n0 n1 n2 n3 n4 n5 n6 n7 n8 n9 nl
    obtain ⟨s0, s1, s2, s3, s4, s5, s6, s7, s8, s9, sl⟩ := HU.out
    obtain ⟨p0, p1, p2, p3, p4, p5, p6, p7, p8, p9, pl⟩ := HP.out
    go_wp2_with (first | (go_at_call 138; refine (cF _).mono ?_; rintro e w1 ⟨rfl, rfl⟩))
    refine (cS _ S4.out).mono ?_
    rintro e w8 ⟨rfl, S8, B8⟩
    go_wp2_with fail
    try simp only [Exit.inBlock, Exit.then]
    refine bodyPost_ret (results_none rfl _ _ _) rfl ?_
    exact ⟨rfl, S8, (KB.of B4 hb).trans B8⟩
set_option maxRecDepth 20000 in
set_option maxHeartbeats 16000000 in
theorem atk_hit (base T mb : Nat) (vf : Value) (gr cr gg cg : Nat) (s : TS) (u x : K10) (w : World) (h : AI w base T mb vf gr cr gg cg s u) (hf : findU s.us u.c9 = some x) (ho : (x.c1 == u.c1) = false) (hfar : ¬ 1 < far u x) :
    Calls Tryz.prog 121 #[.pointer (some ⟨T, 0, none⟩), .agg u.v] w fun e w' => e = .returned (.tuple #[]) ∧ ST w' base T mb vf gr cr gg cg (stHit s x) ∧ KB base T mb vf gr gg w w' := by
  obtain ⟨W1, HW1, B1, U0, row⟩ := boxU w u
  obtain ⟨W2, W3, pb, HW2, HW3, Hpb, md⟩ := made3 W1 x
  have hb := h.st.base
  have S1 := h.st.later B1
  have gx := h.tg.gd.gu (find_mem' hf)
  have hwf := wf_int (i := u.c9) (by have := h.p0; omega) (by have := h.p1; omega)
  have L1 := S1.m.look u.c9 hwf
  have L2 := (S1.later (w' := W1.drew) ((Below.refl _ _).drew)).m.look u.c9 hwf
  have L3 := (S1.later (w' := (W1.alloc (.cells K10.z.v 133)).drew) (((Below.refl _ _).alloc (Nat.le_refl _) _).drew)).m.look u.c9 hwf
  rw [hf] at L1 L2 L3
  have cU := fun W => unitIn_c x W
  dsimp only [K10.z, K10.v] at L1 L2 L3
  have B3 := B1.trans (md.k3.mono B1.size)
  have gu := h.gu
  obtain ⟨e1, _, _, e2⟩ := step_in gu gx.x0 gx.x1 gx.y0 gx.y1
  have cF := fun W => implFarOf u.c2 u.c3 x.c2 x.c3 W
  rw [e1, e2] at cF
  clear e1 e2
  have hfld : ∀ (v : Int) (W : World), (Instr.field 44 (.agg #[.int .i64 0, .int .i64 v]) 1).run Tryz.prog W = .ok (.int .i64 v) W := fun v W => by kernel_rfl
  have hfar' : decide (1 < far u x) = false := decide_eq_false hfar
  clear hfar
  unfold far at hfar'
  generalize Nums.mx (Nums.gap u.c2 x.c2) (Nums.gap u.c3 x.c3) = F at cF hfar'
  have cS := fun W hS => hit_c base T mb vf gr cr gg cg s x h.tg.gd.r h.tg.gd.n8 gx h.tg.l0 (by have := h.tg.l1; omega) W hS
  have k4 : Below W3.heap.size W3 (W3.alloc (.cells #[.int .i64 0, .int .i64 F] 44)) := (Below.refl _ _).alloc (Nat.le_refl _) _
  have B4 := B3.trans (k4.mono B3.size)
  have S4 : Hid (ST (W3.alloc (.cells #[.int .i64 0, .int .i64 F] 44)) base T mb vf gr cr gg cg s) := h.st.later B4
  clear gu
  have HU : Hid (U1 W3 w.heap.size 0 u) := U0.later md.k3
  have HX : Hid (U1 W2 W1.heap.size 0 x) := by show U1 _ _ _ _; rw [HW2.out]; exact (U1.new W1 x 133).later ((Below.refl _ _).drew)
  obtain ⟨s0, s1, s2, s3, s4, s5, s6, s7, s8, s9, sl⟩ := U0
  obtain ⟨t0, t1, t2, t3, t4, tl⟩ := S1.cells
  have HP : Hid (U1 W3 pb 0 x) := md.u
  clear h row S1 hf t1 t2 t3 t4 hwf md gx
  go_enter Tryz.func121, Tryz.ntmps121
  go_upto_region 1 with fail
  rw [← HW1.out]
  go_region
  all_goals
    rw [← HW2.out]
    clear s0 s1 s2 s3 s4 s5 s6 s7 s8 s9 sl t0 tl L1 L2 L3
    obtain ⟨n0, n1, n2, n3, n4, n5, n6, n7, n8, n9, nl⟩ := HX.out
    go_upto_region 3 with (first | (go_at_call 109; refine (cU _).mono ?_; rintro e w1 ⟨rfl, rfl⟩))
    rw [← HW3.out, ← Hpb.out]
    clear n0 n1 n2 n3 n4 n5 n6 n7 n8 n9 nl
    obtain ⟨s0, s1, s2, s3, s4, s5, s6, s7, s8, s9, sl⟩ := HU.out
    obtain ⟨p0, p1, p2, p3, p4, p5, p6, p7, p8, p9, pl⟩ := HP.out
    go_wp2_with (first | (go_at_call 138; refine (cF _).mono ?_; rintro e w1 ⟨rfl, rfl⟩))
    refine (cS _ S4.out).mono ?_
    rintro e w8 ⟨rfl, S8, B8⟩
    go_wp2_with fail
    go_end0
    exact ⟨rfl, S8, (KB.of B4 hb).trans B8⟩
theorem attack_c (base T mb : Nat) (vf : Value) (gr cr gg cg : Nat) (s : TS) (u : K10) (w : World) (h : AI w base T mb vf gr cr gg cg s u) :
    Calls Tryz.prog 121 #[.pointer (some ⟨T, 0, none⟩), .agg u.v] w fun e w' => e = .returned (.tuple #[]) ∧ ST w' base T mb vf gr cr gg cg (ofTk s u (tkAtk s.us s.fs u)) ∧ KB base T mb vf gr gg w w' := by
  cases hf : findU s.us u.c9 with
  | none =>
    have e : tkAtk s.us s.fs u = ⟨putU (idle u) s.us, s.fs, 0, 0⟩ := by unfold tkAtk; rw [hf]
    rw [e, ofTk_put]
    exact atk_none base T mb vf gr cr gg cg s u w h hf
  | some p =>
    have e : tkAtk s.us s.fs u = if (p.c1 == u.c1) = true then ⟨putU (idle u) s.us, s.fs, 0, 0⟩ else if 1 < far u p then ⟨putU (goTo u p.c2 p.c3) s.us, s.fs, 0, 0⟩ else tkHit s.us s.fs p := by unfold tkAtk; rw [hf]
    rw [e]
    cases ho : p.c1 == u.c1
    · rw [if_neg (by simp)]
      by_cases hfar : 1 < far u p
      · rw [if_pos hfar, ofTk_put]
        exact atk_far base T mb vf gr cr gg cg s u p w h hf ho hfar
      · rw [if_neg hfar, ofTk_hit]
        exact atk_hit base T mb vf gr cr gg cg s u p w h hf ho hfar
    · rw [if_pos rfl, ofTk_put]
      exact atk_same base T mb vf gr cr gg cg s u p w h hf ho
theorem rest_c (T : Nat) (u : K10) (w : World) : Calls Tryz.prog 118 #[.pointer (some ⟨T, 0, none⟩), .agg u.v] w fun e w' => e = .returned (.tuple #[]) ∧ Below w.heap.size w w' := by
  have B1 : Below w.heap.size w (w.alloc (.cells u.v 75)) := (Below.refl _ _).alloc (Nat.le_refl _) _
  go_enter Tryz.func118, Tryz.ntmps118
  go_wp2
  go_end0
  exact ⟨rfl, B1⟩
def jobF (u : K10) : Nat := if u.c1 = 9 then 118 else if u.c6 = 1 then 119 else if u.c6 = 2 then 120 else if u.c6 = 3 then 121 else 118
set_option maxHeartbeats 4000000 in
theorem jobOf_c (u : K10) (w : World) : Calls Tryz.prog 110 #[.agg u.v] w fun e w' => e = .returned (.func (.func (jobF u)) #[] #[]) ∧ Below w.heap.size w w' := by
  have B1 : Below w.heap.size w (w.alloc (.cells u.v 75)) := (Below.refl _ _).alloc (Nat.le_refl _) _
  obtain ⟨J, HJ⟩ : ∃ J, Hid (jobF u = J) := ⟨_, rfl⟩
  rw [HJ.out]
  have hJ := HJ.out
  unfold jobF at hJ
  by_cases h9 : u.c1 = 9
  · rw [if_pos h9] at hJ
    subst hJ
    have q : (u.c1 == 9) = true := by simp [h9]
    clear h9 HJ
    go_enter Tryz.func110, Tryz.ntmps110
    go_wp2
    go_ret
    exact ⟨rfl, B1⟩
  · rw [if_neg h9] at hJ
    have q : (u.c1 == 9) = false := by simpa using h9
    clear h9
    by_cases j1 : u.c6 = 1
    · rw [if_pos j1] at hJ
      subst hJ
      have q1 : (u.c6 == 1) = true := by simp [j1]
      clear j1 HJ
      go_enter Tryz.func110, Tryz.ntmps110
      go_wp2
      go_ret
      exact ⟨rfl, B1⟩
    rw [if_neg j1] at hJ
    have q1 : (u.c6 == 1) = false := by simpa using j1
    clear j1
    by_cases j2 : u.c6 = 2
    · rw [if_pos j2] at hJ
      subst hJ
      have q2 : (u.c6 == 2) = true := by simp [j2]
      clear j2 HJ
      go_enter Tryz.func110, Tryz.ntmps110
      go_wp2
      go_ret
      exact ⟨rfl, B1⟩
    rw [if_neg j2] at hJ
    have q2 : (u.c6 == 2) = false := by simpa using j2
    clear j2
    by_cases j3 : u.c6 = 3
    · rw [if_pos j3] at hJ
      subst hJ
      have q3 : (u.c6 == 3) = true := by simp [j3]
      clear j3 HJ
      go_enter Tryz.func110, Tryz.ntmps110
      go_wp2
      go_ret
      exact ⟨rfl, B1⟩
    rw [if_neg j3] at hJ
    subst hJ
    have q3 : (u.c6 == 3) = false := by simpa using j3
    clear j3 HJ
    go_enter Tryz.func110, Tryz.ntmps110
    go_wp2
    go_ret
    exact ⟨rfl, B1⟩
end Go.Proofs.YtppgjmpdnpidnaaGreatDoor
end

/- TickImpl10 -/
/- The contract of the program's turn of a unit. Condition: the state is the call's own; the homes lie in their variable. -/
section
namespace Go.Proofs.YtppgjmpdnpidnaaGreatDoor
open Go.ChangeShapes Go.WideShapes Go.ChangeAt Go.RowKit
open Bd
set_option linter.unusedVariables false

theorem tkS_some {s : TS} {i : Int} {u : K10} (h : findU s.us i = some u) : tkS s i = ofTk s u (tk1 s.us s.fs u (s.rm.getD u.c1.toNat 0)) := by unfold tkS; rw [h]; rfl
theorem tkS_none {s : TS} {i : Int} (h : findU s.us i = none) : tkS s i = s := by unfold tkS; rw [h]
set_option maxRecDepth 20000 in
set_option maxHeartbeats 8000000 in
theorem turn_none (base T mb : Nat) (vf : Value) (gr cr gg cg : Nat) (s : TS) (i : Int) (hw : (Lit.int .i64 i).wf = true) (w : World) (h : ST w base T mb vf gr cr gg cg s) (hf : findU s.us i = none) :
    Calls Tryz.prog 96 #[.pointer (some ⟨T, 0, none⟩), .int .i64 i] w fun e w' => e = .returned (.tuple #[]) ∧ ST w' base T mb vf gr cr gg cg s ∧ KB base T mb vf gr gg w w' := by
  have L1 := h.m.look i hw
  rw [hf] at L1
  dsimp only [K10.z, K10.v] at L1
  obtain ⟨t0, t1, t2, t3, t4, tl⟩ := h.cells
  obtain ⟨W1, HW1⟩ : ∃ W1, Hid (W1 = w.alloc (.cells #[.int .i64 0, .int .i64 0, .int .i64 0, .int .i64 0, .int .i64 0, .int .i64 0, .int .i64 0, .int .i64 0, .int .i64 0, .int .i64 0] 133)) := ⟨_, rfl⟩
  have B1 : Below w.heap.size w W1 := by rw [HW1.out]; exact (Below.refl _ _).alloc (Nat.le_refl _) _
  have S1 := h.later B1
  have hb : KB base T mb vf gr gg w W1 := KB.of B1 h.base
  clear h hf t1 t2 t3 t4
  go_enter Tryz.func96, Tryz.ntmps96
  go_upto_region 1 with fail
  rw [← HW1.out]
  go_wp2_with fail
  try simp only [Exit.inBlock, Exit.then]
  refine bodyPost_ret (results_none rfl _ _ _) rfl ?_
  exact ⟨rfl, S1, hb⟩
set_option maxRecDepth 20000 in
set_option maxHeartbeats 8000000 in
theorem turn_some (base T mb : Nat) (vf : Value) (gr cr gg cg : Nat) (s s' : TS) (i : Int) (hw : (Lit.int .i64 i).wf = true) (u : K10) (F : Nat) (w : World) (h : ST w base T mb vf gr cr gg cg s) (hf : findU s.us i = some u) (hF : jobF u = F) (hFs : F = 118 ∨ F = 119 ∨ F = 120 ∨ F = 121)
    (cJ : ∀ W, Below w.heap.size w W → Calls Tryz.prog F #[.pointer (some ⟨T, 0, none⟩), .agg u.v] W fun e w' => e = .returned (.tuple #[]) ∧ ST w' base T mb vf gr cr gg cg s' ∧ KB base T mb vf gr gg W w') :
    Calls Tryz.prog 96 #[.pointer (some ⟨T, 0, none⟩), .int .i64 i] w fun e w' => e = .returned (.tuple #[]) ∧ ST w' base T mb vf gr cr gg cg s' ∧ KB base T mb vf gr gg w w' := by
  have L1 := h.m.look i hw
  rw [hf] at L1
  dsimp only at L1
  obtain ⟨t0, t1, t2, t3, t4, tl⟩ := h.cells
  obtain ⟨W1, HW1⟩ : ∃ W1, Hid (W1 = w.alloc (.cells u.v 133)) := ⟨_, rfl⟩
  have k1 : Below w.heap.size w W1 := by rw [HW1.out]; exact (Below.refl _ _).alloc (Nat.le_refl _) _
  have U0 : U1 W1 w.heap.size 0 u := by rw [HW1.out]; exact U1.new w u _
  obtain ⟨W2, HW2⟩ : ∃ W2, Hid (W2 = ((W1.alloc (.cells u.v 133)).alloc (.cells u.v 75)).alloc (.cells u.v 75)) := ⟨_, rfl⟩
  obtain ⟨pb, Hpb⟩ : ∃ pb, Hid (pb = W1.heap.size + 1 + 1) := ⟨_, rfl⟩
  have k2 : Below W1.heap.size W1 W2 := by
    rw [HW2.out]
    have ha := ((Below.refl W1.heap.size W1).alloc (Nat.le_refl _) (.cells u.v 133))
    have hb := ha.alloc ha.size (.cells u.v 75)
    exact hb.alloc hb.size (.cells u.v 75)
  have U2 : U1 W2 pb 0 u := by
    have := U1.new ((W1.alloc (.cells u.v 133)).alloc (.cells u.v 75)) u 75
    rw [size_new, size_new, ← Hpb.out, ← HW2.out] at this
    exact this
  have B2 := k1.trans (k2.mono k1.size)
  have cU := fun W => unitIn_c u W
  have cO := fun W => jobOf_c u W
  rw [hF] at cO
  have hb := h.base
  have HU : Hid (U1 W2 pb 0 u) := U2
  obtain ⟨s0, s1, s2, s3, s4, s5, s6, s7, s8, s9, sl⟩ := U0
  clear h hf t1 t2 t3 t4 hF
  rcases hFs with rfl | rfl | rfl | rfl
  all_goals
    go_enter Tryz.func96, Tryz.ntmps96
    go_upto_region 1 with fail
    rw [← HW1.out]
    go_upto_region 3 with (first | (go_at_call 109; refine (cU _).mono ?_; rintro e w1 ⟨rfl, rfl⟩))
    rw [← HW2.out, ← Hpb.out]
    clear s0 s1 s2 s3 s4 s5 s6 s7 s8 s9 sl t0 tl L1
    obtain ⟨s0, s1, s2, s3, s4, s5, s6, s7, s8, s9, sl⟩ := HU.out
    go_wp2_with fail
    refine (cO _).mono ?_
    rintro e w3 ⟨rfl, k3⟩
    clear s0 s1 s2 s3 s4 s5 s6 s7 s8 s9 sl
    obtain ⟨s0, s1, s2, s3, s4, s5, s6, s7, s8, s9, sl⟩ := HU.out.later k3
    have B3 := B2.trans (k3.mono B2.size)
    go_wp2_with fail
    refine (cJ _ B3).mono ?_
    rintro e w4 ⟨rfl, S4, B4⟩
    go_wp2_with fail
    go_end0
    exact ⟨rfl, S4, (KB.of B3 hb).trans B4⟩
theorem tickUnit_c (base T mb : Nat) (vf : Value) (gr cr gg cg : Nat) (s : TS) (i : Int) (hw : (Lit.int .i64 i).wf = true) (w : World) (hL : HmAt w) (h : ST w base T mb vf gr cr gg cg s) (tg : TG s) :
    Calls Tryz.prog 96 #[.pointer (some ⟨T, 0, none⟩), .int .i64 i] w fun e w' => e = .returned (.tuple #[]) ∧ ST w' base T mb vf gr cr gg cg (tkS s i) ∧ KB base T mb vf gr gg w w' := by
  cases hf : findU s.us i with
  | none =>
    rw [tkS_none hf]
    exact turn_none base T mb vf gr cr gg cg s i hw w h hf
  | some u =>
    rw [tkS_some hf]
    have gu := tg.gd.gu (find_mem' hf)
    have hr := tg.gd.r
    have hn := tg.gd.n8
    by_cases h9 : u.c1 = 9
    · rw [tk1_nobody h9, ofTk_self]
      refine turn_some base T mb vf gr cr gg cg s s i hw u 118 w h hf (by unfold jobF; rw [if_pos h9]) (by simp) (fun W hB => (rest_c T u W).mono ?_)
      rintro e w' ⟨he, hb⟩
      exact ⟨he, (h.later hB).later hb, KB.of hb (Nat.le_trans h.base hB.size)⟩
    · rw [tk1_job h9]
      rcases gu.j with ⟨a, _⟩ | ⟨a, _⟩ | ⟨a, _⟩ | ⟨a, _, _, p0, p1, _⟩
      · rw [if_neg (by omega), if_neg (by omega), if_neg (by omega), ofTk_self]
        refine turn_some base T mb vf gr cr gg cg s s i hw u 118 w h hf (by unfold jobF; rw [if_neg h9, if_neg (by omega), if_neg (by omega), if_neg (by omega)]) (by simp) (fun W hB => (rest_c T u W).mono ?_)
        rintro e w' ⟨he, hb⟩
        exact ⟨he, (h.later hB).later hb, KB.of hb (Nat.le_trans h.base hB.size)⟩
      · rw [if_pos a]
        exact turn_some base T mb vf gr cr gg cg s _ i hw u 119 w h hf (by unfold jobF; rw [if_neg h9, if_pos a]) (by simp) (fun W hB => move_c base T mb vf gr cr gg cg s u hr hn gu a W (h.later hB))
      · rw [if_neg (by omega), if_pos a]
        exact turn_some base T mb vf gr cr gg cg s _ i hw u 120 w h hf (by unfold jobF; rw [if_neg h9, if_neg (by omega), if_pos a]) (by simp) (fun W hB => harvest_c base T mb vf gr cr gg cg s u W (hL.later hB) ⟨h.later hB, tg, gu, a, h9⟩)
      · rw [if_neg (by omega), if_neg (by omega), if_pos a]
        exact turn_some base T mb vf gr cr gg cg s _ i hw u 121 w h hf (by unfold jobF; rw [if_neg h9, if_neg (by omega), if_neg (by omega), if_pos a]) (by simp) (fun W hB => attack_c base T mb vf gr cr gg cg s u W ⟨h.later hB, tg, gu, p0, p1⟩)
end Go.Proofs.YtppgjmpdnpidnaaGreatDoor
end

/- TickSpec7 -/
/- The contract of what a unit does, in the model: all jobs. Condition: the board is the call's own copy, without a fault; rooms are four purses. -/
section
namespace Go.Proofs.YtppgjmpdnpidnaaGreatDoor
open Go.ChangeShapes Go.WideShapes Go.ChangeAt Go.RowKit
open Bd
set_option linter.unusedVariables false

set_option maxRecDepth 20000 in
set_option maxHeartbeats 8000000 in
theorem l5Unit_attack (base B o g cap k n : Nat) (vf : Value) (us : List K10) (fs : List K3) (u : K10) (gr offr cr : Nat) (rm : List Int) (w : World) (h : UIn w base B o g cap k n vf us fs u gr offr rm) (hq : (u.c1 == 9) = false) (hj : u.c6 = 3) :
    Calls Tryz.prog 84 #[.pointer (some ⟨B, o, none⟩), .int .i64 k, .slice (some ⟨gr, offr, none⟩) 4 cr] w fun e w' => ∃ gv, e = .returned (.tuple #[gv, .int .i64 (tkAtk us fs u).lost]) ∧ UOut w w' base B o g cap n vf (tkAtk us fs u) u.c1.toNat gv := by
  have hlt : (k : Int) < (n : Int) := by have := (List.getElem?_eq_some_iff.1 h.hk).1; have := h.hn; omega
  obtain ⟨W1, HW1⟩ : ∃ W1, Hid (W1 = w.alloc G4) := ⟨_, rfl⟩
  have B1 : Below w.heap.size w W1 := by rw [HW1.out]; exact (Below.refl _ _).alloc (Nat.le_refl _) _
  have h1 := h.later B1
  have H : Hid (UIn w base B o g cap k n vf us fs u gr offr rm) := h
  have cA := l5Attack_c base B o g cap k n vf us fs u W1 ⟨h1.sb, h1.gd, h1.hk, hj, h1.hn⟩
  have hg := tkAtk_give us fs u
  obtain ⟨x0, x1, x2, x3, x4, x5, x6, x7, x8, x9, xl⟩ := h.at.one
  obtain ⟨c0, c1, c2, c3, c4, c5, c6, c7, c8, c9, cl⟩ := h1.at.one
  rw [hj] at c6
  have b0 := h.sb.c0
  have bl := h.sb.lt
  have hsz : W1.heap.size = w.heap.size + 1 := by rw [HW1.out, size_new]
  have Hsz : Hid (W1.heap.size = w.heap.size + 1) := hsz
  have HG : Hid ((tkAtk us fs u).give = 0) := hg
  clear h hj hsz hg
  generalize tkAtk us fs u = t at cA HG ⊢
  go_enter Tryz.func84, Tryz.ntmps84
  go_upto_region 3 with fail
  rw [← HW1.out]
  clear x0 x1 x2 x3 x4 x5 x6 x7 x8 x9 xl b0 bl
  go_wp2_with fail
  refine cA.mono ?_
  rintro e w1 ⟨rfl, vu', v0, sb, K, nn, hv, oo⟩
  have R : UOut w w1 base B o g cap n vf t u.c1.toNat (.slice (some ⟨w.heap.size, 0, none⟩) 4 4) := by
    rw [HW1.out] at K oo
    refine UOut.mk0 H.out sb (K.mono (fun b _ e => ?_)) HG.out nn ?_ oo
    · rcases e with e | e
      · exact .inl e
      · exact .inr (.inl e)
    · rcases hv with hv | hv
      · exact .inl hv
      · exact .inr (fun b hb => by have := hv b hb; have := Hsz.out; omega)
  go_wp2_with fail
  go_ret2
  exact ⟨_, rfl, R⟩
set_option maxRecDepth 20000 in
set_option maxHeartbeats 8000000 in
theorem l5Unit_harvest (base B o g cap k n : Nat) (vf : Value) (us : List K10) (fs : List K3) (u : K10) (gr offr cr : Nat) (rm : List Int) (w : World) (h : UIn w base B o g cap k n vf us fs u gr offr rm) (hq : (u.c1 == 9) = false) (hj : u.c6 = 2) :
    Calls Tryz.prog 84 #[.pointer (some ⟨B, o, none⟩), .int .i64 k, .slice (some ⟨gr, offr, none⟩) 4 cr] w fun e w' => ∃ gv, e = .returned (.tuple #[gv, .int .i64 0]) ∧ UOut w w' base B o g cap n vf (tkHarv us fs u (rm.getD u.c1.toNat 0)) u.c1.toNat gv := by
  have hlt : (k : Int) < (n : Int) := by have := (List.getElem?_eq_some_iff.1 h.hk).1; have := h.hn; omega
  have h9 : u.c1 ≠ 9 := by simpa using hq
  obtain ⟨ow, how, ho4⟩ : ∃ ow : Nat, u.c1 = (ow : Int) ∧ ow < 4 := by
    rcases h.gu.o with ⟨a, b⟩ | a
    · exact ⟨u.c1.toNat, by omega, by omega⟩
    · exact absurd a h9
  have hon : u.c1.toNat = ow := by omega
  rw [hon]
  have ho4' : (ow : Int) < 4 := by omega
  have hroom : rm[ow]? = some (rm.getD ow 0) := by rw [List.getD_eq_getElem?_getD, List.getElem?_eq_getElem (by rw [h.rl]; exact ho4)]; rfl
  have hrb := h.rb _ (List.mem_of_getElem? hroom)
  obtain ⟨W1, HW1⟩ : ∃ W1, Hid (W1 = w.alloc G4) := ⟨_, rfl⟩
  have B1 : Below w.heap.size w W1 := by rw [HW1.out]; exact (Below.refl _ _).alloc (Nat.le_refl _) _
  have h1 := h.later B1
  have H : Hid (UIn w base B o g cap k n vf us fs u gr offr rm) := h
  have r1 := h1.ra ow _ hroom
  have rgl := h1.rg
  obtain ⟨room, Hroom⟩ : ∃ room, Hid (rm.getD ow 0 = room) := ⟨_, rfl⟩
  rw [Hroom.out] at hrb r1 ⊢
  have hin : HIn W1 base B o g cap k vf us fs u room := by
    have sb := h1.sb
    rw [← h.hn] at sb
    exact ⟨sb, h1.gd, h1.hk, hj, h9, hrb.1, hrb.2⟩
  have cH := l5Harvest_c base B o g cap k vf us fs u room W1 hin
  have tok := tk1_ok h.gd (List.mem_of_getElem? h.hk) hrb.1
  have e1 : tk1 us fs u room = tkHarv us fs u room := by rw [tk1_job h9, if_neg (by omega), if_pos hj]
  rw [e1] at tok
  have hn := h.hn
  have hG0 : Hid (Lst W1 w.heap.size 4 z4) := by show Lst _ _ _ _; rw [HW1.out]; exact g4_new w
  obtain ⟨x0, x1, x2, x3, x4, x5, x6, x7, x8, x9, xl⟩ := h.at.one
  obtain ⟨c0, c1, c2, c3, c4, c5, c6, c7, c8, c9, cl⟩ := h1.at.one
  rw [hj] at c6
  rw [how] at c1
  have b0 := h.sb.c0
  have bl := h.sb.lt
  have Hsz : Hid (W1.heap.size = w.heap.size + 1) := by show _ = _; rw [HW1.out, size_new]
  have hgg : Hid (¬ (w.heap.size = g ∨ vf.ownBlock = some w.heap.size)) := by
    rintro (e | e)
    · have := h.at.lt; omega
    · have := (h.sb.f.lt _ e).2; omega
  have t0 := tok.g0
  have t1 := tok.g1
  clear h hj hin tok e1 h9 hon hroom hq
  have hq : ((ow : Int) == 9) = false := by simp; omega
  generalize tkHarv us fs u room = t at cH t0 t1 ⊢
  go_enter Tryz.func84, Tryz.ntmps84
  go_upto_region 3 with fail
  rw [← HW1.out]
  clear x0 x1 x2 x3 x4 x5 x6 x7 x8 x9 xl b0 bl
  go_wp2_with fail
  refine cH.mono ?_
  rintro e w1 ⟨rfl, sb, K⟩
  have L1 : Lst w1 w.heap.size 4 z4 := hG0.out.of_block (K.block w.heap.size (by have := Hsz.out; omega) hgg.out)
  have z1 : w1.cell? ⟨w.heap.size, ow, none⟩ = some (.int .i64 0) := L1.cell (by
    have : ow = 0 ∨ ow = 1 ∨ ow = 2 ∨ ow = 3 := by omega
    rcases this with rfl | rfl | rfl | rfl <;> rfl)
  have zf := L1.frozen ow
  have zl := L1.lt
  have R : UOut w (w1.setCell ⟨w.heap.size, ow, none⟩ (.int .i64 t.give)) base B o g cap n vf t ow (.slice (some ⟨w.heap.size, 0, none⟩) 4 4) := by
    have K1 : KeptS (fun b => b = B ∨ b = g ∨ vf.ownBlock = some b) w w1 := by
      have := K.mono (T := fun b => b = B ∨ b = g ∨ vf.ownBlock = some b) (fun b _ e => .inr e)
      rw [HW1.out] at this
      exact (KeptS.of_below ((Below.refl _ _).alloc (Nat.le_refl _) _)).trans this
    have e2 : ∀ q, q ≠ w.heap.size → (w1.setCell ⟨w.heap.size, ow, none⟩ (.int .i64 t.give)).heap[q]? = w1.heap[q]? := fun q hq => Below.heap_setCell _ _ _ _ hq
    have L2 := L1.set ow t.give
    have el : z4.set ow t.give = addAt z4 ow t.give := by
      have : ow = 0 ∨ ow = 1 ∨ ow = 2 ∨ ow = 3 := by omega
      unfold addAt
      rcases this with rfl | rfl | rfl | rfl <;> simp [z4]
    rw [el] at L2
    have hl := (H.out.sb.lt)
    rw [hn] at sb
    refine ⟨_, ⟨?_, ?_, ?_, ?_, ?_, ?_, sb.nu, sb.nf⟩, ?_, ?_, by simp, .inl rfl, OneOff.of_block ((e2 B (by omega)).trans ((K.block B (Nat.lt_of_lt_of_le H.out.sb.lt B1.size) (fun e => e.elim (fun e => H.out.sb.nu (by rw [e]; rfl)) (fun e => H.out.sb.nf e))).trans (B1.block B H.out.sb.lt)))⟩
    · rw [cell_blk (e2 B (by omega))]; exact sb.c0
    · rw [cell_blk (e2 B (by omega))]; exact sb.c1
    · rw [World.frozen?_setCell]; exact sb.fz
    · exact Nat.lt_of_lt_of_le (Nat.lt_of_lt_of_le hl K1.size) ((Below.refl 0 w1).setCell (p := ⟨w.heap.size, ow, none⟩) (Nat.zero_le _) (.int .i64 t.give)).size
    · exact sb.u.of_block (fun q hq => e2 q (by cases hq; have := hgg.out; intro e; exact this (.inl e.symm)))
    · exact sb.f.of_block (fun q hq => e2 q (by intro e; subst e; exact hgg.out (.inr hq)))
    · have := SlI.of_lst L2 (Nat.le_refl w.heap.size)
      rwa [addAt_len] at this
    · refine ⟨K1.os, K1.tape, K1.output, Nat.le_trans K1.size ((Below.refl 0 w1).setCell (p := ⟨w.heap.size, ow, none⟩) (Nat.zero_le _) (.int .i64 t.give)).size, fun q hq hn => (e2 q (by omega)).trans (K1.block q hq hn)⟩
  go_wp2_with fail
  go_ret2
  exact ⟨_, rfl, R⟩
theorem l5Unit_c (base B o g cap k n : Nat) (vf : Value) (us : List K10) (fs : List K3) (u : K10) (gr offr cr : Nat) (rm : List Int) (w : World) (h : UIn w base B o g cap k n vf us fs u gr offr rm) :
    Calls Tryz.prog 84 #[.pointer (some ⟨B, o, none⟩), .int .i64 k, .slice (some ⟨gr, offr, none⟩) 4 cr] w fun e w' => ∃ gv, e = .returned (.tuple #[gv, .int .i64 (tk1 us fs u (rm.getD u.c1.toNat 0)).lost]) ∧ UOut w w' base B o g cap n vf (tk1 us fs u (rm.getD u.c1.toNat 0)) u.c1.toNat gv := by
  by_cases h9 : u.c1 = 9
  · rw [tk1_nobody h9]
    exact l5Unit_nobody base B o g cap k n vf us fs u gr offr cr rm w h h9
  · have hq : (u.c1 == 9) = false := by simpa using h9
    rw [tk1_job h9]
    rcases h.gu.j with ⟨a, _⟩ | ⟨a, _⟩ | ⟨a, _⟩ | ⟨a, _⟩
    · rw [if_neg (by omega), if_neg (by omega), if_neg (by omega)]
      exact l5Unit_none base B o g cap k n vf us fs u gr offr cr rm w h hq a
    · rw [if_pos a, (tkMove_give us fs u).2]
      exact l5Unit_move base B o g cap k n vf us fs u gr offr cr rm w h hq a
    · rw [if_neg (by omega), if_pos a, tkHarv_lost]
      exact l5Unit_harvest base B o g cap k n vf us fs u gr offr cr rm w h hq a
    · rw [if_neg (by omega), if_neg (by omega), if_pos a]
      exact l5Unit_attack base B o g cap k n vf us fs u gr offr cr rm w h hq a
end Go.Proofs.YtppgjmpdnpidnaaGreatDoor
end
