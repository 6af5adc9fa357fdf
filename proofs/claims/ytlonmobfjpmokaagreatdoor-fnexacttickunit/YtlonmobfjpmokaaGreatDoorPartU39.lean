/- Texts of mine put together (a claim holds at most 60 files): TickImpl9, TickImpl10. -/
import Derived.Test.YtlonmobfjpmokaaGreatDoorPartU38

/- TickImpl9 -/
/- Contracts of the program's attack, of its jobs, of a unit's turn. Condition: the state is the call's own; the homes lie in their variable. -/
section
namespace Go.Proofs.YtlonmobfjpmokaaGreatDoor
open Go.ChangeShapes Go.WideShapes Go.ChangeAt Go.RowKit
open Bd
set_option linter.unusedVariables false

set_option maxRecDepth 20000 in
set_option maxHeartbeats 16000000 in
theorem atk_same (base T mb : Nat) (vf : Value) (gr cr gg cg : Nat) (s : TS) (u x : K10) (w : World) (h : AI w base T mb vf gr cr gg cg s u) (hf : findU s.us u.c9 = some x) (ho : (x.c1 == u.c1) = true) :
    Calls Tryz.prog 107 #[.pointer (some ⟨T, 0, none⟩), .agg u.v] w fun e w' => e = .returned (.tuple #[]) ∧ ST w' base T mb vf gr cr gg cg (stPut s (idle u)) ∧ Below base w w' := by
  obtain ⟨W1, HW1, B1, U0, row⟩ := boxU w u
  obtain ⟨W2, W3, pb, HW2, HW3, Hpb, md⟩ := made3 W1 x
  have hb := h.st.base
  have S1 := h.st.later B1
  have gx := h.tg.gd.gu (find_mem' hf)
  have hwf := wf_int (i := u.c9) (by have := h.p0; omega) (by have := h.p1; omega)
  have L1 := S1.m.look u.c9 hwf
  have L2 := (S1.later (w' := W1.drew) ((Below.refl _ _).drew)).m.look u.c9 hwf
  have L3 := (S1.later (w' := (W1.alloc (.cells K10.z.v 73)).drew) (((Below.refl _ _).alloc (Nat.le_refl _) _).drew)).m.look u.c9 hwf
  rw [hf] at L1 L2 L3
  have cU := fun W => unitIn_c x W
  dsimp only [K10.z, K10.v] at L1 L2 L3
  have B3 := B1.trans (md.k3.mono B1.size)
  have cE := endJob_c base T mb vf gr cr gg cg s u h.tg.gd.r h.tg.gd.n8 h.gu.i0 h.gu.i1 W3 (h.st.later B3)
  have HU : Hid (U1 W3 w.heap.size 0 u) := U0.later md.k3
  have HX : Hid (U1 W2 W1.heap.size 0 x) := by show U1 _ _ _ _; rw [HW2.out]; exact (U1.new W1 x 73).later ((Below.refl _ _).drew)
  obtain ⟨s0, s1, s2, s3, s4, s5, s6, s7, s8, s9, sl⟩ := U0
  obtain ⟨t0, t1, t2, t3, t4, tl⟩ := S1.cells
  have HP : Hid (U1 W3 pb 0 x) := md.u
  clear h row S1 hf t1 t2 t3 t4 hwf md gx
  go_enter Tryz.func107, Tryz.ntmps107
  go_upto_region 1 with fail
  rw [← HW1.out]
  go_region
  all_goals
    rw [← HW2.out]
    clear s0 s1 s2 s3 s4 s5 s6 s7 s8 s9 sl t0 tl L1 L2 L3
    obtain ⟨n0, n1, n2, n3, n4, n5, n6, n7, n8, n9, nl⟩ := HX.out
    go_upto_region 3 with (first | (go_at_call 77; refine (cU _).mono ?_; rintro e w1 ⟨rfl, rfl⟩))
    rw [← HW3.out, ← Hpb.out]
    clear n0 n1 n2 n3 n4 n5 n6 n7 n8 n9 nl
    obtain ⟨s0, s1, s2, s3, s4, s5, s6, s7, s8, s9, sl⟩ := HU.out
    obtain ⟨p0, p1, p2, p3, p4, p5, p6, p7, p8, p9, pl⟩ := HP.out
    go_wp2_with fail
    refine cE.mono ?_
    rintro e w8 ⟨rfl, S8, B8⟩
    go_wp2_with fail
    try simp only [Exit.inBlock, Exit.then]
    refine bodyPost_ret (results_none rfl _ _ _) rfl ?_
    exact ⟨rfl, S8, (B3.mono hb).trans B8⟩
set_option maxRecDepth 20000 in
set_option maxHeartbeats 16000000 in
theorem atk_far (base T mb : Nat) (vf : Value) (gr cr gg cg : Nat) (s : TS) (u x : K10) (w : World) (h : AI w base T mb vf gr cr gg cg s u) (hf : findU s.us u.c9 = some x) (ho : (x.c1 == u.c1) = false) (hfar : 1 < far u x) :
    Calls Tryz.prog 107 #[.pointer (some ⟨T, 0, none⟩), .agg u.v] w fun e w' => e = .returned (.tuple #[]) ∧ ST w' base T mb vf gr cr gg cg (stPut s (goTo u x.c2 x.c3)) ∧ Below base w w' := by
  obtain ⟨W1, HW1, B1, U0, row⟩ := boxU w u
  obtain ⟨W2, W3, pb, HW2, HW3, Hpb, md⟩ := made3 W1 x
  have hb := h.st.base
  have S1 := h.st.later B1
  have gx := h.tg.gd.gu (find_mem' hf)
  have hwf := wf_int (i := u.c9) (by have := h.p0; omega) (by have := h.p1; omega)
  have L1 := S1.m.look u.c9 hwf
  have L2 := (S1.later (w' := W1.drew) ((Below.refl _ _).drew)).m.look u.c9 hwf
  have L3 := (S1.later (w' := (W1.alloc (.cells K10.z.v 73)).drew) (((Below.refl _ _).alloc (Nat.le_refl _) _).drew)).m.look u.c9 hwf
  rw [hf] at L1 L2 L3
  have cU := fun W => unitIn_c x W
  dsimp only [K10.z, K10.v] at L1 L2 L3
  have B3 := B1.trans (md.k3.mono B1.size)
  have gu := h.gu
  obtain ⟨e1, _, _, e2⟩ := step_in gu gx.x0 gx.x1 gx.y0 gx.y1
  have cF := fun W => implFarOf u.c2 u.c3 x.c2 x.c3 W
  rw [e1, e2] at cF
  clear e1 e2
  have hfld : ∀ (v : Int) (W : World), (Instr.field 150 (.agg #[.int .i64 0, .int .i64 v]) 1).run Tryz.prog W = .ok (.int .i64 v) W := fun v W => by kernel_rfl
  unfold far at hfar
  generalize Nums.mx (Nums.gap u.c2 x.c2) (Nums.gap u.c3 x.c3) = F at cF hfar
  have cS := fun W hS => step_c base T mb vf gr cr gg cg s u x.c2 x.c3 h.tg.gd.r h.tg.gd.n8 gu gx.x0 gx.x1 gx.y0 gx.y1 W hS
  have k4 : Below W3.heap.size W3 (W3.alloc (.cells #[.int .i64 0, .int .i64 F] 150)) := (Below.refl _ _).alloc (Nat.le_refl _) _
  have B4 := B3.trans (k4.mono B3.size)
  have S4 : Hid (ST (W3.alloc (.cells #[.int .i64 0, .int .i64 F] 150)) base T mb vf gr cr gg cg s) := h.st.later B4
  clear gu
  have HU : Hid (U1 W3 w.heap.size 0 u) := U0.later md.k3
  have HX : Hid (U1 W2 W1.heap.size 0 x) := by show U1 _ _ _ _; rw [HW2.out]; exact (U1.new W1 x 73).later ((Below.refl _ _).drew)
  obtain ⟨s0, s1, s2, s3, s4, s5, s6, s7, s8, s9, sl⟩ := U0
  obtain ⟨t0, t1, t2, t3, t4, tl⟩ := S1.cells
  have HP : Hid (U1 W3 pb 0 x) := md.u
  clear h row S1 hf t1 t2 t3 t4 hwf md gx
  go_enter Tryz.func107, Tryz.ntmps107
  go_upto_region 1 with fail
  rw [← HW1.out]
  go_region
  all_goals
    rw [← HW2.out]
    clear s0 s1 s2 s3 s4 s5 s6 s7 s8 s9 sl t0 tl L1 L2 L3
    obtain ⟨n0, n1, n2, n3, n4, n5, n6, n7, n8, n9, nl⟩ := HX.out
    go_upto_region 3 with (first | (go_at_call 77; refine (cU _).mono ?_; rintro e w1 ⟨rfl, rfl⟩))
    rw [← HW3.out, ← Hpb.out]
    clear n0 n1 n2 n3 n4 n5 n6 n7 n8 n9 nl
    obtain ⟨s0, s1, s2, s3, s4, s5, s6, s7, s8, s9, sl⟩ := HU.out
    obtain ⟨p0, p1, p2, p3, p4, p5, p6, p7, p8, p9, pl⟩ := HP.out
    go_wp2_with (first | (go_at_call 123; refine (cF _).mono ?_; rintro e w1 ⟨rfl, rfl⟩))
    refine (cS _ S4.out).mono ?_
    rintro e w8 ⟨rfl, S8, B8⟩
    go_wp2_with fail
    try simp only [Exit.inBlock, Exit.then]
    refine bodyPost_ret (results_none rfl _ _ _) rfl ?_
    exact ⟨rfl, S8, (B4.mono hb).trans B8⟩
set_option maxRecDepth 20000 in
set_option maxHeartbeats 16000000 in
theorem atk_hit (base T mb : Nat) (vf : Value) (gr cr gg cg : Nat) (s : TS) (u x : K10) (w : World) (h : AI w base T mb vf gr cr gg cg s u) (hf : findU s.us u.c9 = some x) (ho : (x.c1 == u.c1) = false) (hfar : ¬ 1 < far u x) :
    Calls Tryz.prog 107 #[.pointer (some ⟨T, 0, none⟩), .agg u.v] w fun e w' => e = .returned (.tuple #[]) ∧ ST w' base T mb vf gr cr gg cg (stHit s x) ∧ Below base w w' := by
  obtain ⟨W1, HW1, B1, U0, row⟩ := boxU w u
  obtain ⟨W2, W3, pb, HW2, HW3, Hpb, md⟩ := made3 W1 x
  have hb := h.st.base
  have S1 := h.st.later B1
  have gx := h.tg.gd.gu (find_mem' hf)
  have hwf := wf_int (i := u.c9) (by have := h.p0; omega) (by have := h.p1; omega)
  have L1 := S1.m.look u.c9 hwf
  have L2 := (S1.later (w' := W1.drew) ((Below.refl _ _).drew)).m.look u.c9 hwf
  have L3 := (S1.later (w' := (W1.alloc (.cells K10.z.v 73)).drew) (((Below.refl _ _).alloc (Nat.le_refl _) _).drew)).m.look u.c9 hwf
  rw [hf] at L1 L2 L3
  have cU := fun W => unitIn_c x W
  dsimp only [K10.z, K10.v] at L1 L2 L3
  have B3 := B1.trans (md.k3.mono B1.size)
  have gu := h.gu
  obtain ⟨e1, _, _, e2⟩ := step_in gu gx.x0 gx.x1 gx.y0 gx.y1
  have cF := fun W => implFarOf u.c2 u.c3 x.c2 x.c3 W
  rw [e1, e2] at cF
  clear e1 e2
  have hfld : ∀ (v : Int) (W : World), (Instr.field 150 (.agg #[.int .i64 0, .int .i64 v]) 1).run Tryz.prog W = .ok (.int .i64 v) W := fun v W => by kernel_rfl
  have hfar' : decide (1 < far u x) = false := decide_eq_false hfar
  clear hfar
  unfold far at hfar'
  generalize Nums.mx (Nums.gap u.c2 x.c2) (Nums.gap u.c3 x.c3) = F at cF hfar'
  have cS := fun W hS => hit_c base T mb vf gr cr gg cg s x h.tg.gd.r h.tg.gd.n8 gx h.tg.l0 (by have := h.tg.l1; omega) W hS
  have k4 : Below W3.heap.size W3 (W3.alloc (.cells #[.int .i64 0, .int .i64 F] 150)) := (Below.refl _ _).alloc (Nat.le_refl _) _
  have B4 := B3.trans (k4.mono B3.size)
  have S4 : Hid (ST (W3.alloc (.cells #[.int .i64 0, .int .i64 F] 150)) base T mb vf gr cr gg cg s) := h.st.later B4
  clear gu
  have HU : Hid (U1 W3 w.heap.size 0 u) := U0.later md.k3
  have HX : Hid (U1 W2 W1.heap.size 0 x) := by show U1 _ _ _ _; rw [HW2.out]; exact (U1.new W1 x 73).later ((Below.refl _ _).drew)
  obtain ⟨s0, s1, s2, s3, s4, s5, s6, s7, s8, s9, sl⟩ := U0
  obtain ⟨t0, t1, t2, t3, t4, tl⟩ := S1.cells
  have HP : Hid (U1 W3 pb 0 x) := md.u
  clear h row S1 hf t1 t2 t3 t4 hwf md gx
  go_enter Tryz.func107, Tryz.ntmps107
  go_upto_region 1 with fail
  rw [← HW1.out]
  go_region
  all_goals
    rw [← HW2.out]
    clear s0 s1 s2 s3 s4 s5 s6 s7 s8 s9 sl t0 tl L1 L2 L3
    obtain ⟨n0, n1, n2, n3, n4, n5, n6, n7, n8, n9, nl⟩ := HX.out
    go_upto_region 3 with (first | (go_at_call 77; refine (cU _).mono ?_; rintro e w1 ⟨rfl, rfl⟩))
    rw [← HW3.out, ← Hpb.out]
    clear n0 n1 n2 n3 n4 n5 n6 n7 n8 n9 nl
    obtain ⟨s0, s1, s2, s3, s4, s5, s6, s7, s8, s9, sl⟩ := HU.out
    obtain ⟨p0, p1, p2, p3, p4, p5, p6, p7, p8, p9, pl⟩ := HP.out
    go_wp2_with (first | (go_at_call 123; refine (cF _).mono ?_; rintro e w1 ⟨rfl, rfl⟩))
    refine (cS _ S4.out).mono ?_
    rintro e w8 ⟨rfl, S8, B8⟩
    go_wp2_with fail
    go_end0
    exact ⟨rfl, S8, (B4.mono hb).trans B8⟩
theorem attack_c (base T mb : Nat) (vf : Value) (gr cr gg cg : Nat) (s : TS) (u : K10) (w : World) (h : AI w base T mb vf gr cr gg cg s u) :
    Calls Tryz.prog 107 #[.pointer (some ⟨T, 0, none⟩), .agg u.v] w fun e w' => e = .returned (.tuple #[]) ∧ ST w' base T mb vf gr cr gg cg (ofTk s u (tkAtk s.us s.fs u)) ∧ Below base w w' := by
  cases hf : findU s.us u.c9 with
  | none =>
    have e : tkAtk s.us s.fs u = ⟨putU (idle u) s.us, s.fs, 0, 0⟩ := by unfold tkAtk; rw [hf]
    rw [e, ofTk_put]
    exact atk_none base T mb vf gr cr gg cg s u w h hf
  | some p =>
    have e : tkAtk s.us s.fs u = if (p.c1 == u.c1) = true then ⟨putU (idle u) s.us, s.fs, 0, 0⟩ else if 1 < far u p then ⟨putU (goTo u p.c2 p.c3) s.us, s.fs, 0, 0⟩ else tkHit s.us s.fs p := by unfold tkAtk; rw [hf]
    rw [e]
    cases ho : p.c1 == u.c1
    · rw [if_neg (by simp)]
      by_cases hfar : 1 < far u p
      · rw [if_pos hfar, ofTk_put]
        exact atk_far base T mb vf gr cr gg cg s u p w h hf ho hfar
      · rw [if_neg hfar, ofTk_hit]
        exact atk_hit base T mb vf gr cr gg cg s u p w h hf ho hfar
    · rw [if_pos rfl, ofTk_put]
      exact atk_same base T mb vf gr cr gg cg s u p w h hf ho
theorem rest_c (T : Nat) (u : K10) (w : World) : Calls Tryz.prog 104 #[.pointer (some ⟨T, 0, none⟩), .agg u.v] w fun e w' => e = .returned (.tuple #[]) ∧ Below w.heap.size w w' := by
  have B1 : Below w.heap.size w (w.alloc (.cells u.v 87)) := (Below.refl _ _).alloc (Nat.le_refl _) _
  go_enter Tryz.func104, Tryz.ntmps104
  go_wp2
  go_end0
  exact ⟨rfl, B1⟩
def jobF (u : K10) : Nat := if u.c1 = 9 then 104 else if u.c6 = 1 then 105 else if u.c6 = 2 then 106 else if u.c6 = 3 then 107 else 104
set_option maxHeartbeats 4000000 in
theorem jobOf_c (u : K10) (w : World) : Calls Tryz.prog 78 #[.agg u.v] w fun e w' => e = .returned (.func (.func (jobF u)) #[] #[]) ∧ Below w.heap.size w w' := by
  have B1 : Below w.heap.size w (w.alloc (.cells u.v 87)) := (Below.refl _ _).alloc (Nat.le_refl _) _
  obtain ⟨J, HJ⟩ : ∃ J, Hid (jobF u = J) := ⟨_, rfl⟩
  rw [HJ.out]
  have hJ := HJ.out
  unfold jobF at hJ
  by_cases h9 : u.c1 = 9
  · rw [if_pos h9] at hJ
    subst hJ
    have q : (u.c1 == 9) = true := by simp [h9]
    clear h9 HJ
    go_enter Tryz.func78, Tryz.ntmps78
    go_wp2
    go_ret
    exact ⟨rfl, B1⟩
  · rw [if_neg h9] at hJ
    have q : (u.c1 == 9) = false := by simpa using h9
    clear h9
    by_cases j1 : u.c6 = 1
    · rw [if_pos j1] at hJ
      subst hJ
      have q1 : (u.c6 == 1) = true := by simp [j1]
      clear j1 HJ
      go_enter Tryz.func78, Tryz.ntmps78
      go_wp2
      go_ret
      exact ⟨rfl, B1⟩
    rw [if_neg j1] at hJ
    have q1 : (u.c6 == 1) = false := by simpa using j1
    clear j1
    by_cases j2 : u.c6 = 2
    · rw [if_pos j2] at hJ
      subst hJ
      have q2 : (u.c6 == 2) = true := by simp [j2]
      clear j2 HJ
      go_enter Tryz.func78, Tryz.ntmps78
      go_wp2
      go_ret
      exact ⟨rfl, B1⟩
    rw [if_neg j2] at hJ
    have q2 : (u.c6 == 2) = false := by simpa using j2
    clear j2
    by_cases j3 : u.c6 = 3
    · rw [if_pos j3] at hJ
      subst hJ
      have q3 : (u.c6 == 3) = true := by simp [j3]
      clear j3 HJ
      go_enter Tryz.func78, Tryz.ntmps78
      go_wp2
      go_ret
      exact ⟨rfl, B1⟩
    rw [if_neg j3] at hJ
    subst hJ
    have q3 : (u.c6 == 3) = false := by simpa using j3
    clear j3 HJ
    go_enter Tryz.func78, Tryz.ntmps78
    go_wp2
    go_ret
    exact ⟨rfl, B1⟩
end Go.Proofs.YtlonmobfjpmokaaGreatDoor
end

/- TickImpl10 -/
/- The contract of the program's turn of a unit. Condition: the state is the call's own; the homes lie in their variable. -/
section
namespace Go.Proofs.YtlonmobfjpmokaaGreatDoor
open Go.ChangeShapes Go.WideShapes Go.ChangeAt Go.RowKit
open Bd
set_option linter.unusedVariables false

theorem tkS_some {s : TS} {i : Int} {u : K10} (h : findU s.us i = some u) : tkS s i = ofTk s u (tk1 s.us s.fs u (s.rm.getD u.c1.toNat 0)) := by unfold tkS; rw [h]; rfl
theorem tkS_none {s : TS} {i : Int} (h : findU s.us i = none) : tkS s i = s := by unfold tkS; rw [h]
set_option maxRecDepth 20000 in
set_option maxHeartbeats 8000000 in
theorem turn_none (base T mb : Nat) (vf : Value) (gr cr gg cg : Nat) (s : TS) (i : Int) (hw : (Lit.int .i64 i).wf = true) (w : World) (h : ST w base T mb vf gr cr gg cg s) (hf : findU s.us i = none) :
    Calls Tryz.prog 44 #[.pointer (some ⟨T, 0, none⟩), .int .i64 i] w fun e w' => e = .returned (.tuple #[]) ∧ ST w' base T mb vf gr cr gg cg s ∧ Below base w w' := by
  have L1 := h.m.look i hw
  rw [hf] at L1
  dsimp only [K10.z, K10.v] at L1
  obtain ⟨t0, t1, t2, t3, t4, tl⟩ := h.cells
  obtain ⟨W1, HW1⟩ : ∃ W1, Hid (W1 = w.alloc (.cells #[.int .i64 0, .int .i64 0, .int .i64 0, .int .i64 0, .int .i64 0, .int .i64 0, .int .i64 0, .int .i64 0, .int .i64 0, .int .i64 0] 73)) := ⟨_, rfl⟩
  have B1 : Below w.heap.size w W1 := by rw [HW1.out]; exact (Below.refl _ _).alloc (Nat.le_refl _) _
  have S1 := h.later B1
  have hb := B1.mono h.base
  clear h hf t1 t2 t3 t4
  go_enter Tryz.func44, Tryz.ntmps44
  go_upto_region 1 with fail
  rw [← HW1.out]
  go_wp2_with fail
  try simp only [Exit.inBlock, Exit.then]
  refine bodyPost_ret (results_none rfl _ _ _) rfl ?_
  exact ⟨rfl, S1, hb⟩
set_option maxRecDepth 20000 in
set_option maxHeartbeats 8000000 in
theorem turn_some (base T mb : Nat) (vf : Value) (gr cr gg cg : Nat) (s s' : TS) (i : Int) (hw : (Lit.int .i64 i).wf = true) (u : K10) (F : Nat) (w : World) (h : ST w base T mb vf gr cr gg cg s) (hf : findU s.us i = some u) (hF : jobF u = F) (hFs : F = 104 ∨ F = 105 ∨ F = 106 ∨ F = 107)
    (cJ : ∀ W, Below w.heap.size w W → Calls Tryz.prog F #[.pointer (some ⟨T, 0, none⟩), .agg u.v] W fun e w' => e = .returned (.tuple #[]) ∧ ST w' base T mb vf gr cr gg cg s' ∧ Below base W w') :
    Calls Tryz.prog 44 #[.pointer (some ⟨T, 0, none⟩), .int .i64 i] w fun e w' => e = .returned (.tuple #[]) ∧ ST w' base T mb vf gr cr gg cg s' ∧ Below base w w' := by
  have L1 := h.m.look i hw
  rw [hf] at L1
  dsimp only at L1
  obtain ⟨t0, t1, t2, t3, t4, tl⟩ := h.cells
  obtain ⟨W1, HW1⟩ : ∃ W1, Hid (W1 = w.alloc (.cells u.v 73)) := ⟨_, rfl⟩
  have k1 : Below w.heap.size w W1 := by rw [HW1.out]; exact (Below.refl _ _).alloc (Nat.le_refl _) _
  have U0 : U1 W1 w.heap.size 0 u := by rw [HW1.out]; exact U1.new w u _
  obtain ⟨W2, HW2⟩ : ∃ W2, Hid (W2 = ((W1.alloc (.cells u.v 73)).alloc (.cells u.v 87)).alloc (.cells u.v 87)) := ⟨_, rfl⟩
  obtain ⟨pb, Hpb⟩ : ∃ pb, Hid (pb = W1.heap.size + 1 + 1) := ⟨_, rfl⟩
  have k2 : Below W1.heap.size W1 W2 := by
    rw [HW2.out]
    have ha := ((Below.refl W1.heap.size W1).alloc (Nat.le_refl _) (.cells u.v 73))
    have hb := ha.alloc ha.size (.cells u.v 87)
    exact hb.alloc hb.size (.cells u.v 87)
  have U2 : U1 W2 pb 0 u := by
    have := U1.new ((W1.alloc (.cells u.v 73)).alloc (.cells u.v 87)) u 87
    rw [size_new, size_new, ← Hpb.out, ← HW2.out] at this
    exact this
  have B2 := k1.trans (k2.mono k1.size)
  have cU := fun W => unitIn_c u W
  have cO := fun W => jobOf_c u W
  rw [hF] at cO
  have hb := h.base
  have HU : Hid (U1 W2 pb 0 u) := U2
  obtain ⟨s0, s1, s2, s3, s4, s5, s6, s7, s8, s9, sl⟩ := U0
  clear h hf t1 t2 t3 t4 hF
  rcases hFs with rfl | rfl | rfl | rfl
  all_goals
    go_enter Tryz.func44, Tryz.ntmps44
    go_upto_region 1 with fail
    rw [← HW1.out]
    go_upto_region 3 with (first | (go_at_call 77; refine (cU _).mono ?_; rintro e w1 ⟨rfl, rfl⟩))
    rw [← HW2.out, ← Hpb.out]
    clear s0 s1 s2 s3 s4 s5 s6 s7 s8 s9 sl t0 tl L1
    obtain ⟨s0, s1, s2, s3, s4, s5, s6, s7, s8, s9, sl⟩ := HU.out
    go_wp2_with fail
    refine (cO _).mono ?_
    rintro e w3 ⟨rfl, k3⟩
    clear s0 s1 s2 s3 s4 s5 s6 s7 s8 s9 sl
    obtain ⟨s0, s1, s2, s3, s4, s5, s6, s7, s8, s9, sl⟩ := HU.out.later k3
    have B3 := B2.trans (k3.mono B2.size)
    go_wp2_with fail
    refine (cJ _ B3).mono ?_
    rintro e w4 ⟨rfl, S4, B4⟩
    go_wp2_with fail
    go_end0
    exact ⟨rfl, S4, (B3.mono hb).trans B4⟩
theorem tickUnit_c (base T mb : Nat) (vf : Value) (gr cr gg cg : Nat) (s : TS) (i : Int) (hw : (Lit.int .i64 i).wf = true) (w : World) (hL : HmAt w) (h : ST w base T mb vf gr cr gg cg s) (tg : TG s) :
    Calls Tryz.prog 44 #[.pointer (some ⟨T, 0, none⟩), .int .i64 i] w fun e w' => e = .returned (.tuple #[]) ∧ ST w' base T mb vf gr cr gg cg (tkS s i) ∧ Below base w w' := by
  cases hf : findU s.us i with
  | none =>
    rw [tkS_none hf]
    exact turn_none base T mb vf gr cr gg cg s i hw w h hf
  | some u =>
    rw [tkS_some hf]
    have gu := tg.gd.gu (find_mem' hf)
    have hr := tg.gd.r
    have hn := tg.gd.n8
    by_cases h9 : u.c1 = 9
    · rw [tk1_nobody h9, ofTk_self]
      refine turn_some base T mb vf gr cr gg cg s s i hw u 104 w h hf (by unfold jobF; rw [if_pos h9]) (by simp) (fun W hB => (rest_c T u W).mono ?_)
      rintro e w' ⟨he, hb⟩
      exact ⟨he, (h.later hB).later hb, hb.mono (Nat.le_trans h.base hB.size)⟩
    · rw [tk1_job h9]
      rcases gu.j with ⟨a, _⟩ | ⟨a, _⟩ | ⟨a, _⟩ | ⟨a, _, _, p0, p1, _⟩
      · rw [if_neg (by omega), if_neg (by omega), if_neg (by omega), ofTk_self]
        refine turn_some base T mb vf gr cr gg cg s s i hw u 104 w h hf (by unfold jobF; rw [if_neg h9, if_neg (by omega), if_neg (by omega), if_neg (by omega)]) (by simp) (fun W hB => (rest_c T u W).mono ?_)
        rintro e w' ⟨he, hb⟩
        exact ⟨he, (h.later hB).later hb, hb.mono (Nat.le_trans h.base hB.size)⟩
      · rw [if_pos a]
        exact turn_some base T mb vf gr cr gg cg s _ i hw u 105 w h hf (by unfold jobF; rw [if_neg h9, if_pos a]) (by simp) (fun W hB => move_c base T mb vf gr cr gg cg s u hr hn gu a W (h.later hB))
      · rw [if_neg (by omega), if_pos a]
        exact turn_some base T mb vf gr cr gg cg s _ i hw u 106 w h hf (by unfold jobF; rw [if_neg h9, if_neg (by omega), if_pos a]) (by simp) (fun W hB => harvest_c base T mb vf gr cr gg cg s u W (hL.later hB) ⟨h.later hB, tg, gu, a, h9⟩)
      · rw [if_neg (by omega), if_neg (by omega), if_pos a]
        exact turn_some base T mb vf gr cr gg cg s _ i hw u 107 w h hf (by unfold jobF; rw [if_neg h9, if_neg (by omega), if_neg (by omega), if_pos a]) (by simp) (fun W hB => attack_c base T mb vf gr cr gg cg s u W ⟨h.later hB, tg, gu, p0, p1⟩)
end Go.Proofs.YtlonmobfjpmokaaGreatDoor
end
