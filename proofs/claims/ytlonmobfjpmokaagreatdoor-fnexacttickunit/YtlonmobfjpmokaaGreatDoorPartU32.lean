/- Texts of mine put together (a claim holds at most 60 files): TickImpl6. -/
import Derived.Test.YtlonmobfjpmokaaGreatDoorPartU31

/- TickImpl6 -/
/- Contracts of the program's parts of ticks: a hit, the jobs. Condition: the state is the call's own; the homes lie in their variable. -/
section
namespace Go.Proofs.YtlonmobfjpmokaaGreatDoor
open Go.ChangeShapes Go.WideShapes Go.ChangeAt Go.RowKit
open Bd
set_option linter.unusedVariables false

def stHit (s : TS) (p : K10) : TS := if p.c4 - 7 < 1 then ⟨delU s.us p.c0, s.fs, s.rm, s.gn, s.lost + p.c5⟩ else stPut s (life p (p.c4 - 7))
set_option maxRecDepth 20000 in
set_option maxHeartbeats 16000000 in
theorem hit_c (base T mb : Nat) (vf : Value) (gr cr gg cg : Nat) (s : TS) (u : K10) (hr : Rise s.us) (hn : s.us.length ≤ 8) (gu : GU u) (l0 : 0 ≤ s.lost) (l1 : s.lost ≤ 160) (w : World) (h : ST w base T mb vf gr cr gg cg s) :
    Calls Tryz.prog 124 #[.pointer (some ⟨T, 0, none⟩), .agg u.v] w fun e w' => e = .returned (.tuple #[]) ∧ ST w' base T mb vf gr cr gg cg (stHit s u) ∧ Below base w w' := by
  obtain ⟨W1, HW1, B1, U0, row⟩ := boxU w u
  have H : Hid (ST w base T mb vf gr cr gg cg s) := h
  have hb := h.base
  have i0 := gu.i0
  have i1 := gu.i1
  have k0 := gu.l0
  have k1 := gu.l1
  have c0 := gu.c0
  have c1 := gu.c1
  obtain ⟨W2, HW2⟩ : ∃ W2, Hid (W2 = W1.setCell ⟨w.heap.size, 4, none⟩ (.int .i64 (u.c4 - 7))) := ⟨_, rfl⟩
  have B2 : Below w.heap.size w W2 := by rw [HW2.out]; exact bel_set B1 _ _ (Nat.le_refl _) _
  have row2 : W2.rowIs w.heap.size 87 10 (uRow (life u (u.c4 - 7))) := by rw [HW2.out]; exact row_life row (u.c4 - 7)
  have S2 := h.later B2
  have U2 := U1.of_v row2
  have z4 := row.frozen 4
  obtain ⟨s0, s1, s2, s3, s4, s5, s6, s7, s8, s9, sl⟩ := U0
  clear h gu
  by_cases hl : u.c4 - 7 < 1
  · have eS : stHit s u = ⟨delU s.us u.c0, s.fs, s.rm, s.gn, s.lost + u.c5⟩ := by unfold stHit; rw [if_pos hl]
    rw [eS]
    clear eS
    obtain ⟨t0, t1, t2, t3, t4, tl⟩ := S2.cells
    have tz := S2.row.frozen 4
    have s5' : W2.cell? ⟨w.heap.size, 5, none⟩ = some (.int .i64 u.c5) := row2.cell (i := 5) (by omega)
    have s4' : W2.cell? ⟨w.heap.size, 4, none⟩ = some (.int .i64 (u.c4 - 7)) := row2.cell (i := 4) (by omega)
    have sl2 := row2.lt
    obtain ⟨W3, HW3⟩ : ∃ W3, Hid (W3 = (W2.setCell ⟨T, 4, none⟩ (.int .i64 (s.lost + u.c5))).drew) := ⟨_, rfl⟩
    have S3 : ST W3 base T mb vf gr cr gg cg ⟨s.us, s.fs, s.rm, s.gn, s.lost + u.c5⟩ := by rw [HW3.out]; exact (S2.setL (s.lost + u.c5)).later ((Below.refl _ _).drew)
    have B3 : Below base w W3 := by rw [HW3.out]; exact (bel_set (B2.mono hb) T 4 H.out.bT (.int .i64 (s.lost + u.c5))).drew
    have row3 : W3.rowIs w.heap.size 87 10 (uRow (life u (u.c4 - 7))) := by rw [HW3.out]; exact row_later (row_other row2 (a := ⟨T, 4, none⟩) (by have := H.out.row.lt; show w.heap.size ≠ T; omega) (.int .i64 (s.lost + u.c5))) ((Below.refl _ _).drew)
    have S3d := S3.later (w' := W3.drew) ((Below.refl _ _).drew)
    obtain ⟨W4, hrun, M4, hg4⟩ := S3d.m.drop u.c0 (wf_int (by omega) (by omega)) 0
    have S4 : ST W4 base T mb vf gr cr gg cg ⟨delU s.us u.c0, s.fs, s.rm, s.gn, s.lost + u.c5⟩ := S3d.turnM hg4 M4
    have B4 : Below base w W4 := B3.drew.grown hg4 (by have := B3.size; show base ≤ W3.heap.size; omega) (fun q hq => by cases hq; exact H.out.bm)
    clear t0 t1 t2 t3
    go_enter Tryz.func124, Tryz.ntmps124
    go_upto_region 1 with fail
    rw [← HW1.out]
    go_upto_region 2 with fail
    rw [← HW2.out]
    clear s0 s1 s2 s3 s4 s5 s6 s7 s8 s9 sl z4
    go_wp2_with fail
    go_region
    all_goals
      rw [← HW3.out]
      clear s5' s4' sl2 t4 tl tz
      obtain ⟨t0, t1, t2, t3, t4, tl⟩ := S3.cells
      have s0' : W3.cell? ⟨w.heap.size, 0, none⟩ = some (.int .i64 u.c0) := row3.cell (i := 0) (by omega)
      have sl3 := row3.lt
      clear t1 t2 t3 t4
      go_wp2_with fail
      go_region
      all_goals
        go_wp2_with fail
        try simp only [Exit.inBlock, Exit.then]
        refine bodyPost_ret (results_none rfl _ _ _) rfl ?_
        exact ⟨rfl, S4, B4⟩
  · have eS : stHit s u = stPut s (life u (u.c4 - 7)) := by unfold stHit; rw [if_neg hl]
    rw [eS]
    clear eS
    have hd : decide (u.c4 - 7 < 1) = false := decide_eq_false hl
    have cP := put_c base T mb vf gr cr gg cg s (life u (u.c4 - 7)) hr hn i0 i1 W2 S2
    go_enter Tryz.func124, Tryz.ntmps124
    go_upto_region 1 with fail
    rw [← HW1.out]
    go_upto_region 2 with fail
    rw [← HW2.out]
    clear s0 s1 s2 s3 s4 s5 s6 s7 s8 s9 sl z4
    obtain ⟨s0, s1, s2, s3, s4, s5, s6, s7, s8, s9, sl⟩ := U2
    go_wp2_with fail
    refine cP.mono ?_
    rintro e w8 ⟨rfl, S8, B8⟩
    go_wp2_with fail
    go_end0
    exact ⟨rfl, S8, (B2.mono hb).trans B8⟩
end Go.Proofs.YtlonmobfjpmokaaGreatDoor
end
