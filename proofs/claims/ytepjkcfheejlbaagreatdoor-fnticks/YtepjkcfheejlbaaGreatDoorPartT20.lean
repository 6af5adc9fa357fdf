/- Texts of mine put together (a claim holds at most 60 files): TickImpl7, TickSpec3. -/
import Derived.Test.YtepjkcfheejlbaaGreatDoorPartT18
import Derived.Test.YtepjkcfheejlbaaGreatDoorPartT19

/- TickImpl7 -/
/- Contracts of the program's jobs: to go, to harvest. Condition: the state is the call's own; the homes lie in their variable. -/
section
namespace Go.Proofs.YtepjkcfheejlbaaGreatDoor
open Go.ChangeShapes Go.WideShapes Go.ChangeAt Go.RowKit
open Bd
set_option linter.unusedVariables false

/- the state behind a unit's turn -/
def ofTk (s : TS) (u : K10) (t : Tk) : TS := ⟨t.us, t.fs, addAt s.rm u.c1.toNat (-t.give), addAt s.gn u.c1.toNat t.give, s.lost + t.lost⟩
theorem ofTk_put (s : TS) (u x : K10) : ofTk s u ⟨putU x s.us, s.fs, 0, 0⟩ = stPut s x := by unfold ofTk stPut; simp only [Int.neg_zero, addAt_zero, Int.add_zero]
theorem ofTk_give (s : TS) (u x : K10) (g : Int) : ofTk s u ⟨putU x s.us, s.fs, g, 0⟩ = stGive s x u.c1.toNat g := by unfold ofTk stGive; simp only [Int.add_zero]
theorem ofTk_take (s : TS) (u : K10) (p : Nat) (f : K3) (n : Int) : ofTk s u ⟨putU (carr u (u.c5 + n)) s.us, s.fs.set p (leftF f (f.c2 - n)), 0, 0⟩ = stTake s u p f n := by unfold ofTk stTake; simp only [Int.neg_zero, addAt_zero, Int.add_zero]
theorem ofTk_hit (s : TS) (u p : K10) : ofTk s u (tkHit s.us s.fs p) = stHit s p := by
  unfold tkHit stHit
  split
  · unfold ofTk; simp only [Int.neg_zero, addAt_zero]
  · exact ofTk_put s u _
theorem ofTk_self (s : TS) (u : K10) : ofTk s u ⟨s.us, s.fs, 0, 0⟩ = s := by unfold ofTk; simp only [Int.neg_zero, addAt_zero, Int.add_zero]
set_option maxRecDepth 20000 in
set_option maxHeartbeats 16000000 in
theorem move_c (base T mb : Nat) (vf : Value) (gr cr gg cg : Nat) (s : TS) (u : K10) (hr : Rise s.us) (hn : s.us.length ≤ 8) (gu : GU u) (hj : u.c6 = 1) (w : World) (h : ST w base T mb vf gr cr gg cg s) :
    Calls Tryz.prog 105 #[.pointer (some ⟨T, 0, none⟩), .agg u.v] w fun e w' => e = .returned (.tuple #[]) ∧ ST w' base T mb vf gr cr gg cg (ofTk s u (tkMove s.us s.fs u)) ∧ KB base T mb vf gr gg w w' := by
  obtain ⟨W1, HW1, B1, U0, row⟩ := boxU w u
  have hto : 0 ≤ u.c7 ∧ u.c7 ≤ 11 ∧ 0 ≤ u.c8 ∧ u.c8 ≤ 11 := by
    rcases gu.j with ⟨a, _⟩ | ⟨_, _, a⟩ | ⟨a, _⟩ | ⟨a, _⟩
    · omega
    · exact a
    · omega
    · omega
  have hb := h.base
  have cE := endJob_c base T mb vf gr cr gg cg s u hr hn gu.i0 gu.i1 W1 (h.later B1)
  have cS := step_c base T mb vf gr cr gg cg s u u.c7 u.c8 hr hn gu hto.1 hto.2.1 hto.2.2.1 hto.2.2.2 W1 (h.later B1)
  have Bb : KB base T mb vf gr gg w W1 := KB.of B1 hb
  obtain ⟨s0, s1, s2, s3, s4, s5, s6, s7, s8, s9, sl⟩ := U0
  clear h row gu hto hj
  rcases at2_cases u.c2 u.c3 u.c7 u.c8 with ⟨e, _, _, n1, n2⟩ | ⟨e, hn⟩
  · have eT : tkMove s.us s.fs u = ⟨putU (idle u) s.us, s.fs, 0, 0⟩ := by unfold tkMove; rw [if_pos e]
    rw [eT, ofTk_put]
    clear eT e
    go_enter Tryz.func105, Tryz.ntmps105
    go_upto_region 1 with fail
    rw [← HW1.out]
    go_wp2_with fail
    refine cE.mono ?_
    rintro e w8 ⟨rfl, S8, B8⟩
    go_wp2_with fail
    try simp only [Exit.inBlock, Exit.then]
    refine bodyPost_ret (results_none rfl _ _ _) rfl ?_
    exact ⟨rfl, S8, Bb.trans B8⟩
  · have eT : tkMove s.us s.fs u = ⟨putU (goTo u u.c7 u.c8) s.us, s.fs, 0, 0⟩ := by unfold tkMove; rw [if_neg (by rw [e]; simp)]
    rw [eT, ofTk_put]
    clear eT e
    rcases hn with ⟨_, n1⟩ | ⟨_, _, n1, n2⟩
    all_goals
      go_enter Tryz.func105, Tryz.ntmps105
      go_upto_region 1 with fail
      rw [← HW1.out]
      go_wp2_with fail
      refine cS.mono ?_
      rintro e w8 ⟨rfl, S8, B8⟩
      go_wp2_with fail
      go_end0
      exact ⟨rfl, S8, Bb.trans B8⟩
theorem full_cases_i {u : K10} {f : K3} : (full u f = true ∧ ((u.c5 == 20) = true ∨ ((u.c5 == 20) = false ∧ (0 : Int) < u.c5 ∧ (f.c2 == 0) = true))) ∨
    (full u f = false ∧ (f.c2 == 0) = true ∧ (u.c5 == 20) = false ∧ decide ((0 : Int) < u.c5) = false) ∨
    (full u f = false ∧ (f.c2 == 0) = false ∧ (u.c5 == 20) = false ∧ (decide ((0 : Int) < u.c5) = false ∨ (0 : Int) < u.c5)) := by
  unfold full
  cases a : u.c5 == 20
  · by_cases b : 0 < u.c5
    · have b1 : decide ((0 : Int) < u.c5) = true := decide_eq_true b
      rw [b1]
      cases c : f.c2 == 0
      · exact .inr (.inr ⟨rfl, rfl, rfl, .inr b⟩)
      · exact .inl ⟨rfl, .inr ⟨rfl, b, rfl⟩⟩
    · have b1 : decide ((0 : Int) < u.c5) = false := decide_eq_false b
      rw [b1]
      cases c : f.c2 == 0
      · exact .inr (.inr ⟨rfl, rfl, rfl, .inl rfl⟩)
      · exact .inr (.inl ⟨rfl, rfl, rfl, rfl⟩)
  · exact .inl ⟨rfl, .inl rfl⟩
/- what the program's harvest is handed -/
structure HI (w : World) (base T mb : Nat) (vf : Value) (gr cr gg cg : Nat) (s : TS) (u : K10) : Prop where
  st : ST w base T mb vf gr cr gg cg s
  tg : TG s
  gu : GU u
  hj : u.c6 = 2
  ho : u.c1 ≠ 9
theorem HI.prey {w : World} {base T mb : Nat} {vf : Value} {gr cr gg cg : Nat} {s : TS} {u : K10} (h : HI w base T mb vf gr cr gg cg s u) : 0 ≤ u.c9 := by
  have := h.hj
  rcases h.gu.j with ⟨a, _⟩ | ⟨a, _⟩ | ⟨_, _, _, b, _⟩ | ⟨a, _⟩ <;> omega
set_option maxRecDepth 20000 in
set_option maxHeartbeats 16000000 in
theorem harv_none (base T mb : Nat) (vf : Value) (gr cr gg cg : Nat) (s : TS) (u : K10) (w : World) (h : HI w base T mb vf gr cr gg cg s u) (hf : s.fs[u.c9.toNat]? = none) :
    Calls Tryz.prog 106 #[.pointer (some ⟨T, 0, none⟩), .agg u.v] w fun e w' => e = .returned (.tuple #[]) ∧ ST w' base T mb vf gr cr gg cg (stPut s (idle u)) ∧ KB base T mb vf gr gg w w' := by
  obtain ⟨W1, HW1, B1, U0, row⟩ := boxU w u
  have hb := h.st.base
  have p0 := h.prey
  have hge : (s.fs.length : Int) ≤ u.c9 := by have := List.getElem?_eq_none_iff.1 hf; omega
  obtain ⟨af, cf, rfl, _⟩ := h.st.f.form
  have S1 := h.st.later B1
  have Hd : Hid (∀ j, ST (W1.drewN j) base T mb (.slice af s.fs.length cf) gr cr gg cg s) := fun j => S1.later (below_drewN _ j)
  have cE := fun W hS => endJob_c base T mb (.slice af s.fs.length cf) gr cr gg cg s u h.tg.gd.r h.tg.gd.n8 h.gu.i0 h.gu.i1 W hS
  have Bb : Hid (∀ j, KB base T mb (.slice af s.fs.length cf) gr gg w (W1.drewN j)) := fun j => KB.of (B1.trans ((below_drewN _ j).mono B1.size)) hb
  obtain ⟨s0, s1, s2, s3, s4, s5, s6, s7, s8, s9, sl⟩ := U0
  obtain ⟨t0, t1, t2, t3, t4, tl⟩ := S1.cells
  generalize s.fs.length = m' at hge t1 Hd cE Bb ⊢
  clear h row S1 hf t0 t2 t3 t4
  go_enter Tryz.func106, Tryz.ntmps106
  go_upto_region 1 with fail
  rw [← HW1.out]
  go_quiet (fail)
  go_wp2_with fail
  refine (cE _ (Hd.out _)).mono ?_
  rintro e w8 ⟨rfl, S8, B8⟩
  go_wp2_with fail
  try simp only [Exit.inBlock, Exit.then]
  refine bodyPost_ret (results_none rfl _ _ _) rfl ?_
  exact ⟨rfl, S8, (Bb.out _).trans B8⟩
set_option maxRecDepth 20000 in
set_option maxHeartbeats 16000000 in
theorem harv_call (base T mb gf p cf m' : Nat) (gr cr gg cg : Nat) (s s' : TS) (u : K10) (f : K3) (w : World) (h : SF w base T mb gf p cf m' gr cr gg cg s u f)
    (hq : (((u.c5 == 20) = true ∨ ((u.c5 == 20) = false ∧ (0 : Int) < u.c5 ∧ (f.c2 == 0) = true)) ∧ (∀ W, Below w.heap.size w W → Calls Tryz.prog 121 #[.pointer (some ⟨T, 0, none⟩), .agg u.v] W fun e w' => e = .returned (.tuple #[]) ∧ ST w' base T mb (.slice (some ⟨gf, 0, none⟩) m' cf) gr cr gg cg s' ∧ KB base T mb (.slice (some ⟨gf, 0, none⟩) m' cf) gr gg W w')) ∨
      (((f.c2 == 0) = true ∧ (u.c5 == 20) = false ∧ decide ((0 : Int) < u.c5) = false) ∧ (∀ W, Below w.heap.size w W → Calls Tryz.prog 119 #[.pointer (some ⟨T, 0, none⟩), .agg u.v] W fun e w' => e = .returned (.tuple #[]) ∧ ST w' base T mb (.slice (some ⟨gf, 0, none⟩) m' cf) gr cr gg cg s' ∧ KB base T mb (.slice (some ⟨gf, 0, none⟩) m' cf) gr gg W w')) ∨
      (((f.c2 == 0) = false ∧ (u.c5 == 20) = false ∧ (decide ((0 : Int) < u.c5) = false ∨ (0 : Int) < u.c5)) ∧ (∀ W, Below w.heap.size w W → Calls Tryz.prog 122 #[.pointer (some ⟨T, 0, none⟩), .agg u.v] W fun e w' => e = .returned (.tuple #[]) ∧ ST w' base T mb (.slice (some ⟨gf, 0, none⟩) m' cf) gr cr gg cg s' ∧ KB base T mb (.slice (some ⟨gf, 0, none⟩) m' cf) gr gg W w'))) :
    Calls Tryz.prog 106 #[.pointer (some ⟨T, 0, none⟩), .agg u.v] w fun e w' => e = .returned (.tuple #[]) ∧ ST w' base T mb (.slice (some ⟨gf, 0, none⟩) m' cf) gr cr gg cg s' ∧ KB base T mb (.slice (some ⟨gf, 0, none⟩) m' cf) gr gg w w' := by
  obtain ⟨W1, HW1, B1, U0, row⟩ := boxU w u
  have hb := h.st.base
  have h1 := h.later B1
  have Bw : Hid (∀ j, Below w.heap.size w (W1.drewN j)) := fun j => B1.trans ((below_drewN _ j).mono B1.size)
  have Bb : Hid (∀ j, KB base T mb (.slice (some ⟨gf, 0, none⟩) m' cf) gr gg w (W1.drewN j)) := fun j => KB.of (B1.trans ((below_drewN _ j).mono B1.size)) hb
  obtain ⟨s0, s1, s2, s3, s4, s5, s6, s7, s8, s9, sl⟩ := U0
  obtain ⟨t0, t1, t2, t3, t4, tl⟩ := h1.st.cells
  obtain ⟨f0, f1, f2⟩ := h1.a.one
  rw [← h.hp] at f0 f1 f2
  have fl := h1.a.lt
  have p0 := h.p0
  have pl := h.lt
  have hlt : decide ((m' : Int) ≤ u.c9) = false := decide_eq_false (by omega)
  clear h row h1 t0 t2 t3 t4
  rcases hq with ⟨q, cB⟩ | ⟨⟨q0, q1, q2⟩, cB⟩ | ⟨⟨q0, q1, q2⟩, cB⟩
  · rcases q with q | ⟨q, q1, q2⟩
    all_goals
      go_enter Tryz.func106, Tryz.ntmps106
      go_upto_region 1 with fail
      rw [← HW1.out]
      go_quiet (fail)
      go_wp2_with fail
      go_quiet (fail)
      go_wp2_with fail
      refine (cB _ (Bw.out _)).mono ?_
      rintro e w8 ⟨rfl, S8, B8⟩
      go_wp2_with fail
      go_end0
      exact ⟨rfl, S8, (Bb.out _).trans B8⟩
  · go_enter Tryz.func106, Tryz.ntmps106
    go_upto_region 1 with fail
    rw [← HW1.out]
    go_quiet (fail)
    go_wp2_with fail
    go_quiet (fail)
    go_wp2_with fail
    refine (cB _ (Bw.out _)).mono ?_
    rintro e w8 ⟨rfl, S8, B8⟩
    go_wp2_with fail
    go_end0
    exact ⟨rfl, S8, (Bb.out _).trans B8⟩
  · rcases q2 with q2 | q2
    all_goals
      go_enter Tryz.func106, Tryz.ntmps106
      go_upto_region 1 with fail
      rw [← HW1.out]
      go_quiet (fail)
      go_wp2_with fail
      go_quiet (fail)
      go_wp2_with fail
      refine (cB _ (Bw.out _)).mono ?_
      rintro e w8 ⟨rfl, S8, B8⟩
      go_wp2_with fail
      go_end0
      exact ⟨rfl, S8, (Bb.out _).trans B8⟩
end Go.Proofs.YtepjkcfheejlbaaGreatDoor
end

/- TickSpec3 -/
/- The contract of the model's harvest. Condition: the board is the call's own copy, without a fault. -/
section
namespace Go.Proofs.YtepjkcfheejlbaaGreatDoor
open Go.ChangeShapes Go.WideShapes Go.ChangeAt Go.RowKit
open Bd
set_option linter.unusedVariables false

theorem left_upd (f : K3) (x : Int) : f.upd 2 x = leftF f x := rfl
theorem HF.ne {w : World} {base B o g cap k m' p gf cf : Nat} {us : List K10} {fs : List K3} {u : K10} {f : K3} {room : Int} (h : HF w base B o g cap k m' p gf cf us fs u f room) : g ≠ gf ∧ B ≠ g ∧ B ≠ gf :=
  ⟨fun e => apartUF h.i.sb.u h.i.sb.f g rfl (by rw [e]; rfl), fun e => h.i.sb.nu (by rw [e]; rfl), fun e => h.i.sb.nf (by rw [e]; rfl)⟩
theorem HF.take {w : World} {base B o g cap k m' p gf cf : Nat} {us : List K10} {fs : List K3} {u : K10} {f : K3} {room : Int} (h : HF w base B o g cap k m' p gf cf us fs u f room) (x y : Int) :
    HOut w ((w.setCell ⟨gf, p * 3 + 2, none⟩ (.int .i64 x)).setCell ⟨g, k * 10 + 5, none⟩ (.int .i64 y)) base B o g cap (.slice (some ⟨gf, 0, none⟩) m' cf) us.length (putU (carr u y) us) (fs.set p (leftF f x)) := by
  obtain ⟨n1, n2, n3⟩ := h.ne
  have aU := ((h.i.sb.at h.i.hk).other (b := gf) (o := p * 3 + 2) n1 (.int .i64 x)).set 5 (by omega) y
  have aF := (h.a.set 2 (by omega) x).other (b := g) (o := k * 10 + 5) (Ne.symm n1) (.int .i64 y)
  rw [carr_upd] at aU
  rw [left_upd] at aF
  have eB : ((w.setCell ⟨gf, p * 3 + 2, none⟩ (.int .i64 x)).setCell ⟨g, k * 10 + 5, none⟩ (.int .i64 y)).heap[B]? = w.heap[B]? := (Below.heap_setCell _ _ _ _ n2).trans (Below.heap_setCell _ _ _ _ n3)
  have K : KeptS (fun b => b = g ∨ (Value.slice (some ⟨gf, 0, none⟩) m' cf).ownBlock = some b) w ((w.setCell ⟨gf, p * 3 + 2, none⟩ (.int .i64 x)).setCell ⟨g, k * 10 + 5, none⟩ (.int .i64 y)) :=
    ((KeptS.refl _ w).set (g := gf) (o := p * 3 + 2) (.inr rfl) (.int .i64 x)).set (g := g) (o := k * 10 + 5) (.inl rfl) (.int .i64 y)
  have us' := aU.s
  have fs' := aF.s
  rw [List.length_set] at us' fs'
  rw [h.m] at fs'
  rw [set_put (u' := carr u y) h.i.gd.r h.i.hk rfl] at us'
  exact ⟨⟨by rw [cell_blk eB]; exact h.i.sb.c0, by rw [cell_blk eB]; exact h.i.sb.c1, by rw [frozen_blk eB]; exact h.i.sb.fz, Nat.lt_of_lt_of_le h.i.sb.lt K.size, us', fs', h.i.sb.nu, h.i.sb.nf⟩, K⟩
set_option maxRecDepth 20000 in
set_option maxHeartbeats 8000000 in
theorem l5Harvest_take (base B o g cap k m' p gf cf : Nat) (us : List K10) (fs : List K3) (u : K10) (f : K3) (room : Int) (w : World) (h : HF w base B o g cap k m' p gf cf us fs u f room) (q0 : (f.c2 == 0) = false) (q1 : decide ((20 : Int) ≤ u.c5) = false) (q2 : decide ((0 : Int) < u.c5) = false ∨ (0 : Int) < u.c5)
    (q3 : (u.c2 == f.c0) = true) (q4 : (u.c3 == f.c1) = true) :
    Calls Tryz.prog 83 #[.pointer (some ⟨B, o, none⟩), .pointer (some ⟨g, k * 10, none⟩), .int .i64 room] w fun e w' => e = .returned (.int .i64 0) ∧ HOut w w' base B o g cap (.slice (some ⟨gf, 0, none⟩) m' cf) us.length (putU (carr u (u.c5 + tkn u f)) us) (fs.set p (leftF f (f.c2 - tkn u f))) := by
  have hlt : decide ((m' : Int) ≤ (p : Int)) = false := decide_eq_false (by have := (List.getElem?_eq_some_iff.1 h.a.h).1; have := h.m; omega)
  have hlt' : (p : Int) < (m' : Int) := by have := (List.getElem?_eq_some_iff.1 h.a.h).1; have := h.m; omega
  have a := h.i.sb.at h.i.hk
  have H : Hid (HF w base B o g cap k m' p gf cf us fs u f room) := h
  have hb := tkn_bd h.gu h.gf
  have g0 := h.gu.c0
  have g1 := h.gu.c1
  have l0 := h.gf.l0
  have l1 := h.gf.l1
  have cM := fun (a b : Int) w => specMin a b w
  obtain ⟨N, HN⟩ : ∃ N, Hid (tkn u f = N) := ⟨_, rfl⟩
  have hN : mn 5 (mn f.c2 (20 - u.c5)) = N := HN.out
  rw [HN.out] at hb ⊢
  have hw : IntKind.i64.wrap (20 - u.c5) = 20 - u.c5 := by rw [IntKind.wrap_i64]; omega
  obtain ⟨c0, c1, c2, c3, c4, c5, c6, c7, c8, c9, cl⟩ := a.one
  rw [h.hp] at c9
  obtain ⟨f0, f1, f2⟩ := h.a.one
  have fl := h.a.lt
  have fz := h.a.frozen (p * 3 + 2)
  have uz := a.frozen (k * 10 + 5)
  have b0 := h.i.sb.c0
  have b1 := h.i.sb.c1
  have bl := h.i.sb.lt
  obtain ⟨n, Hn⟩ : ∃ n, Hid (us.length = n) := ⟨_, rfl⟩
  rw [Hn.out] at b0
  obtain ⟨n1, n2, n3⟩ := h.ne
  have hcell : ∀ j, ((w.drewN j).setCell ⟨gf, p * 3 + 2, none⟩ (.int .i64 (f.c2 - N))).cell? ⟨g, k * 10 + 5, none⟩ = some (.int .i64 u.c5) := fun j => by rw [World.cell?_setCell_far _ _ _ _ (Ne.symm n1)]; exact c5
  have hfr : ∀ j, ((w.drewN j).setCell ⟨gf, p * 3 + 2, none⟩ (.int .i64 (f.c2 - N))).frozen? ⟨g, k * 10 + 5, none⟩ = false := fun j => by rw [frozen_blk (Below.heap_setCell _ _ _ _ n1)]; exact uz
  clear h a
  rcases q2 with q2 | q2
  all_goals
    go_enter Tryz.func83, Tryz.ntmps83
    go_wp2_with fail
    go_quiet (fail)
    go_wp2_with fail
    go_quiet (fail)
    go_wp2_with fail
    go_quiet (fail)
    go_wp2_with fail
    go_quiet (first | (go_at_call 113; refine (cM _ _ _).mono (fun _ _ h => ⟨h.1, _, h.2⟩)))
    rw [hN]
    go_wp2_with fail
    go_ret
    exact ⟨rfl, ((H.out.drewN _).take _ _).drewN⟩
end Go.Proofs.YtepjkcfheejlbaaGreatDoor
end
