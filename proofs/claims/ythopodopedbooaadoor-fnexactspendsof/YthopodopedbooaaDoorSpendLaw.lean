/- The contracts of SpendsOf and of its model, and the walk of its exact law. Condition, for the program's own: its table of counts holds what its initialiser lays. -/
import Derived.Test.YthopodopedbooaaDoorCmdFault2
import Derived.Test.YthopodopedbooaaDoorCmdLaid
import Derived.Test.YthopodopedbooaaDoorCmdLaws
namespace Go.Proofs.YthopodopedbooaaDoor
open Go.ChangeShapes Go.WideShapes Go.ChangeAt Go.RowKit
open Cm
set_option linter.unusedVariables false

/- what a command spends -/
def spV (cl sq k a b c : Int) : Int := if (flt cl sq k a b c == 0) = true then if (k == 4) = true then b else 0 else 0
theorem sp_cases (cl sq k a b c : Int) : ((flt cl sq k a b c != 0) = true ∧ spV cl sq k a b c = 0) ∨ (flt cl sq k a b c = 0 ∧ (k == 4) = false ∧ spV cl sq k a b c = 0) ∨ (flt cl sq k a b c = 0 ∧ (k == 4) = true ∧ spV cl sq k a b c = b) := by
  unfold spV
  by_cases e : flt cl sq k a b c = 0
  · cases e4 : k == 4 <;> simp [e]
  · simp [e]
theorem new_at (w1 w2 : World) (cs : Array Value) (t : TypeId) (i : Nat) (v : Value) (h : cs[i]? = some v) (hb : Below (w1.alloc (.cells cs t)).heap.size (w1.alloc (.cells cs t)) w2) : w2.cell? ⟨w1.heap.size, i, none⟩ = some v ∧ w2.frozen? ⟨w1.heap.size, i, none⟩ = false := by
  constructor
  · rw [hb.cell (by show w1.heap.size < _; rw [size_new]; omega)]; exact cell_new _ _ _ _ _ h
  · rw [hb.frozen (p := ⟨w1.heap.size, i, none⟩) (by show w1.heap.size < _; rw [size_new]; omega)]; exact frozen_new _ _ _ _
theorem specSpendsOf (cl sq k a b c : Int) (w : World) :
    Calls Tryd.prog 5 #[.agg (cmdV cl sq k a b c)] w fun e w' => e = .returned (.agg #[.int .i64 (flt cl sq k a b c), .int .i64 (spV cl sq k a b c)]) ∧ Below w.heap.size w w' := by
  have C0 := Cmd.new w cl sq k a b c 27
  have A9 : Below w.heap.size w (w.alloc (.cells (cmdV cl sq k a b c) 27)) := (Below.refl w.heap.size w).alloc (Nat.le_refl _) _
  have A0 : Below w.heap.size w ((w.alloc (.cells (cmdV cl sq k a b c) 27)).alloc (.cells #[.int .i64 0, .int .i64 0] 25)) := A9.alloc A9.size _
  have C2 := C0.later ((Below.refl _ _).alloc (Nat.le_refl _) (.cells #[.int .i64 0, .int .i64 0] 25))
  obtain ⟨W2, HW2⟩ : ∃ W2, Hid (W2 = (w.alloc (.cells (cmdV cl sq k a b c) 27)).alloc (.cells #[.int .i64 0, .int .i64 0] 25)) := ⟨_, rfl⟩
  have n0 := fun w2 (h : Below W2.heap.size W2 w2) => new_at (w.alloc (.cells (cmdV cl sq k a b c) 27)) w2 #[.int .i64 0, .int .i64 0] 25 0 (.int .i64 0) rfl (by rw [HW2.out] at h; exact h)
  have n1 := fun w2 (h : Below W2.heap.size W2 w2) => new_at (w.alloc (.cells (cmdV cl sq k a b c) 27)) w2 #[.int .i64 0, .int .i64 0] 25 1 (.int .i64 0) rfl (by rw [HW2.out] at h; exact h)
  have hz : W2.heap.size = w.heap.size + 2 := by rw [HW2.out]; simp only [size_new]
  simp only [size_new] at n0 n1
  rw [← HW2.out] at A0 C2
  have c1 := l3Fault_c w.heap.size cl sq k a b c W2 C2
  rcases sp_cases cl sq k a b c with ⟨h, e⟩ | ⟨h, h4, e⟩ | ⟨h, h4, e⟩
  all_goals
    rw [e]
    clear e
    first
    | (rw [h] at c1 ⊢)
    | (generalize flt cl sq k a b c = F at c1 h ⊢)
    go_enter Tryd.func5, Tryd.ntmps5
    go_upto_region 1 with fail
    try rw [← HW2.out]
    go_wp2_with fail
    refine c1.mono ?_
    rintro e w1 ⟨rfl, b1⟩
    have A1 := A0.trans (b1.mono A0.size)
    obtain ⟨q0, q1, q2, q3, q4, q5, ql⟩ := C2.later b1
    obtain ⟨r0, f0⟩ := n0 _ b1
    obtain ⟨r1, f1⟩ := n1 _ b1
    have rl : w.heap.size + 1 < w1.heap.size := by have := b1.size; omega
    go_wp2
    refine bodyPost_ret ?_ rfl ⟨rfl, ?_⟩
    · simp [results, Tryd.results5, go_sem, r0, r1]
      done
    · exact (A1.setCell (by show w.heap.size ≤ w.heap.size + 1; omega) _).setCell (by show w.heap.size ≤ w.heap.size + 1; omega) _
theorem implSpendsOf (cl sq k a b c : Int) (w : World) (hL : PcAt w) :
    Calls Tryd.prog 7 #[.agg (cmdV cl sq k a b c)] w fun e w' => e = .returned (.agg #[.int .i64 (flt cl sq k a b c), .int .i64 (spV cl sq k a b c)]) ∧ Below w.heap.size w w' := by
  have C0 := Cmd.new w cl sq k a b c 27
  have A9 : Below w.heap.size w (w.alloc (.cells (cmdV cl sq k a b c) 27)) := (Below.refl w.heap.size w).alloc (Nat.le_refl _) _
  have A0 : Below w.heap.size w ((w.alloc (.cells (cmdV cl sq k a b c) 27)).alloc (.cells #[.int .i64 0, .int .i64 0] 25)) := A9.alloc A9.size _
  have C2 := C0.later ((Below.refl _ _).alloc (Nat.le_refl _) (.cells #[.int .i64 0, .int .i64 0] 25))
  obtain ⟨W2, HW2⟩ : ∃ W2, Hid (W2 = (w.alloc (.cells (cmdV cl sq k a b c) 27)).alloc (.cells #[.int .i64 0, .int .i64 0] 25)) := ⟨_, rfl⟩
  have n0 := fun w2 (h : Below W2.heap.size W2 w2) => new_at (w.alloc (.cells (cmdV cl sq k a b c) 27)) w2 #[.int .i64 0, .int .i64 0] 25 0 (.int .i64 0) rfl (by rw [HW2.out] at h; exact h)
  have n1 := fun w2 (h : Below W2.heap.size W2 w2) => new_at (w.alloc (.cells (cmdV cl sq k a b c) 27)) w2 #[.int .i64 0, .int .i64 0] 25 1 (.int .i64 0) rfl (by rw [HW2.out] at h; exact h)
  have hz : W2.heap.size = w.heap.size + 2 := by rw [HW2.out]; simp only [size_new]
  simp only [size_new] at n0 n1
  rw [← HW2.out] at A0 C2
  have HC2 : Hid (Cmd W2 w.heap.size cl sq k a b c) := C2
  have c1 := implCommandFault cl sq k a b c W2 (hL.later A0)
  rcases sp_cases cl sq k a b c with ⟨h, e⟩ | ⟨h, h4, e⟩ | ⟨h, h4, e⟩
  all_goals
    rw [e]
    clear e
    first
    | (rw [h] at c1 ⊢)
    | (generalize flt cl sq k a b c = F at c1 h ⊢)
    obtain ⟨p0, p1, p2, p3, p4, p5, pl⟩ := C2
    go_enter Tryd.func7, Tryd.ntmps7
    go_upto_region 1 with fail
    try rw [← HW2.out]
    go_wp2_with fail
    refine c1.mono ?_
    rintro e w1 ⟨rfl, b1⟩
    have A1 := A0.trans (b1.mono A0.size)
    clear p0 p1 p2 p3 p4 p5 pl
    obtain ⟨q0, q1, q2, q3, q4, q5, ql⟩ := HC2.out.later b1
    obtain ⟨r0, f0⟩ := n0 _ b1
    obtain ⟨r1, f1⟩ := n1 _ b1
    have rl : w.heap.size + 1 < w1.heap.size := by have := b1.size; omega
    go_wp2
    refine bodyPost_ret ?_ rfl ⟨rfl, ?_⟩
    · simp [results, Tryd.results7, go_sem, r0, r1]
      done
    · exact (A1.setCell (by show w.heap.size ≤ w.heap.size + 1; omega) _).setCell (by show w.heap.size ≤ w.heap.size + 1; omega) _
theorem pcAtS {W : World} (h : laidMetH Tryd.prog Rows.fnExactSpendsOfRow.laid W) : PcAt W := by
  rw [MakeChecks.laidMetH_plain _ _ _ (by kernel_rfl)] at h
  exact pcAt_head h
set_option maxHeartbeats 1000000 in
theorem walk_fnExactSpendsOf (x0 x1 x2 x3 x4 x5 : Int) (f0 : (Lit.int .i64 x0).wf = true) (f1 : (Lit.int .i64 x1).wf = true) (f2 : (Lit.int .i64 x2).wf = true) (f3 : (Lit.int .i64 x3).wf = true) (f4 : (Lit.int .i64 x4).wf = true) (f5 : (Lit.int .i64 x5).wf = true) (w : World) (hL : PcAt w) :
    Calls Tryd.prog 3 #[.agg #[.int .i64 x0, .int .i64 x1, .int .i64 x2, .int .i64 x3, .int .i64 x4, .int .i64 x5]] w fun e w' => e = .returned (.bool true) ∧ Below w.heap.size w w' := by
  have c0 := fun w => toCommand_c x0 x1 x2 x3 x4 x5 w
  have c1 := fun w => specSpendsOf x0 x1 x2 x3 x4 x5 w
  have c2 := fun w hL => implSpendsOf x0 x1 x2 x3 x4 x5 w hL
  generalize flt x0 x1 x2 x3 x4 x5 = C at c1 c2
  generalize spV x0 x1 x2 x3 x4 x5 = S at c1 c2
  clear f0 f1 f2 f3 f4 f5
  have A0 := (Below.refl w.heap.size w).alloc (Nat.le_refl _) (.cells (cmdV x0 x1 x2 x3 x4 x5) 23)
  have K0 := Cmd.new w x0 x1 x2 x3 x4 x5 23
  go_enter Tryd.func3, Tryd.ntmps3
  go_wp2_with fail
  refine (c0 _).mono ?_
  rintro e w1 ⟨rfl, b1⟩
  have A1 := A0.trans (b1.mono A0.size)
  go_wp2_with fail
  refine (c1 _).mono ?_
  rintro e w2 ⟨rfl, b2⟩
  have A2 := A1.trans (b2.mono A1.size)
  have B2 := A2.alloc A2.size (.cells #[.int .i64 C, .int .i64 S] 25)
  obtain ⟨q0, q1, q2, q3, q4, q5, ql⟩ := (K0.later b1).later b2
  go_wp2_with fail
  refine (c0 _).mono ?_
  rintro e w3 ⟨rfl, b3⟩
  have A3 := B2.trans (b3.mono B2.size)
  clear q0 q1 q2 q3 q4 q5 ql
  go_wp2_with fail
  refine (c2 _ (hL.later A3)).mono ?_
  rintro e w4 ⟨rfl, b4⟩
  have A4 := A3.trans (b4.mono A3.size)
  have hz3 := b3.size
  have hz4 := b4.size
  simp only [size_new] at hz3
  have tl : w2.heap.size < w4.heap.size := by omega
  have t0 : w4.cell? ⟨w2.heap.size, 0, none⟩ = some (.int .i64 C) := by rw [b4.cell (by show w2.heap.size < _; omega), b3.cell (by simp only [size_new]; omega)]; exact cell_new _ _ _ _ _ rfl
  have t1 : w4.cell? ⟨w2.heap.size, 1, none⟩ = some (.int .i64 S) := by rw [b4.cell (by show w2.heap.size < _; omega), b3.cell (by simp only [size_new]; omega)]; exact cell_new _ _ _ _ _ rfl
  go_wp2_with (go_at_call 8; refine (eqIntResult_same _ _ _).mono ?_; rintro e w' ⟨rfl, rfl⟩)
  go_ret
  exact ⟨rfl, ((A4.alloc A4.size _).alloc (by have := A4.size; simp only [size_new]; omega) _).alloc (by have := A4.size; simp only [size_new]; omega) _⟩
end Go.Proofs.YthopodopedbooaaDoor
