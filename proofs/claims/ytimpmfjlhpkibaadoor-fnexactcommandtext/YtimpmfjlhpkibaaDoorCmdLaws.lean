/- The walk of the exact law of CommandFault. Condition: the table of counts holds what its initialiser lays. -/
import Derived.Test.YtimpmfjlhpkibaaDoorCmdFault2
import Derived.Test.YtimpmfjlhpkibaaDoorCmdLaid
import Derived.Test.YtimpmfjlhpkibaaDoorOpenCmd
namespace Go.Proofs.YtimpmfjlhpkibaaDoor
open Go.ChangeShapes Go.WideShapes Go.ChangeAt Go.RowKit
open Cm
set_option linter.unusedVariables false

theorem toCommand_c (x0 x1 x2 x3 x4 x5 : Int) (w : World) :
    Calls Tryd.prog 26 #[.agg #[.int .i64 x0, .int .i64 x1, .int .i64 x2, .int .i64 x3, .int .i64 x4, .int .i64 x5]] w fun e w' => e = .returned (.agg (cmdV x0 x1 x2 x3 x4 x5)) ∧ Below w.heap.size w w' := by
  go_enter Tryd.func26, Tryd.ntmps26
  go_wp2
  refine bodyPost_ret (v := .agg (cmdV x0 x1 x2 x3 x4 x5)) ?_ rfl ⟨rfl, ?_⟩
  · simp [results, Tryd.results26, go_sem]
    done
  · exact (((Below.refl _ _).alloc (Nat.le_refl _) _).alloc (by simp only [size_new]; omega) _).alloc (by simp only [size_new]; omega) _

set_option maxHeartbeats 1000000 in
theorem walk_fnExactCommandFault (x0 x1 x2 x3 x4 x5 : Int) (f0 : (Lit.int .i64 x0).wf = true) (f1 : (Lit.int .i64 x1).wf = true) (f2 : (Lit.int .i64 x2).wf = true) (f3 : (Lit.int .i64 x3).wf = true) (f4 : (Lit.int .i64 x4).wf = true) (f5 : (Lit.int .i64 x5).wf = true) (w : World) (hL : PcAt w) :
    Calls Tryd.prog 4 #[.agg #[.int .i64 x0, .int .i64 x1, .int .i64 x2, .int .i64 x3, .int .i64 x4, .int .i64 x5]] w fun e w' => e = .returned (.bool true) ∧ Below w.heap.size w w' := by
  have c0 := fun w => toCommand_c x0 x1 x2 x3 x4 x5 w
  have c1 := fun w => specCommandFault x0 x1 x2 x3 x4 x5 w
  have c2 := fun w hL => implCommandFault x0 x1 x2 x3 x4 x5 w hL
  generalize flt x0 x1 x2 x3 x4 x5 = C at c1 c2
  clear f0 f1 f2 f3 f4 f5
  have A0 := (Below.refl w.heap.size w).alloc (Nat.le_refl _) (.cells (cmdV x0 x1 x2 x3 x4 x5) 44)
  have K0 := Cmd.new w x0 x1 x2 x3 x4 x5 44
  go_enter Tryd.func4, Tryd.ntmps4
  go_wp2_with fail
  refine (c0 _).mono ?_
  rintro e w1 ⟨rfl, b1⟩
  have A1 := A0.trans (b1.mono A0.size)
  go_wp2_with fail
  refine (c1 _).mono ?_
  rintro e w2 ⟨rfl, b2⟩
  have A2 := A1.trans (b2.mono A1.size)
  obtain ⟨q0, q1, q2, q3, q4, q5, ql⟩ := (K0.later b1).later b2
  go_wp2_with fail
  refine (c0 _).mono ?_
  rintro e w3 ⟨rfl, b3⟩
  have A3 := A2.trans (b3.mono A2.size)
  go_wp2_with fail
  refine (c2 _ (hL.later A3)).mono ?_
  rintro e w4 ⟨rfl, b4⟩
  have A4 := A3.trans (b4.mono A3.size)
  go_wp2
  go_ret
  exact ⟨rfl, A4⟩
end Go.Proofs.YtimpmfjlhpkibaaDoor
