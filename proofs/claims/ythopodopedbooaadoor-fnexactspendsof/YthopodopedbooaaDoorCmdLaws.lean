/- The walk of the exact law of CommandFault. Condition: the table of counts holds what its initialiser lays. -/
import Derived.Test.YthopodopedbooaaDoorCmdFault2
import Derived.Test.YthopodopedbooaaDoorCmdLaid
import Derived.Test.YthopodopedbooaaDoorOpenCmd
namespace Go.Proofs.YthopodopedbooaaDoor
open Go.ChangeShapes Go.WideShapes Go.ChangeAt Go.RowKit
open Cm
set_option linter.unusedVariables false

theorem toCommand_c (x0 x1 x2 x3 x4 x5 : Int) (w : World) :
    Calls Tryd.prog 6 #[.agg #[.int .i64 x0, .int .i64 x1, .int .i64 x2, .int .i64 x3, .int .i64 x4, .int .i64 x5]] w fun e w' => e = .returned (.agg (cmdV x0 x1 x2 x3 x4 x5)) ∧ Below w.heap.size w w' := by
  go_enter Tryd.func6, Tryd.ntmps6
  go_wp2
  refine bodyPost_ret (v := .agg (cmdV x0 x1 x2 x3 x4 x5)) ?_ rfl ⟨rfl, ?_⟩
  · simp [results, Tryd.results6, go_sem]
    done
  · exact (((Below.refl _ _).alloc (Nat.le_refl _) _).alloc (by simp only [size_new]; omega) _).alloc (by simp only [size_new]; omega) _

end Go.Proofs.YthopodopedbooaaDoor
