/-
  NARROWER THAN 'FOR EVERY INPUT', by the rows' own cells (each row's printed sentence says how): FnTicks: laid · FnHalves: laid · FnExactTickUnit: laid · FnExactTickBoard: laid · FnExactTickMany: laid.
  DERIVED. THE GIVEN ROWS OF THIS SEAT. 5 by the template 'for every input the law returns true; each argument reads behind the call as it read before'; 0 by the template 'total and deterministic' (their statements: YtepjkcfheejlbaaGreatDoorTotals.lean).
  GIVEN WITH THE SEED: the statements are not yours to turn. If you find one false, say at which input.
  Laid BY PROGRAM, IN A SANDBOX (cutbox-rows.mjs): the forced cells as the released guide's own fill.sh prints them over the translation 52374b5f2d0394e7… (all of the seat's roots in one cut). By AI agents, Wed Nov 11 2026. No macro, syntax, notation, axiom, sorry.
-/
import Derived.Test.YtepjkcfheejlbaaGreatDoorChecked
import GoSem.Claim
import GoSem.ClaimJoined
import GoSem.ClaimMapViews
import Derived.JoinedTies
import Derived.KernelRfl
namespace Go.Proofs.YtepjkcfheejlbaaGreatDoor
/- THE CELL 'sum', in the pinned program and in every row, IS THE sha256 OF THE DUMP (.gsa) THAT YtepjkcfheejlbaaGreatDoorProg.lean LOADS. Nothing in Lean hashes anything: it is a label: what it is worth is what the hold of that sum in a sandbox is worth. -/
noncomputable def Tryz.pinned : Pinned := { name := "ytepjkcfheejlbaagreatdoor", sum := "52374b5f2d0394e7d3f673dba9db9128f5c1252545e3e5ac8197178d1ea56002", checked := Tryz.checked }
namespace Rows
def none {H : Type} : Left H := { results := [], args := [] }

/- WHAT THE LISTED PACKAGE-LEVEL VARIABLES READ AS WHEN THE CALL BEGINS. Each datum BY PROGRAM (the guide's laid-datum.mjs) off the statement by which the dump's own 'gosem.cut.vars' lays the variable. In a bare row this is a premise. The card (YtepjkcfheejlbaaGreatDoorCards.lean) ties it to the program's text. -/
def laid_loop_example_g00646_impl_homeTiles {H : Type} : DataW H := .agg [.agg [.lit (.int .i64 0), .lit (.int .i64 0), .lit (.int .i64 0)], .agg [.lit (.int .i64 0), .lit (.int .i64 11), .lit (.int .i64 0)], .agg [.lit (.int .i64 0), .lit (.int .i64 0), .lit (.int .i64 11)], .agg [.lit (.int .i64 0), .lit (.int .i64 11), .lit (.int .i64 11)]]

/-- 'laws.FnTicks': WHATEVER THE INPUT: true; the input reads as it did. -/
def fnTicksSpec : ChangeSpec := { name := "fnTicks", vars := ["loop.example/g00646/impl.homeTiles"], fn := fun _ => fun
  | [d, g1] => { results := [.lit (.bool true)], args := [d], vars := [g1] }
  | _ => none }
def fnTicksRow : OpenClaim := { program := "ytepjkcfheejlbaagreatdoor", sum := "52374b5f2d0394e7d3f673dba9db9128f5c1252545e3e5ac8197178d1ea56002", func := "loop.example/g00646/laws.FnTicks", spec := "fnTicks", unfollowed := true, recurses := true, named := ["loop.example/g00646/impl.homeTiles"], apart := false, laid := [("loop.example/g00646/impl.homeTiles", laid_loop_example_g00646_impl_homeTiles)] }
def FnTicksSaid : Prop := fnTicksRow.holds Tryz.pinned (OpenSpec.ofChange fnTicksSpec)

/-- ITS FALSE NEIGHBOUR: 'it returns false'. Refute it at one input. -/
def fnTicksWrong : ChangeSpec := { name := "fnTicks", vars := ["loop.example/g00646/impl.homeTiles"], fn := fun _ => fun
  | [d, g1] => { results := [.lit (.bool false)], args := [d], vars := [g1] }
  | _ => none }
def FnTicksWrongFalsely : Prop := fnTicksRow.holds Tryz.pinned (OpenSpec.ofChange fnTicksWrong)

/-- 'laws.FnHalves': WHATEVER THE INPUT: true; the input reads as it did. -/
def fnHalvesSpec : ChangeSpec := { name := "fnHalves", vars := ["loop.example/g00646/impl.homeTiles"], fn := fun _ => fun
  | [d, g1] => { results := [.lit (.bool true)], args := [d], vars := [g1] }
  | _ => none }
def fnHalvesRow : OpenClaim := { program := "ytepjkcfheejlbaagreatdoor", sum := "52374b5f2d0394e7d3f673dba9db9128f5c1252545e3e5ac8197178d1ea56002", func := "loop.example/g00646/laws.FnHalves", spec := "fnHalves", unfollowed := true, recurses := true, named := ["loop.example/g00646/impl.homeTiles"], apart := false, laid := [("loop.example/g00646/impl.homeTiles", laid_loop_example_g00646_impl_homeTiles)] }
def FnHalvesSaid : Prop := fnHalvesRow.holds Tryz.pinned (OpenSpec.ofChange fnHalvesSpec)

/-- ITS FALSE NEIGHBOUR: 'it returns false'. Refute it at one input. -/
def fnHalvesWrong : ChangeSpec := { name := "fnHalves", vars := ["loop.example/g00646/impl.homeTiles"], fn := fun _ => fun
  | [d, g1] => { results := [.lit (.bool false)], args := [d], vars := [g1] }
  | _ => none }
def FnHalvesWrongFalsely : Prop := fnHalvesRow.holds Tryz.pinned (OpenSpec.ofChange fnHalvesWrong)

/-- 'laws.FnExactTickUnit': WHATEVER THE INPUT: true; the input reads as it did. -/
def fnExactTickUnitSpec : ChangeSpec := { name := "fnExactTickUnit", vars := ["loop.example/g00646/impl.homeTiles"], fn := fun _ => fun
  | [d1, d2, d3, g1] => { results := [.lit (.bool true)], args := [d1, d2, d3], vars := [g1] }
  | _ => none }
def fnExactTickUnitRow : OpenClaim := { program := "ytepjkcfheejlbaagreatdoor", sum := "52374b5f2d0394e7d3f673dba9db9128f5c1252545e3e5ac8197178d1ea56002", func := "loop.example/g00646/laws.FnExactTickUnit", spec := "fnExactTickUnit", unfollowed := true, recurses := true, named := ["loop.example/g00646/impl.homeTiles"], apart := false, laid := [("loop.example/g00646/impl.homeTiles", laid_loop_example_g00646_impl_homeTiles)] }
def FnExactTickUnitSaid : Prop := fnExactTickUnitRow.holds Tryz.pinned (OpenSpec.ofChange fnExactTickUnitSpec)

/-- ITS FALSE NEIGHBOUR: 'it returns false'. Refute it at one input. -/
def fnExactTickUnitWrong : ChangeSpec := { name := "fnExactTickUnit", vars := ["loop.example/g00646/impl.homeTiles"], fn := fun _ => fun
  | [d1, d2, d3, g1] => { results := [.lit (.bool false)], args := [d1, d2, d3], vars := [g1] }
  | _ => none }
def FnExactTickUnitWrongFalsely : Prop := fnExactTickUnitRow.holds Tryz.pinned (OpenSpec.ofChange fnExactTickUnitWrong)

/-- 'laws.FnExactTickBoard': WHATEVER THE INPUT: true; the input reads as it did. -/
def fnExactTickBoardSpec : ChangeSpec := { name := "fnExactTickBoard", vars := ["loop.example/g00646/impl.homeTiles"], fn := fun _ => fun
  | [d1, d2, g1] => { results := [.lit (.bool true)], args := [d1, d2], vars := [g1] }
  | _ => none }
def fnExactTickBoardRow : OpenClaim := { program := "ytepjkcfheejlbaagreatdoor", sum := "52374b5f2d0394e7d3f673dba9db9128f5c1252545e3e5ac8197178d1ea56002", func := "loop.example/g00646/laws.FnExactTickBoard", spec := "fnExactTickBoard", unfollowed := true, recurses := true, named := ["loop.example/g00646/impl.homeTiles"], apart := false, laid := [("loop.example/g00646/impl.homeTiles", laid_loop_example_g00646_impl_homeTiles)] }
def FnExactTickBoardSaid : Prop := fnExactTickBoardRow.holds Tryz.pinned (OpenSpec.ofChange fnExactTickBoardSpec)

/-- ITS FALSE NEIGHBOUR: 'it returns false'. Refute it at one input. -/
def fnExactTickBoardWrong : ChangeSpec := { name := "fnExactTickBoard", vars := ["loop.example/g00646/impl.homeTiles"], fn := fun _ => fun
  | [d1, d2, g1] => { results := [.lit (.bool false)], args := [d1, d2], vars := [g1] }
  | _ => none }
def FnExactTickBoardWrongFalsely : Prop := fnExactTickBoardRow.holds Tryz.pinned (OpenSpec.ofChange fnExactTickBoardWrong)

/-- 'laws.FnExactTickMany': WHATEVER THE INPUT: true; the input reads as it did. -/
def fnExactTickManySpec : ChangeSpec := { name := "fnExactTickMany", vars := ["loop.example/g00646/impl.homeTiles"], fn := fun _ => fun
  | [d1, d2, d3, g1] => { results := [.lit (.bool true)], args := [d1, d2, d3], vars := [g1] }
  | _ => none }
def fnExactTickManyRow : OpenClaim := { program := "ytepjkcfheejlbaagreatdoor", sum := "52374b5f2d0394e7d3f673dba9db9128f5c1252545e3e5ac8197178d1ea56002", func := "loop.example/g00646/laws.FnExactTickMany", spec := "fnExactTickMany", unfollowed := true, recurses := true, named := ["loop.example/g00646/impl.homeTiles"], apart := false, laid := [("loop.example/g00646/impl.homeTiles", laid_loop_example_g00646_impl_homeTiles)] }
def FnExactTickManySaid : Prop := fnExactTickManyRow.holds Tryz.pinned (OpenSpec.ofChange fnExactTickManySpec)

/-- ITS FALSE NEIGHBOUR: 'it returns false'. Refute it at one input. -/
def fnExactTickManyWrong : ChangeSpec := { name := "fnExactTickMany", vars := ["loop.example/g00646/impl.homeTiles"], fn := fun _ => fun
  | [d1, d2, d3, g1] => { results := [.lit (.bool false)], args := [d1, d2, d3], vars := [g1] }
  | _ => none }
def FnExactTickManyWrongFalsely : Prop := fnExactTickManyRow.holds Tryz.pinned (OpenSpec.ofChange fnExactTickManyWrong)

/- THE SECOND FORM. 'bulk': how many values and letters a reading holds, each counted each time it is reached (what is shared counts as often as it is met; a slice's spare places count too). A statement '..UptoSaid' is the law's where the arguments, and the package variables that the reading takes, are together of bulk at most 1048576: NARROWER than '..Said'. Prove '..Said' where nothing that the law and all that it calls make is longer than what came in: it says more and counts as full. Else prove '..UptoSaid'. A law counts once. -/
mutual
def uptoBulk {H : Type} : DataW H → Nat
  | .lit (.string bytes) => bytes.length + 1
  | .lit _ => 1
  | .nil => 1
  | .ptr d => uptoBulk d + 1
  | .slice elems spare => uptoBulkAll elems + uptoBulkAll spare + 1
  | .agg parts => uptoBulkAll parts + 1
  | .iface _ d => uptoBulk d + 1
  | .map entries => uptoBulkEntries entries + 1
  | .held _ => 1
def uptoBulkAll {H : Type} : List (DataW H) → Nat
  | [] => 0
  | d :: r => uptoBulk d + uptoBulkAll r
def uptoBulkEntries {H : Type} : List (Lit × DataW H) → Nat
  | [] => 0
  | x :: r => uptoBulkEntry x + uptoBulkEntries r
def uptoBulkEntry {H : Type} : Lit × DataW H → Nat
  | (.string bytes, d) => bytes.length + uptoBulk d + 1
  | (_, d) => uptoBulk d + 1
 end
def uptoSmall : (H : Type) → List (DataW H) → Bool := fun _ ds => decide (uptoBulkAll ds ≤ 1048576)
def OpenSpec.upto (s : _root_.Go.ChangeSpec) : _root_.Go.OpenSpec := { _root_.Go.OpenSpec.ofChange s with cond := some uptoSmall }

/-- 'laws.FnTicks', WHERE WHAT IT READS IS OF BULK AT MOST 1048576: true; the input reads as it did. -/
def fnTicksUptoRow : OpenClaim := { program := "ytepjkcfheejlbaagreatdoor", sum := "52374b5f2d0394e7d3f673dba9db9128f5c1252545e3e5ac8197178d1ea56002", func := "loop.example/g00646/laws.FnTicks", spec := "fnTicks", unfollowed := true, recurses := true, named := ["loop.example/g00646/impl.homeTiles"], apart := false, laid := [("loop.example/g00646/impl.homeTiles", laid_loop_example_g00646_impl_homeTiles)], narrowed := true }
def FnTicksUptoSaid : Prop := fnTicksUptoRow.holds Tryz.pinned (OpenSpec.upto fnTicksSpec)

/-- 'laws.FnHalves', WHERE WHAT IT READS IS OF BULK AT MOST 1048576: true; the input reads as it did. -/
def fnHalvesUptoRow : OpenClaim := { program := "ytepjkcfheejlbaagreatdoor", sum := "52374b5f2d0394e7d3f673dba9db9128f5c1252545e3e5ac8197178d1ea56002", func := "loop.example/g00646/laws.FnHalves", spec := "fnHalves", unfollowed := true, recurses := true, named := ["loop.example/g00646/impl.homeTiles"], apart := false, laid := [("loop.example/g00646/impl.homeTiles", laid_loop_example_g00646_impl_homeTiles)], narrowed := true }
def FnHalvesUptoSaid : Prop := fnHalvesUptoRow.holds Tryz.pinned (OpenSpec.upto fnHalvesSpec)

/-- 'laws.FnExactTickUnit', WHERE WHAT IT READS IS OF BULK AT MOST 1048576: true; the input reads as it did. -/
def fnExactTickUnitUptoRow : OpenClaim := { program := "ytepjkcfheejlbaagreatdoor", sum := "52374b5f2d0394e7d3f673dba9db9128f5c1252545e3e5ac8197178d1ea56002", func := "loop.example/g00646/laws.FnExactTickUnit", spec := "fnExactTickUnit", unfollowed := true, recurses := true, named := ["loop.example/g00646/impl.homeTiles"], apart := false, laid := [("loop.example/g00646/impl.homeTiles", laid_loop_example_g00646_impl_homeTiles)], narrowed := true }
def FnExactTickUnitUptoSaid : Prop := fnExactTickUnitUptoRow.holds Tryz.pinned (OpenSpec.upto fnExactTickUnitSpec)

/-- 'laws.FnExactTickBoard', WHERE WHAT IT READS IS OF BULK AT MOST 1048576: true; the input reads as it did. -/
def fnExactTickBoardUptoRow : OpenClaim := { program := "ytepjkcfheejlbaagreatdoor", sum := "52374b5f2d0394e7d3f673dba9db9128f5c1252545e3e5ac8197178d1ea56002", func := "loop.example/g00646/laws.FnExactTickBoard", spec := "fnExactTickBoard", unfollowed := true, recurses := true, named := ["loop.example/g00646/impl.homeTiles"], apart := false, laid := [("loop.example/g00646/impl.homeTiles", laid_loop_example_g00646_impl_homeTiles)], narrowed := true }
def FnExactTickBoardUptoSaid : Prop := fnExactTickBoardUptoRow.holds Tryz.pinned (OpenSpec.upto fnExactTickBoardSpec)

/-- 'laws.FnExactTickMany', WHERE WHAT IT READS IS OF BULK AT MOST 1048576: true; the input reads as it did. -/
def fnExactTickManyUptoRow : OpenClaim := { program := "ytepjkcfheejlbaagreatdoor", sum := "52374b5f2d0394e7d3f673dba9db9128f5c1252545e3e5ac8197178d1ea56002", func := "loop.example/g00646/laws.FnExactTickMany", spec := "fnExactTickMany", unfollowed := true, recurses := true, named := ["loop.example/g00646/impl.homeTiles"], apart := false, laid := [("loop.example/g00646/impl.homeTiles", laid_loop_example_g00646_impl_homeTiles)], narrowed := true }
def FnExactTickManyUptoSaid : Prop := fnExactTickManyUptoRow.holds Tryz.pinned (OpenSpec.upto fnExactTickManySpec)

end Rows
end Go.Proofs.YtepjkcfheejlbaaGreatDoor
