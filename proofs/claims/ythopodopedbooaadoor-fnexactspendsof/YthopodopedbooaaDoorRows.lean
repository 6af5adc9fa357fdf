/-
  NARROWER THAN 'FOR EVERY INPUT', by the rows' own cells (each row's printed sentence says how): FnExactSpendsOf: laid · FnExactReasonText: laid.
  DERIVED. THE GIVEN ROWS OF THIS SEAT. 2 by the template 'for every input the law returns true; each argument reads behind the call as it read before'; 0 by the template 'total and deterministic' (their statements: YthopodopedbooaaDoorTotals.lean).
  GIVEN WITH THE SEED: the statements are not yours to turn. If you find one false, say at which input.
  Laid BY PROGRAM, IN A SANDBOX (cutbox-rows.mjs): the forced cells as the released guide's own fill.sh prints them over the translation 603e441c074bb416… (all of the seat's roots in one cut). By AI agents, Wed Nov 11 2026. No macro, syntax, notation, axiom, sorry.
-/
import Derived.Test.YthopodopedbooaaDoorChecked
import GoSem.Claim
import GoSem.ClaimJoined
import GoSem.ClaimMapViews
import Derived.JoinedTies
import Derived.KernelRfl
namespace Go.Proofs.YthopodopedbooaaDoor
/- THE CELL 'sum', in the pinned program and in every row, IS THE sha256 OF THE DUMP (.gsa) THAT YthopodopedbooaaDoorProg.lean LOADS. Nothing in Lean hashes anything: it is a label: what it is worth is what the hold of that sum in a sandbox is worth. -/
noncomputable def Tryd.pinned : Pinned := { name := "ythopodopedbooaadoor", sum := "603e441c074bb4160cd94b758a570f7a5096600bb7c1eb47b10af4fa5e6927ca", checked := Tryd.checked }
namespace Rows
def none {H : Type} : Left H := { results := [], args := [] }

/- WHAT THE LISTED PACKAGE-LEVEL VARIABLES READ AS WHEN THE CALL BEGINS. Each datum BY PROGRAM (the guide's laid-datum.mjs) off the statement by which the dump's own 'gosem.cut.vars' lays the variable. In a bare row this is a premise. The card (YthopodopedbooaaDoorCards.lean) ties it to the program's text. -/
def laid_loop_example_g00646_impl_paramCounts {H : Type} : DataW H := .agg [.lit (.int .i64 0), .lit (.int .i64 3), .lit (.int .i64 2), .lit (.int .i64 2), .lit (.int .i64 2), .lit (.int .i64 2), .lit (.int .i64 1), .lit (.int .i64 1), .lit (.int .i64 1), .lit (.int .i64 2), .lit (.int .i64 0), .lit (.int .i64 0)]
def laid_loop_example_g00646_impl_reasonTexts {H : Type} : DataW H := .agg [.lit (.string [111, 107]), .lit (.string [102, 111, 114, 109]), .lit (.string [109, 97, 110, 121]), .lit (.string [114, 97, 110, 103, 101]), .lit (.string [110, 111, 110, 101]), .lit (.string [116, 101, 120, 116]), .lit (.string [116, 97, 107, 101, 110]), .lit (.string [102, 117, 108, 108]), .lit (.string [115, 116, 97, 116, 101]), .lit (.string [114, 105, 103, 104, 116]), .lit (.string [112, 111, 111, 114])]

/-- 'laws.FnExactSpendsOf': WHATEVER THE INPUT: true; the input reads as it did. -/
def fnExactSpendsOfSpec : ChangeSpec := { name := "fnExactSpendsOf", vars := ["loop.example/g00646/impl.paramCounts"], fn := fun _ => fun
  | [d, g1] => { results := [.lit (.bool true)], args := [d], vars := [g1] }
  | _ => none }
def fnExactSpendsOfRow : OpenClaim := { program := "ythopodopedbooaadoor", sum := "603e441c074bb4160cd94b758a570f7a5096600bb7c1eb47b10af4fa5e6927ca", func := "loop.example/g00646/laws.FnExactSpendsOf", spec := "fnExactSpendsOf", named := ["loop.example/g00646/impl.paramCounts"], apart := false, laid := [("loop.example/g00646/impl.paramCounts", laid_loop_example_g00646_impl_paramCounts)] }
def FnExactSpendsOfSaid : Prop := fnExactSpendsOfRow.holds Tryd.pinned (OpenSpec.ofChange fnExactSpendsOfSpec)

/-- ITS FALSE NEIGHBOUR: 'it returns false'. Refute it at one input. -/
def fnExactSpendsOfWrong : ChangeSpec := { name := "fnExactSpendsOf", vars := ["loop.example/g00646/impl.paramCounts"], fn := fun _ => fun
  | [d, g1] => { results := [.lit (.bool false)], args := [d], vars := [g1] }
  | _ => none }
def FnExactSpendsOfWrongFalsely : Prop := fnExactSpendsOfRow.holds Tryd.pinned (OpenSpec.ofChange fnExactSpendsOfWrong)

/-- 'laws.FnExactReasonText': WHATEVER THE INPUT: true; the input reads as it did. -/
def fnExactReasonTextSpec : ChangeSpec := { name := "fnExactReasonText", vars := ["loop.example/g00646/impl.reasonTexts"], fn := fun _ => fun
  | [d, g1] => { results := [.lit (.bool true)], args := [d], vars := [g1] }
  | _ => none }
def fnExactReasonTextRow : OpenClaim := { program := "ythopodopedbooaadoor", sum := "603e441c074bb4160cd94b758a570f7a5096600bb7c1eb47b10af4fa5e6927ca", func := "loop.example/g00646/laws.FnExactReasonText", spec := "fnExactReasonText", named := ["loop.example/g00646/impl.reasonTexts"], apart := false, laid := [("loop.example/g00646/impl.reasonTexts", laid_loop_example_g00646_impl_reasonTexts)] }
def FnExactReasonTextSaid : Prop := fnExactReasonTextRow.holds Tryd.pinned (OpenSpec.ofChange fnExactReasonTextSpec)

/-- ITS FALSE NEIGHBOUR: 'it returns false'. Refute it at one input. -/
def fnExactReasonTextWrong : ChangeSpec := { name := "fnExactReasonText", vars := ["loop.example/g00646/impl.reasonTexts"], fn := fun _ => fun
  | [d, g1] => { results := [.lit (.bool false)], args := [d], vars := [g1] }
  | _ => none }
def FnExactReasonTextWrongFalsely : Prop := fnExactReasonTextRow.holds Tryd.pinned (OpenSpec.ofChange fnExactReasonTextWrong)

/- THE SECOND FORM. 'bulk': how many values and letters a reading holds, each counted each time it is reached (what is shared counts as often as it is met; a slice's spare places count too). A statement '..UptoSaid' is the law's where the arguments, and the package variables that the reading takes, are together of bulk at most 1048576: NARROWER than '..Said'. Prove '..Said' where nothing that the law and all that it calls make is longer than what came in: it says more and counts as full. Else prove '..UptoSaid'. A law counts once. -/
mutual
def uptoBulk {H : Type} : DataW H → Nat
  | .lit (.string bytes) => bytes.length + 1
  | .lit _ => 1
  | .nil => 1
  | .ptr d => uptoBulk d + 1
  | .slice elems spare => uptoBulkAll elems + uptoBulkAll spare + 1
  | .agg parts => uptoBulkAll parts + 1
  | .iface _ d => uptoBulk d + 1
  | .map entries => uptoBulkEntries entries + 1
  | .held _ => 1
def uptoBulkAll {H : Type} : List (DataW H) → Nat
  | [] => 0
  | d :: r => uptoBulk d + uptoBulkAll r
def uptoBulkEntries {H : Type} : List (Lit × DataW H) → Nat
  | [] => 0
  | x :: r => uptoBulkEntry x + uptoBulkEntries r
def uptoBulkEntry {H : Type} : Lit × DataW H → Nat
  | (.string bytes, d) => bytes.length + uptoBulk d + 1
  | (_, d) => uptoBulk d + 1
 end
def uptoSmall : (H : Type) → List (DataW H) → Bool := fun _ ds => decide (uptoBulkAll ds ≤ 1048576)
def OpenSpec.upto (s : _root_.Go.ChangeSpec) : _root_.Go.OpenSpec := { _root_.Go.OpenSpec.ofChange s with cond := some uptoSmall }

/-- 'laws.FnExactSpendsOf', WHERE WHAT IT READS IS OF BULK AT MOST 1048576: true; the input reads as it did. -/
def fnExactSpendsOfUptoRow : OpenClaim := { program := "ythopodopedbooaadoor", sum := "603e441c074bb4160cd94b758a570f7a5096600bb7c1eb47b10af4fa5e6927ca", func := "loop.example/g00646/laws.FnExactSpendsOf", spec := "fnExactSpendsOf", named := ["loop.example/g00646/impl.paramCounts"], apart := false, laid := [("loop.example/g00646/impl.paramCounts", laid_loop_example_g00646_impl_paramCounts)], narrowed := true }
def FnExactSpendsOfUptoSaid : Prop := fnExactSpendsOfUptoRow.holds Tryd.pinned (OpenSpec.upto fnExactSpendsOfSpec)

/-- 'laws.FnExactReasonText', WHERE WHAT IT READS IS OF BULK AT MOST 1048576: true; the input reads as it did. -/
def fnExactReasonTextUptoRow : OpenClaim := { program := "ythopodopedbooaadoor", sum := "603e441c074bb4160cd94b758a570f7a5096600bb7c1eb47b10af4fa5e6927ca", func := "loop.example/g00646/laws.FnExactReasonText", spec := "fnExactReasonText", named := ["loop.example/g00646/impl.reasonTexts"], apart := false, laid := [("loop.example/g00646/impl.reasonTexts", laid_loop_example_g00646_impl_reasonTexts)], narrowed := true }
def FnExactReasonTextUptoSaid : Prop := fnExactReasonTextUptoRow.holds Tryd.pinned (OpenSpec.upto fnExactReasonTextSpec)

end Rows
end Go.Proofs.YthopodopedbooaaDoor
