/-
  No cell of these rows narrows 'for every input' (looked for: loops, veiled, ifaces, maps, wideKeys, modest, calm, conditions, laid).
  DERIVED. THE GIVEN ROWS OF THIS SEAT. 8 by the template 'for every input the law returns true; each argument reads behind the call as it read before'; 0 by the template 'total and deterministic' (their statements: YtibkdkjcncfmgaaTotals.lean).
  GIVEN WITH THE SEED: the statements are not yours to turn. If you find one false, say at which input.
  Laid BY PROGRAM, IN A SANDBOX (cutbox-rows.mjs): the forced cells as the released guide's own fill.sh prints them over the translation b692a12ea0bb41a7… (all of the seat's roots in one cut). By AI agents, Wed Nov 11 2026. No macro, syntax, notation, axiom, sorry.
-/
import Derived.Test.YtibkdkjcncfmgaaChecked
import GoSem.Claim
import GoSem.ClaimJoined
import GoSem.ClaimMapViews
import Derived.JoinedTies
import Derived.KernelRfl
namespace Go.Proofs.Ytibkdkjcncfmgaa
/- THE CELL 'sum', in the pinned program and in every row, IS THE sha256 OF THE DUMP (.gsa) THAT YtibkdkjcncfmgaaProg.lean LOADS. Nothing in Lean hashes anything: it is a label: what it is worth is what the hold of that sum in a sandbox is worth. -/
noncomputable def Try.pinned : Pinned := { name := "ytibkdkjcncfmgaa", sum := "b692a12ea0bb41a7916bbda5a3b3520c877722fda86c5670078771674e75e30a", checked := Try.checked }
namespace Rows
def none {H : Type} : Left H := { results := [], args := [] }

/-- 'laws.FnBoards': WHATEVER THE INPUT: true; the input reads as it did. -/
def fnBoardsSpec : ChangeSpec := { name := "fnBoards", fn := fun _ => fun
  | [d] => { results := [.lit (.bool true)], args := [d] }
  | _ => none }
def fnBoardsRow : OpenClaim := { program := "ytibkdkjcncfmgaa", sum := "b692a12ea0bb41a7916bbda5a3b3520c877722fda86c5670078771674e75e30a", func := "loop.example/g00646/laws.FnBoards", spec := "fnBoards", unfollowed := true, recurses := true, apart := false }
def FnBoardsSaid : Prop := fnBoardsRow.holds Try.pinned (OpenSpec.ofChange fnBoardsSpec)

/-- ITS FALSE NEIGHBOUR: 'it returns false'. Refute it at one input. -/
def fnBoardsWrong : ChangeSpec := { name := "fnBoards", fn := fun _ => fun
  | [d] => { results := [.lit (.bool false)], args := [d] }
  | _ => none }
def FnBoardsWrongFalsely : Prop := fnBoardsRow.holds Try.pinned (OpenSpec.ofChange fnBoardsWrong)

/-- 'laws.FnExactLeftIn': WHATEVER THE INPUT: true; the input reads as it did. -/
def fnExactLeftInSpec : ChangeSpec := { name := "fnExactLeftIn", fn := fun _ => fun
  | [d] => { results := [.lit (.bool true)], args := [d] }
  | _ => none }
def fnExactLeftInRow : OpenClaim := { program := "ytibkdkjcncfmgaa", sum := "b692a12ea0bb41a7916bbda5a3b3520c877722fda86c5670078771674e75e30a", func := "loop.example/g00646/laws.FnExactLeftIn", spec := "fnExactLeftIn", apart := false }
def FnExactLeftInSaid : Prop := fnExactLeftInRow.holds Try.pinned (OpenSpec.ofChange fnExactLeftInSpec)

/-- ITS FALSE NEIGHBOUR: 'it returns false'. Refute it at one input. -/
def fnExactLeftInWrong : ChangeSpec := { name := "fnExactLeftIn", fn := fun _ => fun
  | [d] => { results := [.lit (.bool false)], args := [d] }
  | _ => none }
def FnExactLeftInWrongFalsely : Prop := fnExactLeftInRow.holds Try.pinned (OpenSpec.ofChange fnExactLeftInWrong)

/-- 'laws.FnExactWorldFault': WHATEVER THE INPUT: true; the input reads as it did. -/
def fnExactWorldFaultSpec : ChangeSpec := { name := "fnExactWorldFault", fn := fun _ => fun
  | [d] => { results := [.lit (.bool true)], args := [d] }
  | _ => none }
def fnExactWorldFaultRow : OpenClaim := { program := "ytibkdkjcncfmgaa", sum := "b692a12ea0bb41a7916bbda5a3b3520c877722fda86c5670078771674e75e30a", func := "loop.example/g00646/laws.FnExactWorldFault", spec := "fnExactWorldFault", apart := false }
def FnExactWorldFaultSaid : Prop := fnExactWorldFaultRow.holds Try.pinned (OpenSpec.ofChange fnExactWorldFaultSpec)

/-- ITS FALSE NEIGHBOUR: 'it returns false'. Refute it at one input. -/
def fnExactWorldFaultWrong : ChangeSpec := { name := "fnExactWorldFault", fn := fun _ => fun
  | [d] => { results := [.lit (.bool false)], args := [d] }
  | _ => none }
def FnExactWorldFaultWrongFalsely : Prop := fnExactWorldFaultRow.holds Try.pinned (OpenSpec.ofChange fnExactWorldFaultWrong)

/-- 'laws.FnExactNewWorld': WHATEVER THE INPUT: true; the input reads as it did. -/
def fnExactNewWorldSpec : ChangeSpec := { name := "fnExactNewWorld", fn := fun _ => fun
  | [] => { results := [.lit (.bool true)], args := [] }
  | _ => none }
def fnExactNewWorldRow : OpenClaim := { program := "ytibkdkjcncfmgaa", sum := "b692a12ea0bb41a7916bbda5a3b3520c877722fda86c5670078771674e75e30a", func := "loop.example/g00646/laws.FnExactNewWorld", spec := "fnExactNewWorld", apart := false }
def FnExactNewWorldSaid : Prop := fnExactNewWorldRow.holds Try.pinned (OpenSpec.ofChange fnExactNewWorldSpec)

/-- ITS FALSE NEIGHBOUR: 'it returns false'. Refute it at one input. -/
def fnExactNewWorldWrong : ChangeSpec := { name := "fnExactNewWorld", fn := fun _ => fun
  | [] => { results := [.lit (.bool false)], args := [] }
  | _ => none }
def FnExactNewWorldWrongFalsely : Prop := fnExactNewWorldRow.holds Try.pinned (OpenSpec.ofChange fnExactNewWorldWrong)

/-- 'laws.FnExactSeatOf': WHATEVER THE INPUT: true; the input reads as it did. -/
def fnExactSeatOfSpec : ChangeSpec := { name := "fnExactSeatOf", fn := fun _ => fun
  | [d1, d2] => { results := [.lit (.bool true)], args := [d1, d2] }
  | _ => none }
def fnExactSeatOfRow : OpenClaim := { program := "ytibkdkjcncfmgaa", sum := "b692a12ea0bb41a7916bbda5a3b3520c877722fda86c5670078771674e75e30a", func := "loop.example/g00646/laws.FnExactSeatOf", spec := "fnExactSeatOf", unfollowed := true, recurses := true, apart := false }
def FnExactSeatOfSaid : Prop := fnExactSeatOfRow.holds Try.pinned (OpenSpec.ofChange fnExactSeatOfSpec)

/-- ITS FALSE NEIGHBOUR: 'it returns false'. Refute it at one input. -/
def fnExactSeatOfWrong : ChangeSpec := { name := "fnExactSeatOf", fn := fun _ => fun
  | [d1, d2] => { results := [.lit (.bool false)], args := [d1, d2] }
  | _ => none }
def FnExactSeatOfWrongFalsely : Prop := fnExactSeatOfRow.holds Try.pinned (OpenSpec.ofChange fnExactSeatOfWrong)

/-- 'laws.FnExactHasRight': WHATEVER THE INPUT: true; the input reads as it did. -/
def fnExactHasRightSpec : ChangeSpec := { name := "fnExactHasRight", fn := fun _ => fun
  | [d1, d2] => { results := [.lit (.bool true)], args := [d1, d2] }
  | _ => none }
def fnExactHasRightRow : OpenClaim := { program := "ytibkdkjcncfmgaa", sum := "b692a12ea0bb41a7916bbda5a3b3520c877722fda86c5670078771674e75e30a", func := "loop.example/g00646/laws.FnExactHasRight", spec := "fnExactHasRight", apart := false }
def FnExactHasRightSaid : Prop := fnExactHasRightRow.holds Try.pinned (OpenSpec.ofChange fnExactHasRightSpec)

/-- ITS FALSE NEIGHBOUR: 'it returns false'. Refute it at one input. -/
def fnExactHasRightWrong : ChangeSpec := { name := "fnExactHasRight", fn := fun _ => fun
  | [d1, d2] => { results := [.lit (.bool false)], args := [d1, d2] }
  | _ => none }
def FnExactHasRightWrongFalsely : Prop := fnExactHasRightRow.holds Try.pinned (OpenSpec.ofChange fnExactHasRightWrong)

/-- 'laws.FnExactAreAllies': WHATEVER THE INPUT: true; the input reads as it did. -/
def fnExactAreAlliesSpec : ChangeSpec := { name := "fnExactAreAllies", fn := fun _ => fun
  | [d1, d2, d3] => { results := [.lit (.bool true)], args := [d1, d2, d3] }
  | _ => none }
def fnExactAreAlliesRow : OpenClaim := { program := "ytibkdkjcncfmgaa", sum := "b692a12ea0bb41a7916bbda5a3b3520c877722fda86c5670078771674e75e30a", func := "loop.example/g00646/laws.FnExactAreAllies", spec := "fnExactAreAllies", apart := false }
def FnExactAreAlliesSaid : Prop := fnExactAreAlliesRow.holds Try.pinned (OpenSpec.ofChange fnExactAreAlliesSpec)

/-- ITS FALSE NEIGHBOUR: 'it returns false'. Refute it at one input. -/
def fnExactAreAlliesWrong : ChangeSpec := { name := "fnExactAreAllies", fn := fun _ => fun
  | [d1, d2, d3] => { results := [.lit (.bool false)], args := [d1, d2, d3] }
  | _ => none }
def FnExactAreAlliesWrongFalsely : Prop := fnExactAreAlliesRow.holds Try.pinned (OpenSpec.ofChange fnExactAreAlliesWrong)

/-- 'laws.FnExactTotalOf': WHATEVER THE INPUT: true; the input reads as it did. -/
def fnExactTotalOfSpec : ChangeSpec := { name := "fnExactTotalOf", fn := fun _ => fun
  | [d] => { results := [.lit (.bool true)], args := [d] }
  | _ => none }
def fnExactTotalOfRow : OpenClaim := { program := "ytibkdkjcncfmgaa", sum := "b692a12ea0bb41a7916bbda5a3b3520c877722fda86c5670078771674e75e30a", func := "loop.example/g00646/laws.FnExactTotalOf", spec := "fnExactTotalOf", apart := false }
def FnExactTotalOfSaid : Prop := fnExactTotalOfRow.holds Try.pinned (OpenSpec.ofChange fnExactTotalOfSpec)

/-- ITS FALSE NEIGHBOUR: 'it returns false'. Refute it at one input. -/
def fnExactTotalOfWrong : ChangeSpec := { name := "fnExactTotalOf", fn := fun _ => fun
  | [d] => { results := [.lit (.bool false)], args := [d] }
  | _ => none }
def FnExactTotalOfWrongFalsely : Prop := fnExactTotalOfRow.holds Try.pinned (OpenSpec.ofChange fnExactTotalOfWrong)

/- THE SECOND FORM. 'bulk': how many values and letters a reading holds, each counted each time it is reached (what is shared counts as often as it is met; a slice's spare places count too). A statement '..UptoSaid' is the law's where the arguments, and the package variables that the reading takes, are together of bulk at most 1048576: NARROWER than '..Said'. Prove '..Said' where nothing that the law and all that it calls make is longer than what came in: it says more and counts as full. Else prove '..UptoSaid'. A law counts once. -/
mutual
def uptoBulk {H : Type} : DataW H → Nat
  | .lit (.string bytes) => bytes.length + 1
  | .lit _ => 1
  | .nil => 1
  | .ptr d => uptoBulk d + 1
  | .slice elems spare => uptoBulkAll elems + uptoBulkAll spare + 1
  | .agg parts => uptoBulkAll parts + 1
  | .iface _ d => uptoBulk d + 1
  | .map entries => uptoBulkEntries entries + 1
  | .held _ => 1
def uptoBulkAll {H : Type} : List (DataW H) → Nat
  | [] => 0
  | d :: r => uptoBulk d + uptoBulkAll r
def uptoBulkEntries {H : Type} : List (Lit × DataW H) → Nat
  | [] => 0
  | x :: r => uptoBulkEntry x + uptoBulkEntries r
def uptoBulkEntry {H : Type} : Lit × DataW H → Nat
  | (.string bytes, d) => bytes.length + uptoBulk d + 1
  | (_, d) => uptoBulk d + 1
 end
def uptoSmall : (H : Type) → List (DataW H) → Bool := fun _ ds => decide (uptoBulkAll ds ≤ 1048576)
def OpenSpec.upto (s : _root_.Go.ChangeSpec) : _root_.Go.OpenSpec := { _root_.Go.OpenSpec.ofChange s with cond := some uptoSmall }

/-- 'laws.FnBoards', WHERE WHAT IT READS IS OF BULK AT MOST 1048576: true; the input reads as it did. -/
def fnBoardsUptoRow : OpenClaim := { program := "ytibkdkjcncfmgaa", sum := "b692a12ea0bb41a7916bbda5a3b3520c877722fda86c5670078771674e75e30a", func := "loop.example/g00646/laws.FnBoards", spec := "fnBoards", unfollowed := true, recurses := true, apart := false, narrowed := true }
def FnBoardsUptoSaid : Prop := fnBoardsUptoRow.holds Try.pinned (OpenSpec.upto fnBoardsSpec)

/-- 'laws.FnExactLeftIn', WHERE WHAT IT READS IS OF BULK AT MOST 1048576: true; the input reads as it did. -/
def fnExactLeftInUptoRow : OpenClaim := { program := "ytibkdkjcncfmgaa", sum := "b692a12ea0bb41a7916bbda5a3b3520c877722fda86c5670078771674e75e30a", func := "loop.example/g00646/laws.FnExactLeftIn", spec := "fnExactLeftIn", apart := false, narrowed := true }
def FnExactLeftInUptoSaid : Prop := fnExactLeftInUptoRow.holds Try.pinned (OpenSpec.upto fnExactLeftInSpec)

/-- 'laws.FnExactWorldFault', WHERE WHAT IT READS IS OF BULK AT MOST 1048576: true; the input reads as it did. -/
def fnExactWorldFaultUptoRow : OpenClaim := { program := "ytibkdkjcncfmgaa", sum := "b692a12ea0bb41a7916bbda5a3b3520c877722fda86c5670078771674e75e30a", func := "loop.example/g00646/laws.FnExactWorldFault", spec := "fnExactWorldFault", apart := false, narrowed := true }
def FnExactWorldFaultUptoSaid : Prop := fnExactWorldFaultUptoRow.holds Try.pinned (OpenSpec.upto fnExactWorldFaultSpec)

/-- 'laws.FnExactNewWorld', WHERE WHAT IT READS IS OF BULK AT MOST 1048576: true; the input reads as it did. -/
def fnExactNewWorldUptoRow : OpenClaim := { program := "ytibkdkjcncfmgaa", sum := "b692a12ea0bb41a7916bbda5a3b3520c877722fda86c5670078771674e75e30a", func := "loop.example/g00646/laws.FnExactNewWorld", spec := "fnExactNewWorld", apart := false, narrowed := true }
def FnExactNewWorldUptoSaid : Prop := fnExactNewWorldUptoRow.holds Try.pinned (OpenSpec.upto fnExactNewWorldSpec)

/-- 'laws.FnExactSeatOf', WHERE WHAT IT READS IS OF BULK AT MOST 1048576: true; the input reads as it did. -/
def fnExactSeatOfUptoRow : OpenClaim := { program := "ytibkdkjcncfmgaa", sum := "b692a12ea0bb41a7916bbda5a3b3520c877722fda86c5670078771674e75e30a", func := "loop.example/g00646/laws.FnExactSeatOf", spec := "fnExactSeatOf", unfollowed := true, recurses := true, apart := false, narrowed := true }
def FnExactSeatOfUptoSaid : Prop := fnExactSeatOfUptoRow.holds Try.pinned (OpenSpec.upto fnExactSeatOfSpec)

/-- 'laws.FnExactHasRight', WHERE WHAT IT READS IS OF BULK AT MOST 1048576: true; the input reads as it did. -/
def fnExactHasRightUptoRow : OpenClaim := { program := "ytibkdkjcncfmgaa", sum := "b692a12ea0bb41a7916bbda5a3b3520c877722fda86c5670078771674e75e30a", func := "loop.example/g00646/laws.FnExactHasRight", spec := "fnExactHasRight", apart := false, narrowed := true }
def FnExactHasRightUptoSaid : Prop := fnExactHasRightUptoRow.holds Try.pinned (OpenSpec.upto fnExactHasRightSpec)

/-- 'laws.FnExactAreAllies', WHERE WHAT IT READS IS OF BULK AT MOST 1048576: true; the input reads as it did. -/
def fnExactAreAlliesUptoRow : OpenClaim := { program := "ytibkdkjcncfmgaa", sum := "b692a12ea0bb41a7916bbda5a3b3520c877722fda86c5670078771674e75e30a", func := "loop.example/g00646/laws.FnExactAreAllies", spec := "fnExactAreAllies", apart := false, narrowed := true }
def FnExactAreAlliesUptoSaid : Prop := fnExactAreAlliesUptoRow.holds Try.pinned (OpenSpec.upto fnExactAreAlliesSpec)

/-- 'laws.FnExactTotalOf', WHERE WHAT IT READS IS OF BULK AT MOST 1048576: true; the input reads as it did. -/
def fnExactTotalOfUptoRow : OpenClaim := { program := "ytibkdkjcncfmgaa", sum := "b692a12ea0bb41a7916bbda5a3b3520c877722fda86c5670078771674e75e30a", func := "loop.example/g00646/laws.FnExactTotalOf", spec := "fnExactTotalOf", apart := false, narrowed := true }
def FnExactTotalOfUptoSaid : Prop := fnExactTotalOfUptoRow.holds Try.pinned (OpenSpec.upto fnExactTotalOfSpec)

end Rows
end Go.Proofs.Ytibkdkjcncfmgaa
