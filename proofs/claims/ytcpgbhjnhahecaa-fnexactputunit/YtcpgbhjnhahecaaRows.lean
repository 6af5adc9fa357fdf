/-
  No cell of these rows narrows 'for every input' (looked for: loops, veiled, ifaces, maps, wideKeys, modest, calm, conditions, laid).
  DERIVED. THE GIVEN ROWS OF THIS SEAT. 8 by the template 'for every input the law returns true; each argument reads behind the call as it read before'; 0 by the template 'total and deterministic' (their statements: YtcpgbhjnhahecaaTotals.lean).
  GIVEN WITH THE SEED: the statements are not yours to turn. If you find one false, say at which input.
  Laid BY PROGRAM, IN A SANDBOX (cutbox-rows.mjs): the forced cells as the released guide's own fill.sh prints them over the translation e9cbe97f9c68b526… (all of the seat's roots in one cut). By AI agents, Wed Nov 11 2026. No macro, syntax, notation, axiom, sorry.
-/
import Derived.Test.YtcpgbhjnhahecaaChecked
import GoSem.Claim
import GoSem.ClaimJoined
import GoSem.ClaimMapViews
import Derived.JoinedTies
import Derived.KernelRfl
namespace Go.Proofs.Ytcpgbhjnhahecaa
/- THE CELL 'sum', in the pinned program and in every row, IS THE sha256 OF THE DUMP (.gsa) THAT YtcpgbhjnhahecaaProg.lean LOADS. Nothing in Lean hashes anything: it is a label: what it is worth is what the hold of that sum in a sandbox is worth. -/
noncomputable def Try.pinned : Pinned := { name := "ytcpgbhjnhahecaa", sum := "e9cbe97f9c68b526dbdc6ffa802dcf629ddf72922fb514b60d813d4a8ac37f76", checked := Try.checked }
namespace Rows
def none {H : Type} : Left H := { results := [], args := [] }

/-- 'laws.FnBoards': WHATEVER THE INPUT: true; the input reads as it did. -/
def fnBoardsSpec : ChangeSpec := { name := "fnBoards", fn := fun _ => fun
  | [d] => { results := [.lit (.bool true)], args := [d] }
  | _ => none }
def fnBoardsRow : OpenClaim := { program := "ytcpgbhjnhahecaa", sum := "e9cbe97f9c68b526dbdc6ffa802dcf629ddf72922fb514b60d813d4a8ac37f76", func := "loop.example/g00646/laws.FnBoards", spec := "fnBoards", unfollowed := true, recurses := true, apart := false }
def FnBoardsSaid : Prop := fnBoardsRow.holds Try.pinned (OpenSpec.ofChange fnBoardsSpec)

/-- ITS FALSE NEIGHBOUR: 'it returns false'. Refute it at one input. -/
def fnBoardsWrong : ChangeSpec := { name := "fnBoards", fn := fun _ => fun
  | [d] => { results := [.lit (.bool false)], args := [d] }
  | _ => none }
def FnBoardsWrongFalsely : Prop := fnBoardsRow.holds Try.pinned (OpenSpec.ofChange fnBoardsWrong)

/-- 'laws.FnExactUnitFault': WHATEVER THE INPUT: true; the input reads as it did. -/
def fnExactUnitFaultSpec : ChangeSpec := { name := "fnExactUnitFault", fn := fun _ => fun
  | [d] => { results := [.lit (.bool true)], args := [d] }
  | _ => none }
def fnExactUnitFaultRow : OpenClaim := { program := "ytcpgbhjnhahecaa", sum := "e9cbe97f9c68b526dbdc6ffa802dcf629ddf72922fb514b60d813d4a8ac37f76", func := "loop.example/g00646/laws.FnExactUnitFault", spec := "fnExactUnitFault", apart := false }
def FnExactUnitFaultSaid : Prop := fnExactUnitFaultRow.holds Try.pinned (OpenSpec.ofChange fnExactUnitFaultSpec)

/-- ITS FALSE NEIGHBOUR: 'it returns false'. Refute it at one input. -/
def fnExactUnitFaultWrong : ChangeSpec := { name := "fnExactUnitFault", fn := fun _ => fun
  | [d] => { results := [.lit (.bool false)], args := [d] }
  | _ => none }
def FnExactUnitFaultWrongFalsely : Prop := fnExactUnitFaultRow.holds Try.pinned (OpenSpec.ofChange fnExactUnitFaultWrong)

/-- 'laws.FnExactBoardFault': WHATEVER THE INPUT: true; the input reads as it did. -/
def fnExactBoardFaultSpec : ChangeSpec := { name := "fnExactBoardFault", fn := fun _ => fun
  | [d] => { results := [.lit (.bool true)], args := [d] }
  | _ => none }
def fnExactBoardFaultRow : OpenClaim := { program := "ytcpgbhjnhahecaa", sum := "e9cbe97f9c68b526dbdc6ffa802dcf629ddf72922fb514b60d813d4a8ac37f76", func := "loop.example/g00646/laws.FnExactBoardFault", spec := "fnExactBoardFault", apart := false }
def FnExactBoardFaultSaid : Prop := fnExactBoardFaultRow.holds Try.pinned (OpenSpec.ofChange fnExactBoardFaultSpec)

/-- ITS FALSE NEIGHBOUR: 'it returns false'. Refute it at one input. -/
def fnExactBoardFaultWrong : ChangeSpec := { name := "fnExactBoardFault", fn := fun _ => fun
  | [d] => { results := [.lit (.bool false)], args := [d] }
  | _ => none }
def FnExactBoardFaultWrongFalsely : Prop := fnExactBoardFaultRow.holds Try.pinned (OpenSpec.ofChange fnExactBoardFaultWrong)

/-- 'laws.FnExactUnitOf': WHATEVER THE INPUT: true; the input reads as it did. -/
def fnExactUnitOfSpec : ChangeSpec := { name := "fnExactUnitOf", fn := fun _ => fun
  | [d1, d2] => { results := [.lit (.bool true)], args := [d1, d2] }
  | _ => none }
def fnExactUnitOfRow : OpenClaim := { program := "ytcpgbhjnhahecaa", sum := "e9cbe97f9c68b526dbdc6ffa802dcf629ddf72922fb514b60d813d4a8ac37f76", func := "loop.example/g00646/laws.FnExactUnitOf", spec := "fnExactUnitOf", apart := false }
def FnExactUnitOfSaid : Prop := fnExactUnitOfRow.holds Try.pinned (OpenSpec.ofChange fnExactUnitOfSpec)

/-- ITS FALSE NEIGHBOUR: 'it returns false'. Refute it at one input. -/
def fnExactUnitOfWrong : ChangeSpec := { name := "fnExactUnitOf", fn := fun _ => fun
  | [d1, d2] => { results := [.lit (.bool false)], args := [d1, d2] }
  | _ => none }
def FnExactUnitOfWrongFalsely : Prop := fnExactUnitOfRow.holds Try.pinned (OpenSpec.ofChange fnExactUnitOfWrong)

/-- 'laws.FnExactPutUnit': WHATEVER THE INPUT: true; the input reads as it did. -/
def fnExactPutUnitSpec : ChangeSpec := { name := "fnExactPutUnit", fn := fun _ => fun
  | [d1, d2] => { results := [.lit (.bool true)], args := [d1, d2] }
  | _ => none }
def fnExactPutUnitRow : OpenClaim := { program := "ytcpgbhjnhahecaa", sum := "e9cbe97f9c68b526dbdc6ffa802dcf629ddf72922fb514b60d813d4a8ac37f76", func := "loop.example/g00646/laws.FnExactPutUnit", spec := "fnExactPutUnit", unfollowed := true, recurses := true, apart := false }
def FnExactPutUnitSaid : Prop := fnExactPutUnitRow.holds Try.pinned (OpenSpec.ofChange fnExactPutUnitSpec)

/-- ITS FALSE NEIGHBOUR: 'it returns false'. Refute it at one input. -/
def fnExactPutUnitWrong : ChangeSpec := { name := "fnExactPutUnit", fn := fun _ => fun
  | [d1, d2] => { results := [.lit (.bool false)], args := [d1, d2] }
  | _ => none }
def FnExactPutUnitWrongFalsely : Prop := fnExactPutUnitRow.holds Try.pinned (OpenSpec.ofChange fnExactPutUnitWrong)

/-- 'laws.FnExactOwnedBy': WHATEVER THE INPUT: true; the input reads as it did. -/
def fnExactOwnedBySpec : ChangeSpec := { name := "fnExactOwnedBy", fn := fun _ => fun
  | [d1, d2] => { results := [.lit (.bool true)], args := [d1, d2] }
  | _ => none }
def fnExactOwnedByRow : OpenClaim := { program := "ytcpgbhjnhahecaa", sum := "e9cbe97f9c68b526dbdc6ffa802dcf629ddf72922fb514b60d813d4a8ac37f76", func := "loop.example/g00646/laws.FnExactOwnedBy", spec := "fnExactOwnedBy", apart := false }
def FnExactOwnedBySaid : Prop := fnExactOwnedByRow.holds Try.pinned (OpenSpec.ofChange fnExactOwnedBySpec)

/-- ITS FALSE NEIGHBOUR: 'it returns false'. Refute it at one input. -/
def fnExactOwnedByWrong : ChangeSpec := { name := "fnExactOwnedBy", fn := fun _ => fun
  | [d1, d2] => { results := [.lit (.bool false)], args := [d1, d2] }
  | _ => none }
def FnExactOwnedByWrongFalsely : Prop := fnExactOwnedByRow.holds Try.pinned (OpenSpec.ofChange fnExactOwnedByWrong)

/-- 'laws.FnExactCarriedBy': WHATEVER THE INPUT: true; the input reads as it did. -/
def fnExactCarriedBySpec : ChangeSpec := { name := "fnExactCarriedBy", fn := fun _ => fun
  | [d1, d2] => { results := [.lit (.bool true)], args := [d1, d2] }
  | _ => none }
def fnExactCarriedByRow : OpenClaim := { program := "ytcpgbhjnhahecaa", sum := "e9cbe97f9c68b526dbdc6ffa802dcf629ddf72922fb514b60d813d4a8ac37f76", func := "loop.example/g00646/laws.FnExactCarriedBy", spec := "fnExactCarriedBy", apart := false }
def FnExactCarriedBySaid : Prop := fnExactCarriedByRow.holds Try.pinned (OpenSpec.ofChange fnExactCarriedBySpec)

/-- ITS FALSE NEIGHBOUR: 'it returns false'. Refute it at one input. -/
def fnExactCarriedByWrong : ChangeSpec := { name := "fnExactCarriedBy", fn := fun _ => fun
  | [d1, d2] => { results := [.lit (.bool false)], args := [d1, d2] }
  | _ => none }
def FnExactCarriedByWrongFalsely : Prop := fnExactCarriedByRow.holds Try.pinned (OpenSpec.ofChange fnExactCarriedByWrong)

/-- 'laws.FnExactLeftIn': WHATEVER THE INPUT: true; the input reads as it did. -/
def fnExactLeftInSpec : ChangeSpec := { name := "fnExactLeftIn", fn := fun _ => fun
  | [d] => { results := [.lit (.bool true)], args := [d] }
  | _ => none }
def fnExactLeftInRow : OpenClaim := { program := "ytcpgbhjnhahecaa", sum := "e9cbe97f9c68b526dbdc6ffa802dcf629ddf72922fb514b60d813d4a8ac37f76", func := "loop.example/g00646/laws.FnExactLeftIn", spec := "fnExactLeftIn", apart := false }
def FnExactLeftInSaid : Prop := fnExactLeftInRow.holds Try.pinned (OpenSpec.ofChange fnExactLeftInSpec)

/-- ITS FALSE NEIGHBOUR: 'it returns false'. Refute it at one input. -/
def fnExactLeftInWrong : ChangeSpec := { name := "fnExactLeftIn", fn := fun _ => fun
  | [d] => { results := [.lit (.bool false)], args := [d] }
  | _ => none }
def FnExactLeftInWrongFalsely : Prop := fnExactLeftInRow.holds Try.pinned (OpenSpec.ofChange fnExactLeftInWrong)

/- THE SECOND FORM. 'bulk': how many values and letters a reading holds, each counted each time it is reached (what is shared counts as often as it is met; a slice's spare places count too). A statement '..UptoSaid' is the law's where the arguments, and the package variables that the reading takes, are together of bulk at most 1048576: NARROWER than '..Said'. Prove '..Said' where nothing that the law and all that it calls make is longer than what came in: it says more and counts as full. Else prove '..UptoSaid'. A law counts once. -/
mutual
def uptoBulk {H : Type} : DataW H → Nat
  | .lit (.string bytes) => bytes.length + 1
  | .lit _ => 1
  | .nil => 1
  | .ptr d => uptoBulk d + 1
  | .slice elems spare => uptoBulkAll elems + uptoBulkAll spare + 1
  | .agg parts => uptoBulkAll parts + 1
  | .iface _ d => uptoBulk d + 1
  | .map entries => uptoBulkEntries entries + 1
  | .held _ => 1
def uptoBulkAll {H : Type} : List (DataW H) → Nat
  | [] => 0
  | d :: r => uptoBulk d + uptoBulkAll r
def uptoBulkEntries {H : Type} : List (Lit × DataW H) → Nat
  | [] => 0
  | x :: r => uptoBulkEntry x + uptoBulkEntries r
def uptoBulkEntry {H : Type} : Lit × DataW H → Nat
  | (.string bytes, d) => bytes.length + uptoBulk d + 1
  | (_, d) => uptoBulk d + 1
 end
def uptoSmall : (H : Type) → List (DataW H) → Bool := fun _ ds => decide (uptoBulkAll ds ≤ 1048576)
def OpenSpec.upto (s : _root_.Go.ChangeSpec) : _root_.Go.OpenSpec := { _root_.Go.OpenSpec.ofChange s with cond := some uptoSmall }

/-- 'laws.FnBoards', WHERE WHAT IT READS IS OF BULK AT MOST 1048576: true; the input reads as it did. -/
def fnBoardsUptoRow : OpenClaim := { program := "ytcpgbhjnhahecaa", sum := "e9cbe97f9c68b526dbdc6ffa802dcf629ddf72922fb514b60d813d4a8ac37f76", func := "loop.example/g00646/laws.FnBoards", spec := "fnBoards", unfollowed := true, recurses := true, apart := false, narrowed := true }
def FnBoardsUptoSaid : Prop := fnBoardsUptoRow.holds Try.pinned (OpenSpec.upto fnBoardsSpec)

/-- 'laws.FnExactUnitFault', WHERE WHAT IT READS IS OF BULK AT MOST 1048576: true; the input reads as it did. -/
def fnExactUnitFaultUptoRow : OpenClaim := { program := "ytcpgbhjnhahecaa", sum := "e9cbe97f9c68b526dbdc6ffa802dcf629ddf72922fb514b60d813d4a8ac37f76", func := "loop.example/g00646/laws.FnExactUnitFault", spec := "fnExactUnitFault", apart := false, narrowed := true }
def FnExactUnitFaultUptoSaid : Prop := fnExactUnitFaultUptoRow.holds Try.pinned (OpenSpec.upto fnExactUnitFaultSpec)

/-- 'laws.FnExactBoardFault', WHERE WHAT IT READS IS OF BULK AT MOST 1048576: true; the input reads as it did. -/
def fnExactBoardFaultUptoRow : OpenClaim := { program := "ytcpgbhjnhahecaa", sum := "e9cbe97f9c68b526dbdc6ffa802dcf629ddf72922fb514b60d813d4a8ac37f76", func := "loop.example/g00646/laws.FnExactBoardFault", spec := "fnExactBoardFault", apart := false, narrowed := true }
def FnExactBoardFaultUptoSaid : Prop := fnExactBoardFaultUptoRow.holds Try.pinned (OpenSpec.upto fnExactBoardFaultSpec)

/-- 'laws.FnExactUnitOf', WHERE WHAT IT READS IS OF BULK AT MOST 1048576: true; the input reads as it did. -/
def fnExactUnitOfUptoRow : OpenClaim := { program := "ytcpgbhjnhahecaa", sum := "e9cbe97f9c68b526dbdc6ffa802dcf629ddf72922fb514b60d813d4a8ac37f76", func := "loop.example/g00646/laws.FnExactUnitOf", spec := "fnExactUnitOf", apart := false, narrowed := true }
def FnExactUnitOfUptoSaid : Prop := fnExactUnitOfUptoRow.holds Try.pinned (OpenSpec.upto fnExactUnitOfSpec)

/-- 'laws.FnExactPutUnit', WHERE WHAT IT READS IS OF BULK AT MOST 1048576: true; the input reads as it did. -/
def fnExactPutUnitUptoRow : OpenClaim := { program := "ytcpgbhjnhahecaa", sum := "e9cbe97f9c68b526dbdc6ffa802dcf629ddf72922fb514b60d813d4a8ac37f76", func := "loop.example/g00646/laws.FnExactPutUnit", spec := "fnExactPutUnit", unfollowed := true, recurses := true, apart := false, narrowed := true }
def FnExactPutUnitUptoSaid : Prop := fnExactPutUnitUptoRow.holds Try.pinned (OpenSpec.upto fnExactPutUnitSpec)

/-- 'laws.FnExactOwnedBy', WHERE WHAT IT READS IS OF BULK AT MOST 1048576: true; the input reads as it did. -/
def fnExactOwnedByUptoRow : OpenClaim := { program := "ytcpgbhjnhahecaa", sum := "e9cbe97f9c68b526dbdc6ffa802dcf629ddf72922fb514b60d813d4a8ac37f76", func := "loop.example/g00646/laws.FnExactOwnedBy", spec := "fnExactOwnedBy", apart := false, narrowed := true }
def FnExactOwnedByUptoSaid : Prop := fnExactOwnedByUptoRow.holds Try.pinned (OpenSpec.upto fnExactOwnedBySpec)

/-- 'laws.FnExactCarriedBy', WHERE WHAT IT READS IS OF BULK AT MOST 1048576: true; the input reads as it did. -/
def fnExactCarriedByUptoRow : OpenClaim := { program := "ytcpgbhjnhahecaa", sum := "e9cbe97f9c68b526dbdc6ffa802dcf629ddf72922fb514b60d813d4a8ac37f76", func := "loop.example/g00646/laws.FnExactCarriedBy", spec := "fnExactCarriedBy", apart := false, narrowed := true }
def FnExactCarriedByUptoSaid : Prop := fnExactCarriedByUptoRow.holds Try.pinned (OpenSpec.upto fnExactCarriedBySpec)

/-- 'laws.FnExactLeftIn', WHERE WHAT IT READS IS OF BULK AT MOST 1048576: true; the input reads as it did. -/
def fnExactLeftInUptoRow : OpenClaim := { program := "ytcpgbhjnhahecaa", sum := "e9cbe97f9c68b526dbdc6ffa802dcf629ddf72922fb514b60d813d4a8ac37f76", func := "loop.example/g00646/laws.FnExactLeftIn", spec := "fnExactLeftIn", apart := false, narrowed := true }
def FnExactLeftInUptoSaid : Prop := fnExactLeftInUptoRow.holds Try.pinned (OpenSpec.upto fnExactLeftInSpec)

end Rows
end Go.Proofs.Ytcpgbhjnhahecaa
