/-
  No cell of these rows narrows 'for every input' (looked for: loops, veiled, ifaces, maps, wideKeys, modest, calm, conditions, laid).
  DERIVED. THE GIVEN ROWS OF THIS SEAT. 6 by the template 'for every input the law returns true; each argument reads behind the call as it read before'; 0 by the template 'total and deterministic' (their statements: YtgboomfgipgcnaaTotals.lean).
  GIVEN WITH THE SEED: the statements are not yours to turn. If you find one false, say at which input.
  Laid BY PROGRAM, IN A SANDBOX (cutbox-rows.mjs): the forced cells as the released guide's own fill.sh prints them over the translation f57f05dc800e34d0… (all of the seat's roots in one cut). By AI agents, Wed Nov 11 2026. No macro, syntax, notation, axiom, sorry.
-/
import Derived.Test.YtgboomfgipgcnaaChecked
import GoSem.Claim
import GoSem.ClaimJoined
import GoSem.ClaimMapViews
import Derived.JoinedTies
import Derived.KernelRfl
namespace Go.Proofs.Ytgboomfgipgcnaa
/- THE CELL 'sum', in the pinned program and in every row, IS THE sha256 OF THE DUMP (.gsa) THAT YtgboomfgipgcnaaProg.lean LOADS. Nothing in Lean hashes anything: it is a label: what it is worth is what the hold of that sum in a sandbox is worth. -/
noncomputable def Try.pinned : Pinned := { name := "ytgboomfgipgcnaa", sum := "f57f05dc800e34d0445ab12b02dbb88ece093d2b09ac4be84697c2436db4bd82", checked := Try.checked }
namespace Rows
def none {H : Type} : Left H := { results := [], args := [] }

/-- 'laws.FnPurses': WHATEVER THE INPUT: true; the input reads as it did. -/
def fnPursesSpec : ChangeSpec := { name := "fnPurses", fn := fun _ => fun
  | [d] => { results := [.lit (.bool true)], args := [d] }
  | _ => none }
def fnPursesRow : OpenClaim := { program := "ytgboomfgipgcnaa", sum := "f57f05dc800e34d0445ab12b02dbb88ece093d2b09ac4be84697c2436db4bd82", func := "loop.example/g00646/laws.FnPurses", spec := "fnPurses", apart := false }
def FnPursesSaid : Prop := fnPursesRow.holds Try.pinned (OpenSpec.ofChange fnPursesSpec)

/-- ITS FALSE NEIGHBOUR: 'it returns false'. Refute it at one input. -/
def fnPursesWrong : ChangeSpec := { name := "fnPurses", fn := fun _ => fun
  | [d] => { results := [.lit (.bool false)], args := [d] }
  | _ => none }
def FnPursesWrongFalsely : Prop := fnPursesRow.holds Try.pinned (OpenSpec.ofChange fnPursesWrong)

/-- 'laws.FnChance': WHATEVER THE INPUT: true; the input reads as it did. -/
def fnChanceSpec : ChangeSpec := { name := "fnChance", fn := fun _ => fun
  | [d] => { results := [.lit (.bool true)], args := [d] }
  | _ => none }
def fnChanceRow : OpenClaim := { program := "ytgboomfgipgcnaa", sum := "f57f05dc800e34d0445ab12b02dbb88ece093d2b09ac4be84697c2436db4bd82", func := "loop.example/g00646/laws.FnChance", spec := "fnChance", apart := false }
def FnChanceSaid : Prop := fnChanceRow.holds Try.pinned (OpenSpec.ofChange fnChanceSpec)

/-- ITS FALSE NEIGHBOUR: 'it returns false'. Refute it at one input. -/
def fnChanceWrong : ChangeSpec := { name := "fnChance", fn := fun _ => fun
  | [d] => { results := [.lit (.bool false)], args := [d] }
  | _ => none }
def FnChanceWrongFalsely : Prop := fnChanceRow.holds Try.pinned (OpenSpec.ofChange fnChanceWrong)

/-- 'laws.FnWays': WHATEVER THE INPUT: true; the input reads as it did. -/
def fnWaysSpec : ChangeSpec := { name := "fnWays", fn := fun _ => fun
  | [d] => { results := [.lit (.bool true)], args := [d] }
  | _ => none }
def fnWaysRow : OpenClaim := { program := "ytgboomfgipgcnaa", sum := "f57f05dc800e34d0445ab12b02dbb88ece093d2b09ac4be84697c2436db4bd82", func := "loop.example/g00646/laws.FnWays", spec := "fnWays", apart := false }
def FnWaysSaid : Prop := fnWaysRow.holds Try.pinned (OpenSpec.ofChange fnWaysSpec)

/-- ITS FALSE NEIGHBOUR: 'it returns false'. Refute it at one input. -/
def fnWaysWrong : ChangeSpec := { name := "fnWays", fn := fun _ => fun
  | [d] => { results := [.lit (.bool false)], args := [d] }
  | _ => none }
def FnWaysWrongFalsely : Prop := fnWaysRow.holds Try.pinned (OpenSpec.ofChange fnWaysWrong)

/-- 'laws.FnShares': WHATEVER THE INPUT: true; the input reads as it did. -/
def fnSharesSpec : ChangeSpec := { name := "fnShares", fn := fun _ => fun
  | [d] => { results := [.lit (.bool true)], args := [d] }
  | _ => none }
def fnSharesRow : OpenClaim := { program := "ytgboomfgipgcnaa", sum := "f57f05dc800e34d0445ab12b02dbb88ece093d2b09ac4be84697c2436db4bd82", func := "loop.example/g00646/laws.FnShares", spec := "fnShares", apart := false }
def FnSharesSaid : Prop := fnSharesRow.holds Try.pinned (OpenSpec.ofChange fnSharesSpec)

/-- ITS FALSE NEIGHBOUR: 'it returns false'. Refute it at one input. -/
def fnSharesWrong : ChangeSpec := { name := "fnShares", fn := fun _ => fun
  | [d] => { results := [.lit (.bool false)], args := [d] }
  | _ => none }
def FnSharesWrongFalsely : Prop := fnSharesRow.holds Try.pinned (OpenSpec.ofChange fnSharesWrong)

/-- 'laws.FnExactAddPurse': WHATEVER THE INPUT: true; the input reads as it did. -/
def fnExactAddPurseSpec : ChangeSpec := { name := "fnExactAddPurse", fn := fun _ => fun
  | [d1, d2] => { results := [.lit (.bool true)], args := [d1, d2] }
  | _ => none }
def fnExactAddPurseRow : OpenClaim := { program := "ytgboomfgipgcnaa", sum := "f57f05dc800e34d0445ab12b02dbb88ece093d2b09ac4be84697c2436db4bd82", func := "loop.example/g00646/laws.FnExactAddPurse", spec := "fnExactAddPurse", apart := false }
def FnExactAddPurseSaid : Prop := fnExactAddPurseRow.holds Try.pinned (OpenSpec.ofChange fnExactAddPurseSpec)

/-- ITS FALSE NEIGHBOUR: 'it returns false'. Refute it at one input. -/
def fnExactAddPurseWrong : ChangeSpec := { name := "fnExactAddPurse", fn := fun _ => fun
  | [d1, d2] => { results := [.lit (.bool false)], args := [d1, d2] }
  | _ => none }
def FnExactAddPurseWrongFalsely : Prop := fnExactAddPurseRow.holds Try.pinned (OpenSpec.ofChange fnExactAddPurseWrong)

/-- 'laws.FnExactRootOf': WHATEVER THE INPUT: true; the input reads as it did. -/
def fnExactRootOfSpec : ChangeSpec := { name := "fnExactRootOf", fn := fun _ => fun
  | [d] => { results := [.lit (.bool true)], args := [d] }
  | _ => none }
def fnExactRootOfRow : OpenClaim := { program := "ytgboomfgipgcnaa", sum := "f57f05dc800e34d0445ab12b02dbb88ece093d2b09ac4be84697c2436db4bd82", func := "loop.example/g00646/laws.FnExactRootOf", spec := "fnExactRootOf", apart := false }
def FnExactRootOfSaid : Prop := fnExactRootOfRow.holds Try.pinned (OpenSpec.ofChange fnExactRootOfSpec)

/-- ITS FALSE NEIGHBOUR: 'it returns false'. Refute it at one input. -/
def fnExactRootOfWrong : ChangeSpec := { name := "fnExactRootOf", fn := fun _ => fun
  | [d] => { results := [.lit (.bool false)], args := [d] }
  | _ => none }
def FnExactRootOfWrongFalsely : Prop := fnExactRootOfRow.holds Try.pinned (OpenSpec.ofChange fnExactRootOfWrong)

/- THE SECOND FORM. 'bulk': how many values and letters a reading holds, each counted each time it is reached (what is shared counts as often as it is met; a slice's spare places count too). A statement '..UptoSaid' is the law's where the arguments, and the package variables that the reading takes, are together of bulk at most 1048576: NARROWER than '..Said'. Prove '..Said' where nothing that the law and all that it calls make is longer than what came in: it says more and counts as full. Else prove '..UptoSaid'. A law counts once. -/
mutual
def uptoBulk {H : Type} : DataW H → Nat
  | .lit (.string bytes) => bytes.length + 1
  | .lit _ => 1
  | .nil => 1
  | .ptr d => uptoBulk d + 1
  | .slice elems spare => uptoBulkAll elems + uptoBulkAll spare + 1
  | .agg parts => uptoBulkAll parts + 1
  | .iface _ d => uptoBulk d + 1
  | .map entries => uptoBulkEntries entries + 1
  | .held _ => 1
def uptoBulkAll {H : Type} : List (DataW H) → Nat
  | [] => 0
  | d :: r => uptoBulk d + uptoBulkAll r
def uptoBulkEntries {H : Type} : List (Lit × DataW H) → Nat
  | [] => 0
  | x :: r => uptoBulkEntry x + uptoBulkEntries r
def uptoBulkEntry {H : Type} : Lit × DataW H → Nat
  | (.string bytes, d) => bytes.length + uptoBulk d + 1
  | (_, d) => uptoBulk d + 1
 end
def uptoSmall : (H : Type) → List (DataW H) → Bool := fun _ ds => decide (uptoBulkAll ds ≤ 1048576)
def OpenSpec.upto (s : _root_.Go.ChangeSpec) : _root_.Go.OpenSpec := { _root_.Go.OpenSpec.ofChange s with cond := some uptoSmall }

/-- 'laws.FnPurses', WHERE WHAT IT READS IS OF BULK AT MOST 1048576: true; the input reads as it did. -/
def fnPursesUptoRow : OpenClaim := { program := "ytgboomfgipgcnaa", sum := "f57f05dc800e34d0445ab12b02dbb88ece093d2b09ac4be84697c2436db4bd82", func := "loop.example/g00646/laws.FnPurses", spec := "fnPurses", apart := false, narrowed := true }
def FnPursesUptoSaid : Prop := fnPursesUptoRow.holds Try.pinned (OpenSpec.upto fnPursesSpec)

/-- 'laws.FnChance', WHERE WHAT IT READS IS OF BULK AT MOST 1048576: true; the input reads as it did. -/
def fnChanceUptoRow : OpenClaim := { program := "ytgboomfgipgcnaa", sum := "f57f05dc800e34d0445ab12b02dbb88ece093d2b09ac4be84697c2436db4bd82", func := "loop.example/g00646/laws.FnChance", spec := "fnChance", apart := false, narrowed := true }
def FnChanceUptoSaid : Prop := fnChanceUptoRow.holds Try.pinned (OpenSpec.upto fnChanceSpec)

/-- 'laws.FnWays', WHERE WHAT IT READS IS OF BULK AT MOST 1048576: true; the input reads as it did. -/
def fnWaysUptoRow : OpenClaim := { program := "ytgboomfgipgcnaa", sum := "f57f05dc800e34d0445ab12b02dbb88ece093d2b09ac4be84697c2436db4bd82", func := "loop.example/g00646/laws.FnWays", spec := "fnWays", apart := false, narrowed := true }
def FnWaysUptoSaid : Prop := fnWaysUptoRow.holds Try.pinned (OpenSpec.upto fnWaysSpec)

/-- 'laws.FnShares', WHERE WHAT IT READS IS OF BULK AT MOST 1048576: true; the input reads as it did. -/
def fnSharesUptoRow : OpenClaim := { program := "ytgboomfgipgcnaa", sum := "f57f05dc800e34d0445ab12b02dbb88ece093d2b09ac4be84697c2436db4bd82", func := "loop.example/g00646/laws.FnShares", spec := "fnShares", apart := false, narrowed := true }
def FnSharesUptoSaid : Prop := fnSharesUptoRow.holds Try.pinned (OpenSpec.upto fnSharesSpec)

/-- 'laws.FnExactAddPurse', WHERE WHAT IT READS IS OF BULK AT MOST 1048576: true; the input reads as it did. -/
def fnExactAddPurseUptoRow : OpenClaim := { program := "ytgboomfgipgcnaa", sum := "f57f05dc800e34d0445ab12b02dbb88ece093d2b09ac4be84697c2436db4bd82", func := "loop.example/g00646/laws.FnExactAddPurse", spec := "fnExactAddPurse", apart := false, narrowed := true }
def FnExactAddPurseUptoSaid : Prop := fnExactAddPurseUptoRow.holds Try.pinned (OpenSpec.upto fnExactAddPurseSpec)

/-- 'laws.FnExactRootOf', WHERE WHAT IT READS IS OF BULK AT MOST 1048576: true; the input reads as it did. -/
def fnExactRootOfUptoRow : OpenClaim := { program := "ytgboomfgipgcnaa", sum := "f57f05dc800e34d0445ab12b02dbb88ece093d2b09ac4be84697c2436db4bd82", func := "loop.example/g00646/laws.FnExactRootOf", spec := "fnExactRootOf", apart := false, narrowed := true }
def FnExactRootOfUptoSaid : Prop := fnExactRootOfUptoRow.holds Try.pinned (OpenSpec.upto fnExactRootOfSpec)

end Rows
end Go.Proofs.Ytgboomfgipgcnaa
