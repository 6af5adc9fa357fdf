/-
  No cell of these rows narrows 'for every input' (looked for: loops, veiled, ifaces, maps, wideKeys, modest, calm, conditions, laid).
  DERIVED. THE GIVEN ROWS OF THIS SEAT. 2 by the template 'for every input the law returns true; each argument reads behind the call as it read before'; 0 by the template 'total and deterministic' (their statements: YtmfdggaijbcijaaGreatTotals.lean).
  GIVEN WITH THE SEED: the statements are not yours to turn. If you find one false, say at which input.
  Laid BY PROGRAM, IN A SANDBOX (cutbox-rows.mjs): the forced cells as the released guide's own fill.sh prints them over the translation b6688444a51ea9b6… (all of the seat's roots in one cut). By AI agents, Wed Nov 11 2026. No macro, syntax, notation, axiom, sorry.
-/
import Derived.Test.YtmfdggaijbcijaaGreatChecked
import GoSem.Claim
import GoSem.ClaimJoined
import GoSem.ClaimMapViews
import Derived.JoinedTies
import Derived.KernelRfl
namespace Go.Proofs.YtmfdggaijbcijaaGreat
/- THE CELL 'sum', in the pinned program and in every row, IS THE sha256 OF THE DUMP (.gsa) THAT YtmfdggaijbcijaaGreatProg.lean LOADS. Nothing in Lean hashes anything: it is a label: what it is worth is what the hold of that sum in a sandbox is worth. -/
noncomputable def Tryz.pinned : Pinned := { name := "ytmfdggaijbcijaagreat", sum := "b6688444a51ea9b6c5eb80d5e637ae68981fc7ca7a8b7ef5c52e1e4b3191f2a2", checked := Tryz.checked }
namespace Rows
def none {H : Type} : Left H := { results := [], args := [] }

/-- 'laws.FnPacts': WHATEVER THE INPUT: true; the input reads as it did. -/
def fnPactsSpec : ChangeSpec := { name := "fnPacts", fn := fun _ => fun
  | [d] => { results := [.lit (.bool true)], args := [d] }
  | _ => none }
def fnPactsRow : OpenClaim := { program := "ytmfdggaijbcijaagreat", sum := "b6688444a51ea9b6c5eb80d5e637ae68981fc7ca7a8b7ef5c52e1e4b3191f2a2", func := "loop.example/g00646/laws.FnPacts", spec := "fnPacts", unfollowed := true, recurses := true, plainKeys := false, apart := false }
def FnPactsSaid : Prop := fnPactsRow.holds Tryz.pinned (OpenSpec.ofChange fnPactsSpec)

/-- ITS FALSE NEIGHBOUR: 'it returns false'. Refute it at one input. -/
def fnPactsWrong : ChangeSpec := { name := "fnPacts", fn := fun _ => fun
  | [d] => { results := [.lit (.bool false)], args := [d] }
  | _ => none }
def FnPactsWrongFalsely : Prop := fnPactsRow.holds Tryz.pinned (OpenSpec.ofChange fnPactsWrong)

/-- 'laws.FnOffers': WHATEVER THE INPUT: true; the input reads as it did. -/
def fnOffersSpec : ChangeSpec := { name := "fnOffers", fn := fun _ => fun
  | [d] => { results := [.lit (.bool true)], args := [d] }
  | _ => none }
def fnOffersRow : OpenClaim := { program := "ytmfdggaijbcijaagreat", sum := "b6688444a51ea9b6c5eb80d5e637ae68981fc7ca7a8b7ef5c52e1e4b3191f2a2", func := "loop.example/g00646/laws.FnOffers", spec := "fnOffers", unfollowed := true, recurses := true, plainKeys := false, apart := false }
def FnOffersSaid : Prop := fnOffersRow.holds Tryz.pinned (OpenSpec.ofChange fnOffersSpec)

/-- ITS FALSE NEIGHBOUR: 'it returns false'. Refute it at one input. -/
def fnOffersWrong : ChangeSpec := { name := "fnOffers", fn := fun _ => fun
  | [d] => { results := [.lit (.bool false)], args := [d] }
  | _ => none }
def FnOffersWrongFalsely : Prop := fnOffersRow.holds Tryz.pinned (OpenSpec.ofChange fnOffersWrong)

/- THE SECOND FORM. 'bulk': how many values and letters a reading holds, each counted each time it is reached (what is shared counts as often as it is met; a slice's spare places count too). A statement '..UptoSaid' is the law's where the arguments, and the package variables that the reading takes, are together of bulk at most 1048576: NARROWER than '..Said'. Prove '..Said' where nothing that the law and all that it calls make is longer than what came in: it says more and counts as full. Else prove '..UptoSaid'. A law counts once. -/
mutual
def uptoBulk {H : Type} : DataW H → Nat
  | .lit (.string bytes) => bytes.length + 1
  | .lit _ => 1
  | .nil => 1
  | .ptr d => uptoBulk d + 1
  | .slice elems spare => uptoBulkAll elems + uptoBulkAll spare + 1
  | .agg parts => uptoBulkAll parts + 1
  | .iface _ d => uptoBulk d + 1
  | .map entries => uptoBulkEntries entries + 1
  | .held _ => 1
def uptoBulkAll {H : Type} : List (DataW H) → Nat
  | [] => 0
  | d :: r => uptoBulk d + uptoBulkAll r
def uptoBulkEntries {H : Type} : List (Lit × DataW H) → Nat
  | [] => 0
  | x :: r => uptoBulkEntry x + uptoBulkEntries r
def uptoBulkEntry {H : Type} : Lit × DataW H → Nat
  | (.string bytes, d) => bytes.length + uptoBulk d + 1
  | (_, d) => uptoBulk d + 1
 end
def uptoSmall : (H : Type) → List (DataW H) → Bool := fun _ ds => decide (uptoBulkAll ds ≤ 1048576)
def OpenSpec.upto (s : _root_.Go.ChangeSpec) : _root_.Go.OpenSpec := { _root_.Go.OpenSpec.ofChange s with cond := some uptoSmall }

/-- 'laws.FnPacts', WHERE WHAT IT READS IS OF BULK AT MOST 1048576: true; the input reads as it did. -/
def fnPactsUptoRow : OpenClaim := { program := "ytmfdggaijbcijaagreat", sum := "b6688444a51ea9b6c5eb80d5e637ae68981fc7ca7a8b7ef5c52e1e4b3191f2a2", func := "loop.example/g00646/laws.FnPacts", spec := "fnPacts", unfollowed := true, recurses := true, plainKeys := false, apart := false, narrowed := true }
def FnPactsUptoSaid : Prop := fnPactsUptoRow.holds Tryz.pinned (OpenSpec.upto fnPactsSpec)

/-- 'laws.FnOffers', WHERE WHAT IT READS IS OF BULK AT MOST 1048576: true; the input reads as it did. -/
def fnOffersUptoRow : OpenClaim := { program := "ytmfdggaijbcijaagreat", sum := "b6688444a51ea9b6c5eb80d5e637ae68981fc7ca7a8b7ef5c52e1e4b3191f2a2", func := "loop.example/g00646/laws.FnOffers", spec := "fnOffers", unfollowed := true, recurses := true, plainKeys := false, apart := false, narrowed := true }
def FnOffersUptoSaid : Prop := fnOffersUptoRow.holds Tryz.pinned (OpenSpec.upto fnOffersSpec)

end Rows
end Go.Proofs.YtmfdggaijbcijaaGreat
