/-
  No cell of these rows narrows 'for every input' (looked for: loops, veiled, ifaces, maps, wideKeys, modest, calm, conditions, laid).
  DERIVED. THE GIVEN ROWS OF THIS SEAT. 6 by the template 'for every input the law returns true; each argument reads behind the call as it read before'; 0 by the template 'total and deterministic' (their statements: YtpcjgpgjjdlfdaaTotals.lean).
  GIVEN WITH THE SEED: the statements are not yours to turn. If you find one false, say at which input.
  Laid BY PROGRAM, IN A SANDBOX (cutbox-rows.mjs): the forced cells as the released guide's own fill.sh prints them over the translation bbdecbd592980e8a… (all of the seat's roots in one cut). By AI agents, Wed Nov 11 2026. No macro, syntax, notation, axiom, sorry.
-/
import Derived.Test.YtpcjgpgjjdlfdaaChecked
import GoSem.Claim
import GoSem.ClaimJoined
import GoSem.ClaimMapViews
import Derived.JoinedTies
import Derived.KernelRfl
namespace Go.Proofs.Ytpcjgpgjjdlfdaa
/- THE CELL 'sum', in the pinned program and in every row, IS THE sha256 OF THE DUMP (.gsa) THAT YtpcjgpgjjdlfdaaProg.lean LOADS. Nothing in Lean hashes anything: it is a label: what it is worth is what the hold of that sum in a sandbox is worth. -/
noncomputable def Try.pinned : Pinned := { name := "ytpcjgpgjjdlfdaa", sum := "bbdecbd592980e8aeec948dc3473e8b46f4cf70e43eb74f472f4bdf2ee8af580", checked := Try.checked }
namespace Rows
def none {H : Type} : Left H := { results := [], args := [] }

/-- 'laws.FnScales': WHATEVER THE INPUT: true; the input reads as it did. -/
def fnScalesSpec : ChangeSpec := { name := "fnScales", fn := fun _ => fun
  | [d] => { results := [.lit (.bool true)], args := [d] }
  | _ => none }
def fnScalesRow : OpenClaim := { program := "ytpcjgpgjjdlfdaa", sum := "bbdecbd592980e8aeec948dc3473e8b46f4cf70e43eb74f472f4bdf2ee8af580", func := "loop.example/g00646/laws.FnScales", spec := "fnScales", inPlace := ["math.Float64frombits", "math.Float64bits", "math.archTrunc"], apart := false }
def FnScalesSaid : Prop := fnScalesRow.holds Try.pinned (OpenSpec.ofChange fnScalesSpec)

/-- ITS FALSE NEIGHBOUR: 'it returns false'. Refute it at one input. -/
def fnScalesWrong : ChangeSpec := { name := "fnScales", fn := fun _ => fun
  | [d] => { results := [.lit (.bool false)], args := [d] }
  | _ => none }
def FnScalesWrongFalsely : Prop := fnScalesRow.holds Try.pinned (OpenSpec.ofChange fnScalesWrong)

/-- 'laws.FnExactRateOf': WHATEVER THE INPUT: true; the input reads as it did. -/
def fnExactRateOfSpec : ChangeSpec := { name := "fnExactRateOf", fn := fun _ => fun
  | [d] => { results := [.lit (.bool true)], args := [d] }
  | _ => none }
def fnExactRateOfRow : OpenClaim := { program := "ytpcjgpgjjdlfdaa", sum := "bbdecbd592980e8aeec948dc3473e8b46f4cf70e43eb74f472f4bdf2ee8af580", func := "loop.example/g00646/laws.FnExactRateOf", spec := "fnExactRateOf", inPlace := ["math.Float64frombits", "math.Float64bits", "internal/bytealg.IndexByteString", "internal/bytealg.IndexString"], named := ["internal/bytealg.MaxLen"], apart := false }
def FnExactRateOfSaid : Prop := fnExactRateOfRow.holds Try.pinned (OpenSpec.ofChange fnExactRateOfSpec)

/-- ITS FALSE NEIGHBOUR: 'it returns false'. Refute it at one input. -/
def fnExactRateOfWrong : ChangeSpec := { name := "fnExactRateOf", fn := fun _ => fun
  | [d] => { results := [.lit (.bool false)], args := [d] }
  | _ => none }
def FnExactRateOfWrongFalsely : Prop := fnExactRateOfRow.holds Try.pinned (OpenSpec.ofChange fnExactRateOfWrong)

/-- 'laws.FnExactRateParts': WHATEVER THE INPUT: true; the input reads as it did. -/
def fnExactRatePartsSpec : ChangeSpec := { name := "fnExactRateParts", fn := fun _ => fun
  | [d] => { results := [.lit (.bool true)], args := [d] }
  | _ => none }
def fnExactRatePartsRow : OpenClaim := { program := "ytpcjgpgjjdlfdaa", sum := "bbdecbd592980e8aeec948dc3473e8b46f4cf70e43eb74f472f4bdf2ee8af580", func := "loop.example/g00646/laws.FnExactRateParts", spec := "fnExactRateParts", inPlace := ["math.Float64frombits", "math.Float64bits", "math.archTrunc"], apart := false }
def FnExactRatePartsSaid : Prop := fnExactRatePartsRow.holds Try.pinned (OpenSpec.ofChange fnExactRatePartsSpec)

/-- ITS FALSE NEIGHBOUR: 'it returns false'. Refute it at one input. -/
def fnExactRatePartsWrong : ChangeSpec := { name := "fnExactRateParts", fn := fun _ => fun
  | [d] => { results := [.lit (.bool false)], args := [d] }
  | _ => none }
def FnExactRatePartsWrongFalsely : Prop := fnExactRatePartsRow.holds Try.pinned (OpenSpec.ofChange fnExactRatePartsWrong)

/-- 'laws.FnExactRateBits': WHATEVER THE INPUT: true; the input reads as it did. -/
def fnExactRateBitsSpec : ChangeSpec := { name := "fnExactRateBits", fn := fun _ => fun
  | [d1, d2, d3] => { results := [.lit (.bool true)], args := [d1, d2, d3] }
  | _ => none }
def fnExactRateBitsRow : OpenClaim := { program := "ytpcjgpgjjdlfdaa", sum := "bbdecbd592980e8aeec948dc3473e8b46f4cf70e43eb74f472f4bdf2ee8af580", func := "loop.example/g00646/laws.FnExactRateBits", spec := "fnExactRateBits", inPlace := ["math.Float64bits", "math.Float64frombits"], apart := false }
def FnExactRateBitsSaid : Prop := fnExactRateBitsRow.holds Try.pinned (OpenSpec.ofChange fnExactRateBitsSpec)

/-- ITS FALSE NEIGHBOUR: 'it returns false'. Refute it at one input. -/
def fnExactRateBitsWrong : ChangeSpec := { name := "fnExactRateBits", fn := fun _ => fun
  | [d1, d2, d3] => { results := [.lit (.bool false)], args := [d1, d2, d3] }
  | _ => none }
def FnExactRateBitsWrongFalsely : Prop := fnExactRateBitsRow.holds Try.pinned (OpenSpec.ofChange fnExactRateBitsWrong)

/-- 'laws.FnExactIsGain': WHATEVER THE INPUT: true; the input reads as it did. -/
def fnExactIsGainSpec : ChangeSpec := { name := "fnExactIsGain", fn := fun _ => fun
  | [d] => { results := [.lit (.bool true)], args := [d] }
  | _ => none }
def fnExactIsGainRow : OpenClaim := { program := "ytpcjgpgjjdlfdaa", sum := "bbdecbd592980e8aeec948dc3473e8b46f4cf70e43eb74f472f4bdf2ee8af580", func := "loop.example/g00646/laws.FnExactIsGain", spec := "fnExactIsGain", inPlace := ["math.Float64frombits", "math.Float64bits", "math.archTrunc"], apart := false }
def FnExactIsGainSaid : Prop := fnExactIsGainRow.holds Try.pinned (OpenSpec.ofChange fnExactIsGainSpec)

/-- ITS FALSE NEIGHBOUR: 'it returns false'. Refute it at one input. -/
def fnExactIsGainWrong : ChangeSpec := { name := "fnExactIsGain", fn := fun _ => fun
  | [d] => { results := [.lit (.bool false)], args := [d] }
  | _ => none }
def FnExactIsGainWrongFalsely : Prop := fnExactIsGainRow.holds Try.pinned (OpenSpec.ofChange fnExactIsGainWrong)

/-- 'laws.FnExactScaleBy': WHATEVER THE INPUT: true; the input reads as it did. -/
def fnExactScaleBySpec : ChangeSpec := { name := "fnExactScaleBy", fn := fun _ => fun
  | [d1, d2] => { results := [.lit (.bool true)], args := [d1, d2] }
  | _ => none }
def fnExactScaleByRow : OpenClaim := { program := "ytpcjgpgjjdlfdaa", sum := "bbdecbd592980e8aeec948dc3473e8b46f4cf70e43eb74f472f4bdf2ee8af580", func := "loop.example/g00646/laws.FnExactScaleBy", spec := "fnExactScaleBy", inPlace := ["math.Float64frombits", "math.Float64bits", "math.archTrunc"], apart := false }
def FnExactScaleBySaid : Prop := fnExactScaleByRow.holds Try.pinned (OpenSpec.ofChange fnExactScaleBySpec)

/-- ITS FALSE NEIGHBOUR: 'it returns false'. Refute it at one input. -/
def fnExactScaleByWrong : ChangeSpec := { name := "fnExactScaleBy", fn := fun _ => fun
  | [d1, d2] => { results := [.lit (.bool false)], args := [d1, d2] }
  | _ => none }
def FnExactScaleByWrongFalsely : Prop := fnExactScaleByRow.holds Try.pinned (OpenSpec.ofChange fnExactScaleByWrong)

/- THE SECOND FORM. 'bulk': how many values and letters a reading holds, each counted each time it is reached (what is shared counts as often as it is met; a slice's spare places count too). A statement '..UptoSaid' is the law's where the arguments, and the package variables that the reading takes, are together of bulk at most 1048576: NARROWER than '..Said'. Prove '..Said' where nothing that the law and all that it calls make is longer than what came in: it says more and counts as full. Else prove '..UptoSaid'. A law counts once. -/
mutual
def uptoBulk {H : Type} : DataW H → Nat
  | .lit (.string bytes) => bytes.length + 1
  | .lit _ => 1
  | .nil => 1
  | .ptr d => uptoBulk d + 1
  | .slice elems spare => uptoBulkAll elems + uptoBulkAll spare + 1
  | .agg parts => uptoBulkAll parts + 1
  | .iface _ d => uptoBulk d + 1
  | .map entries => uptoBulkEntries entries + 1
  | .held _ => 1
def uptoBulkAll {H : Type} : List (DataW H) → Nat
  | [] => 0
  | d :: r => uptoBulk d + uptoBulkAll r
def uptoBulkEntries {H : Type} : List (Lit × DataW H) → Nat
  | [] => 0
  | x :: r => uptoBulkEntry x + uptoBulkEntries r
def uptoBulkEntry {H : Type} : Lit × DataW H → Nat
  | (.string bytes, d) => bytes.length + uptoBulk d + 1
  | (_, d) => uptoBulk d + 1
 end
def uptoSmall : (H : Type) → List (DataW H) → Bool := fun _ ds => decide (uptoBulkAll ds ≤ 1048576)
def OpenSpec.upto (s : _root_.Go.ChangeSpec) : _root_.Go.OpenSpec := { _root_.Go.OpenSpec.ofChange s with cond := some uptoSmall }

/-- 'laws.FnScales', WHERE WHAT IT READS IS OF BULK AT MOST 1048576: true; the input reads as it did. -/
def fnScalesUptoRow : OpenClaim := { program := "ytpcjgpgjjdlfdaa", sum := "bbdecbd592980e8aeec948dc3473e8b46f4cf70e43eb74f472f4bdf2ee8af580", func := "loop.example/g00646/laws.FnScales", spec := "fnScales", inPlace := ["math.Float64frombits", "math.Float64bits", "math.archTrunc"], apart := false, narrowed := true }
def FnScalesUptoSaid : Prop := fnScalesUptoRow.holds Try.pinned (OpenSpec.upto fnScalesSpec)

/-- 'laws.FnExactRateOf', WHERE WHAT IT READS IS OF BULK AT MOST 1048576: true; the input reads as it did. -/
def fnExactRateOfUptoRow : OpenClaim := { program := "ytpcjgpgjjdlfdaa", sum := "bbdecbd592980e8aeec948dc3473e8b46f4cf70e43eb74f472f4bdf2ee8af580", func := "loop.example/g00646/laws.FnExactRateOf", spec := "fnExactRateOf", inPlace := ["math.Float64frombits", "math.Float64bits", "internal/bytealg.IndexByteString", "internal/bytealg.IndexString"], named := ["internal/bytealg.MaxLen"], apart := false, narrowed := true }
def FnExactRateOfUptoSaid : Prop := fnExactRateOfUptoRow.holds Try.pinned (OpenSpec.upto fnExactRateOfSpec)

/-- 'laws.FnExactRateParts', WHERE WHAT IT READS IS OF BULK AT MOST 1048576: true; the input reads as it did. -/
def fnExactRatePartsUptoRow : OpenClaim := { program := "ytpcjgpgjjdlfdaa", sum := "bbdecbd592980e8aeec948dc3473e8b46f4cf70e43eb74f472f4bdf2ee8af580", func := "loop.example/g00646/laws.FnExactRateParts", spec := "fnExactRateParts", inPlace := ["math.Float64frombits", "math.Float64bits", "math.archTrunc"], apart := false, narrowed := true }
def FnExactRatePartsUptoSaid : Prop := fnExactRatePartsUptoRow.holds Try.pinned (OpenSpec.upto fnExactRatePartsSpec)

/-- 'laws.FnExactRateBits', WHERE WHAT IT READS IS OF BULK AT MOST 1048576: true; the input reads as it did. -/
def fnExactRateBitsUptoRow : OpenClaim := { program := "ytpcjgpgjjdlfdaa", sum := "bbdecbd592980e8aeec948dc3473e8b46f4cf70e43eb74f472f4bdf2ee8af580", func := "loop.example/g00646/laws.FnExactRateBits", spec := "fnExactRateBits", inPlace := ["math.Float64bits", "math.Float64frombits"], apart := false, narrowed := true }
def FnExactRateBitsUptoSaid : Prop := fnExactRateBitsUptoRow.holds Try.pinned (OpenSpec.upto fnExactRateBitsSpec)

/-- 'laws.FnExactIsGain', WHERE WHAT IT READS IS OF BULK AT MOST 1048576: true; the input reads as it did. -/
def fnExactIsGainUptoRow : OpenClaim := { program := "ytpcjgpgjjdlfdaa", sum := "bbdecbd592980e8aeec948dc3473e8b46f4cf70e43eb74f472f4bdf2ee8af580", func := "loop.example/g00646/laws.FnExactIsGain", spec := "fnExactIsGain", inPlace := ["math.Float64frombits", "math.Float64bits", "math.archTrunc"], apart := false, narrowed := true }
def FnExactIsGainUptoSaid : Prop := fnExactIsGainUptoRow.holds Try.pinned (OpenSpec.upto fnExactIsGainSpec)

/-- 'laws.FnExactScaleBy', WHERE WHAT IT READS IS OF BULK AT MOST 1048576: true; the input reads as it did. -/
def fnExactScaleByUptoRow : OpenClaim := { program := "ytpcjgpgjjdlfdaa", sum := "bbdecbd592980e8aeec948dc3473e8b46f4cf70e43eb74f472f4bdf2ee8af580", func := "loop.example/g00646/laws.FnExactScaleBy", spec := "fnExactScaleBy", inPlace := ["math.Float64frombits", "math.Float64bits", "math.archTrunc"], apart := false, narrowed := true }
def FnExactScaleByUptoSaid : Prop := fnExactScaleByUptoRow.holds Try.pinned (OpenSpec.upto fnExactScaleBySpec)

end Rows
end Go.Proofs.Ytpcjgpgjjdlfdaa
