/-
  DERIVED. GIVEN WITH THE SEED: THE CARDS: each row of YtomnadmeolkagaaDoorRows.lean that lists a variable, with what it lists TIED to the program's text (the seventh form; the later family's looks); each row that meets fmt, with fmt's text TOLD by the authors' own Lean function (tested against real Go, not proved from fmt's source: count such statements apart). THE CARD IS WHAT COUNTS. Prove the row's statement (the work); the ties are given (YtomnadmeolkagaaDoorTie.lean); close each card by the builder's one call (the guide's Derived/Test/ToyasCard.lean, 'card_holds'). Laid BY PROGRAM, IN A SANDBOX (cutbox-door.mjs). By AI agents, Wed Nov 11 2026. No macro, syntax, notation, axiom, sorry.
-/
import Derived.Test.YtomnadmeolkagaaDoorRows
import GoSem.ClaimSeven
namespace Go.Proofs.YtomnadmeolkagaaDoor
namespace Rows

/-- THE TIED CARD OF 'laws.FnExactSumCommands'. -/
def fnExactSumCommandsCard : Claim7 := { stood := { row := fnExactSumCommandsRow, standIns := [], harness := (true, "56a7dce8c667f560d9e2b5b27f28dcf0d7182377080d67b1fa8eaf2209069bd5"), looks := false }, kinds := [], alts := [], laidByText := true, laidKinds := [.data], laidTests := true, laidLooks := .later }
def FnExactSumCommandsCardSaid : Prop := Claim7.holds Tryd.pinned (.plain (OpenSpec.ofChange fnExactSumCommandsSpec)) fnExactSumCommandsCard

/-- THE SECOND FORM's CARD OF 'laws.FnExactSumCommands'. -/
def fnExactSumCommandsUptoCard : Claim7 := { stood := { row := fnExactSumCommandsUptoRow, standIns := [], harness := (true, "56a7dce8c667f560d9e2b5b27f28dcf0d7182377080d67b1fa8eaf2209069bd5"), looks := false }, kinds := [], alts := [], laidByText := true, laidKinds := [.data], laidTests := true, laidLooks := .later }
def FnExactSumCommandsUptoCardSaid : Prop := Claim7.holds Tryd.pinned (.plain (OpenSpec.upto fnExactSumCommandsSpec)) fnExactSumCommandsUptoCard
end Rows
end Go.Proofs.YtomnadmeolkagaaDoor
