/-
  DERIVED. GIVEN WITH THE SEED: THE CARDS: each row of YtepjkcfheejlbaaGreatDoorRows.lean that lists a variable, with what it lists TIED to the program's text (the seventh form; the later family's looks); each row that meets fmt, with fmt's text TOLD by the authors' own Lean function (tested against real Go, not proved from fmt's source: count such statements apart). THE CARD IS WHAT COUNTS. Prove the row's statement (the work); the ties are given (YtepjkcfheejlbaaGreatDoorTie.lean); close each card by the builder's one call (the guide's Derived/Test/ToyasCard.lean, 'card_holds'). Laid BY PROGRAM, IN A SANDBOX (cutbox-door.mjs). By AI agents, Wed Nov 11 2026. No macro, syntax, notation, axiom, sorry.
-/
import Derived.Test.YtepjkcfheejlbaaGreatDoorRows
import GoSem.ClaimSeven
namespace Go.Proofs.YtepjkcfheejlbaaGreatDoor
namespace Rows

/-- THE TIED CARD OF 'laws.FnTicks'. -/
def fnTicksCard : Claim7 := { stood := { row := fnTicksRow, standIns := [], harness := (true, "e1c9a61db387cd0f1d23b737df2f5cea0e73c5a7b02236ac50bfeb3163b25a85"), looks := false }, kinds := [], alts := [], laidByText := true, laidKinds := [.data], laidTests := true, laidLooks := .later }
def FnTicksCardSaid : Prop := Claim7.holds Tryz.pinned (.plain (OpenSpec.ofChange fnTicksSpec)) fnTicksCard

/-- THE TIED CARD OF 'laws.FnHalves'. -/
def fnHalvesCard : Claim7 := { stood := { row := fnHalvesRow, standIns := [], harness := (true, "e1c9a61db387cd0f1d23b737df2f5cea0e73c5a7b02236ac50bfeb3163b25a85"), looks := false }, kinds := [], alts := [], laidByText := true, laidKinds := [.data], laidTests := true, laidLooks := .later }
def FnHalvesCardSaid : Prop := Claim7.holds Tryz.pinned (.plain (OpenSpec.ofChange fnHalvesSpec)) fnHalvesCard

/-- THE TIED CARD OF 'laws.FnExactTickUnit'. -/
def fnExactTickUnitCard : Claim7 := { stood := { row := fnExactTickUnitRow, standIns := [], harness := (true, "e1c9a61db387cd0f1d23b737df2f5cea0e73c5a7b02236ac50bfeb3163b25a85"), looks := false }, kinds := [], alts := [], laidByText := true, laidKinds := [.data], laidTests := true, laidLooks := .later }
def FnExactTickUnitCardSaid : Prop := Claim7.holds Tryz.pinned (.plain (OpenSpec.ofChange fnExactTickUnitSpec)) fnExactTickUnitCard

/-- THE TIED CARD OF 'laws.FnExactTickBoard'. -/
def fnExactTickBoardCard : Claim7 := { stood := { row := fnExactTickBoardRow, standIns := [], harness := (true, "e1c9a61db387cd0f1d23b737df2f5cea0e73c5a7b02236ac50bfeb3163b25a85"), looks := false }, kinds := [], alts := [], laidByText := true, laidKinds := [.data], laidTests := true, laidLooks := .later }
def FnExactTickBoardCardSaid : Prop := Claim7.holds Tryz.pinned (.plain (OpenSpec.ofChange fnExactTickBoardSpec)) fnExactTickBoardCard

/-- THE TIED CARD OF 'laws.FnExactTickMany'. -/
def fnExactTickManyCard : Claim7 := { stood := { row := fnExactTickManyRow, standIns := [], harness := (true, "e1c9a61db387cd0f1d23b737df2f5cea0e73c5a7b02236ac50bfeb3163b25a85"), looks := false }, kinds := [], alts := [], laidByText := true, laidKinds := [.data], laidTests := true, laidLooks := .later }
def FnExactTickManyCardSaid : Prop := Claim7.holds Tryz.pinned (.plain (OpenSpec.ofChange fnExactTickManySpec)) fnExactTickManyCard

/-- THE SECOND FORM's CARD OF 'laws.FnTicks'. -/
def fnTicksUptoCard : Claim7 := { stood := { row := fnTicksUptoRow, standIns := [], harness := (true, "e1c9a61db387cd0f1d23b737df2f5cea0e73c5a7b02236ac50bfeb3163b25a85"), looks := false }, kinds := [], alts := [], laidByText := true, laidKinds := [.data], laidTests := true, laidLooks := .later }
def FnTicksUptoCardSaid : Prop := Claim7.holds Tryz.pinned (.plain (OpenSpec.upto fnTicksSpec)) fnTicksUptoCard

/-- THE SECOND FORM's CARD OF 'laws.FnHalves'. -/
def fnHalvesUptoCard : Claim7 := { stood := { row := fnHalvesUptoRow, standIns := [], harness := (true, "e1c9a61db387cd0f1d23b737df2f5cea0e73c5a7b02236ac50bfeb3163b25a85"), looks := false }, kinds := [], alts := [], laidByText := true, laidKinds := [.data], laidTests := true, laidLooks := .later }
def FnHalvesUptoCardSaid : Prop := Claim7.holds Tryz.pinned (.plain (OpenSpec.upto fnHalvesSpec)) fnHalvesUptoCard

/-- THE SECOND FORM's CARD OF 'laws.FnExactTickUnit'. -/
def fnExactTickUnitUptoCard : Claim7 := { stood := { row := fnExactTickUnitUptoRow, standIns := [], harness := (true, "e1c9a61db387cd0f1d23b737df2f5cea0e73c5a7b02236ac50bfeb3163b25a85"), looks := false }, kinds := [], alts := [], laidByText := true, laidKinds := [.data], laidTests := true, laidLooks := .later }
def FnExactTickUnitUptoCardSaid : Prop := Claim7.holds Tryz.pinned (.plain (OpenSpec.upto fnExactTickUnitSpec)) fnExactTickUnitUptoCard

/-- THE SECOND FORM's CARD OF 'laws.FnExactTickBoard'. -/
def fnExactTickBoardUptoCard : Claim7 := { stood := { row := fnExactTickBoardUptoRow, standIns := [], harness := (true, "e1c9a61db387cd0f1d23b737df2f5cea0e73c5a7b02236ac50bfeb3163b25a85"), looks := false }, kinds := [], alts := [], laidByText := true, laidKinds := [.data], laidTests := true, laidLooks := .later }
def FnExactTickBoardUptoCardSaid : Prop := Claim7.holds Tryz.pinned (.plain (OpenSpec.upto fnExactTickBoardSpec)) fnExactTickBoardUptoCard

/-- THE SECOND FORM's CARD OF 'laws.FnExactTickMany'. -/
def fnExactTickManyUptoCard : Claim7 := { stood := { row := fnExactTickManyUptoRow, standIns := [], harness := (true, "e1c9a61db387cd0f1d23b737df2f5cea0e73c5a7b02236ac50bfeb3163b25a85"), looks := false }, kinds := [], alts := [], laidByText := true, laidKinds := [.data], laidTests := true, laidLooks := .later }
def FnExactTickManyUptoCardSaid : Prop := Claim7.holds Tryz.pinned (.plain (OpenSpec.upto fnExactTickManySpec)) fnExactTickManyUptoCard
end Rows
end Go.Proofs.YtepjkcfheejlbaaGreatDoor
