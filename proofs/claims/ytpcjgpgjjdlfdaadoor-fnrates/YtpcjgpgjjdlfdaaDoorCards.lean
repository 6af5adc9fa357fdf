/-
  DERIVED. GIVEN WITH THE SEED: THE CARDS: each row of YtpcjgpgjjdlfdaaDoorRows.lean that lists a variable, with what it lists TIED to the program's text (the seventh form; the later family's looks); each row that meets fmt, with fmt's text TOLD by the authors' own Lean function (tested against real Go, not proved from fmt's source: count such statements apart). THE CARD IS WHAT COUNTS. Prove the row's statement (the work); the ties are given (YtpcjgpgjjdlfdaaDoorTie.lean); close each card by the builder's one call (the guide's Derived/Test/ToyasCard.lean, 'card_holds'). Laid BY PROGRAM, IN A SANDBOX (cutbox-door.mjs). By AI agents, Wed Nov 11 2026. No macro, syntax, notation, axiom, sorry.
-/
import Derived.Test.YtpcjgpgjjdlfdaaDoorRows
import GoSem.ClaimSeven
namespace Go.Proofs.YtpcjgpgjjdlfdaaDoor
namespace Rows

/-- THE TIED CARD OF 'laws.FnRates'. -/
def fnRatesCard : Claim7 := { stood := { row := fnRatesRow, standIns := [], harness := (true, "adda09bda6308c47d33bb9582affde725eab4926ed9ec4a81c8dd7eeb3ce4e76"), looks := false }, kinds := [], alts := [], laidByText := true, laidKinds := [.data, .data, .data, .data], laidTests := true, laidLooks := .later }
def FnRatesCardSaid : Prop := Claim7.holds Tryd.pinned (.plain (OpenSpec.ofChange fnRatesSpec)) fnRatesCard

/-- THE TIED CARD OF 'laws.FnExactRateText'. -/
def fnExactRateTextCard : Claim7 := { stood := { row := fnExactRateTextRow, standIns := [], harness := (true, "adda09bda6308c47d33bb9582affde725eab4926ed9ec4a81c8dd7eeb3ce4e76"), looks := false }, kinds := [], alts := [], laidByText := true, laidKinds := [.data, .data, .data, .data], laidTests := true, laidLooks := .later }
def FnExactRateTextCardSaid : Prop := Claim7.holds Tryd.pinned (.plain (OpenSpec.ofChange fnExactRateTextSpec)) fnExactRateTextCard

/-- THE TIED CARD OF 'laws.FnExactGainText'. -/
def fnExactGainTextCard : Claim7 := { stood := { row := fnExactGainTextRow, standIns := [], harness := (true, "adda09bda6308c47d33bb9582affde725eab4926ed9ec4a81c8dd7eeb3ce4e76"), looks := false }, kinds := [], alts := [], laidByText := true, laidKinds := [.data, .data, .data, .data], laidTests := true, laidLooks := .later }
def FnExactGainTextCardSaid : Prop := Claim7.holds Tryd.pinned (.plain (OpenSpec.ofChange fnExactGainTextSpec)) fnExactGainTextCard

/-- THE SECOND FORM's CARD OF 'laws.FnRates'. -/
def fnRatesUptoCard : Claim7 := { stood := { row := fnRatesUptoRow, standIns := [], harness := (true, "adda09bda6308c47d33bb9582affde725eab4926ed9ec4a81c8dd7eeb3ce4e76"), looks := false }, kinds := [], alts := [], laidByText := true, laidKinds := [.data, .data, .data, .data], laidTests := true, laidLooks := .later }
def FnRatesUptoCardSaid : Prop := Claim7.holds Tryd.pinned (.plain (OpenSpec.upto fnRatesSpec)) fnRatesUptoCard

/-- THE SECOND FORM's CARD OF 'laws.FnExactRateText'. -/
def fnExactRateTextUptoCard : Claim7 := { stood := { row := fnExactRateTextUptoRow, standIns := [], harness := (true, "adda09bda6308c47d33bb9582affde725eab4926ed9ec4a81c8dd7eeb3ce4e76"), looks := false }, kinds := [], alts := [], laidByText := true, laidKinds := [.data, .data, .data, .data], laidTests := true, laidLooks := .later }
def FnExactRateTextUptoCardSaid : Prop := Claim7.holds Tryd.pinned (.plain (OpenSpec.upto fnExactRateTextSpec)) fnExactRateTextUptoCard

/-- THE SECOND FORM's CARD OF 'laws.FnExactGainText'. -/
def fnExactGainTextUptoCard : Claim7 := { stood := { row := fnExactGainTextUptoRow, standIns := [], harness := (true, "adda09bda6308c47d33bb9582affde725eab4926ed9ec4a81c8dd7eeb3ce4e76"), looks := false }, kinds := [], alts := [], laidByText := true, laidKinds := [.data, .data, .data, .data], laidTests := true, laidLooks := .later }
def FnExactGainTextUptoCardSaid : Prop := Claim7.holds Tryd.pinned (.plain (OpenSpec.upto fnExactGainTextSpec)) fnExactGainTextUptoCard
end Rows
end Go.Proofs.YtpcjgpgjjdlfdaaDoor
