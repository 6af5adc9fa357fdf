/-
  DERIVED. GIVEN WITH THE SEED: THE CARDS: each row of YthopodopedbooaaDoorRows.lean that lists a variable, with what it lists TIED to the program's text (the seventh form; the later family's looks); each row that meets fmt, with fmt's text TOLD by the authors' own Lean function (tested against real Go, not proved from fmt's source: count such statements apart). THE CARD IS WHAT COUNTS. Prove the row's statement (the work); the ties are given (YthopodopedbooaaDoorTie.lean); close each card by the builder's one call (the guide's Derived/Test/ToyasCard.lean, 'card_holds'). Laid BY PROGRAM, IN A SANDBOX (cutbox-door.mjs). By AI agents, Wed Nov 11 2026. No macro, syntax, notation, axiom, sorry.
-/
import Derived.Test.YthopodopedbooaaDoorRows
import GoSem.ClaimSeven
namespace Go.Proofs.YthopodopedbooaaDoor
namespace Rows

/-- THE TIED CARD OF 'laws.FnExactSpendsOf'. -/
def fnExactSpendsOfCard : Claim7 := { stood := { row := fnExactSpendsOfRow, standIns := [], harness := (true, "5f8be801f1457005293cfbad218789a3550e4943728c01ee70a960194b0d89da"), looks := false }, kinds := [], alts := [], laidByText := true, laidKinds := [.data], laidTests := true, laidLooks := .later }
def FnExactSpendsOfCardSaid : Prop := Claim7.holds Tryd.pinned (.plain (OpenSpec.ofChange fnExactSpendsOfSpec)) fnExactSpendsOfCard

/-- THE TIED CARD OF 'laws.FnExactReasonText'. -/
def fnExactReasonTextCard : Claim7 := { stood := { row := fnExactReasonTextRow, standIns := [], harness := (true, "5f8be801f1457005293cfbad218789a3550e4943728c01ee70a960194b0d89da"), looks := false }, kinds := [], alts := [], laidByText := true, laidKinds := [.data], laidTests := true, laidLooks := .later }
def FnExactReasonTextCardSaid : Prop := Claim7.holds Tryd.pinned (.plain (OpenSpec.ofChange fnExactReasonTextSpec)) fnExactReasonTextCard

/-- THE SECOND FORM's CARD OF 'laws.FnExactSpendsOf'. -/
def fnExactSpendsOfUptoCard : Claim7 := { stood := { row := fnExactSpendsOfUptoRow, standIns := [], harness := (true, "5f8be801f1457005293cfbad218789a3550e4943728c01ee70a960194b0d89da"), looks := false }, kinds := [], alts := [], laidByText := true, laidKinds := [.data], laidTests := true, laidLooks := .later }
def FnExactSpendsOfUptoCardSaid : Prop := Claim7.holds Tryd.pinned (.plain (OpenSpec.upto fnExactSpendsOfSpec)) fnExactSpendsOfUptoCard

/-- THE SECOND FORM's CARD OF 'laws.FnExactReasonText'. -/
def fnExactReasonTextUptoCard : Claim7 := { stood := { row := fnExactReasonTextUptoRow, standIns := [], harness := (true, "5f8be801f1457005293cfbad218789a3550e4943728c01ee70a960194b0d89da"), looks := false }, kinds := [], alts := [], laidByText := true, laidKinds := [.data], laidTests := true, laidLooks := .later }
def FnExactReasonTextUptoCardSaid : Prop := Claim7.holds Tryd.pinned (.plain (OpenSpec.upto fnExactReasonTextSpec)) fnExactReasonTextUptoCard
end Rows
end Go.Proofs.YthopodopedbooaaDoor
