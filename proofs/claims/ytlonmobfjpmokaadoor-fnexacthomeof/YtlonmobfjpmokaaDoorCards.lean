/-
  DERIVED. GIVEN WITH THE SEED: THE CARDS: each row of YtlonmobfjpmokaaDoorRows.lean that lists a variable, with what it lists TIED to the program's text (the seventh form; the later family's looks); each row that meets fmt, with fmt's text TOLD by the authors' own Lean function (tested against real Go, not proved from fmt's source: count such statements apart). THE CARD IS WHAT COUNTS. Prove the row's statement (the work); the ties are given (YtlonmobfjpmokaaDoorTie.lean); close each card by the builder's one call (the guide's Derived/Test/ToyasCard.lean, 'card_holds'). Laid BY PROGRAM, IN A SANDBOX (cutbox-door.mjs). By AI agents, Wed Nov 11 2026. No macro, syntax, notation, axiom, sorry.
-/
import Derived.Test.YtlonmobfjpmokaaDoorRows
import GoSem.ClaimSeven
namespace Go.Proofs.YtlonmobfjpmokaaDoor
namespace Rows

/-- THE TIED CARD OF 'laws.FnRests'. -/
def fnRestsCard : Claim7 := { stood := { row := fnRestsRow, standIns := [], harness := (true, "dfe4811260ff02b27db0bcaaf274dad19dfdb5f068e6b06ea05787b31fa785ce"), looks := false }, kinds := [], alts := [], laidByText := true, laidKinds := [.data], laidTests := true, laidLooks := .later }
def FnRestsCardSaid : Prop := Claim7.holds Tryd.pinned (.plain (OpenSpec.ofChange fnRestsSpec)) fnRestsCard

/-- THE TIED CARD OF 'laws.FnExactHomeOf'. -/
def fnExactHomeOfCard : Claim7 := { stood := { row := fnExactHomeOfRow, standIns := [], harness := (true, "dfe4811260ff02b27db0bcaaf274dad19dfdb5f068e6b06ea05787b31fa785ce"), looks := false }, kinds := [], alts := [], laidByText := true, laidKinds := [.data], laidTests := true, laidLooks := .later }
def FnExactHomeOfCardSaid : Prop := Claim7.holds Tryd.pinned (.plain (OpenSpec.ofChange fnExactHomeOfSpec)) fnExactHomeOfCard

/-- THE SECOND FORM's CARD OF 'laws.FnRests'. -/
def fnRestsUptoCard : Claim7 := { stood := { row := fnRestsUptoRow, standIns := [], harness := (true, "dfe4811260ff02b27db0bcaaf274dad19dfdb5f068e6b06ea05787b31fa785ce"), looks := false }, kinds := [], alts := [], laidByText := true, laidKinds := [.data], laidTests := true, laidLooks := .later }
def FnRestsUptoCardSaid : Prop := Claim7.holds Tryd.pinned (.plain (OpenSpec.upto fnRestsSpec)) fnRestsUptoCard

/-- THE SECOND FORM's CARD OF 'laws.FnExactHomeOf'. -/
def fnExactHomeOfUptoCard : Claim7 := { stood := { row := fnExactHomeOfUptoRow, standIns := [], harness := (true, "dfe4811260ff02b27db0bcaaf274dad19dfdb5f068e6b06ea05787b31fa785ce"), looks := false }, kinds := [], alts := [], laidByText := true, laidKinds := [.data], laidTests := true, laidLooks := .later }
def FnExactHomeOfUptoCardSaid : Prop := Claim7.holds Tryd.pinned (.plain (OpenSpec.upto fnExactHomeOfSpec)) fnExactHomeOfUptoCard
end Rows
end Go.Proofs.YtlonmobfjpmokaaDoor
