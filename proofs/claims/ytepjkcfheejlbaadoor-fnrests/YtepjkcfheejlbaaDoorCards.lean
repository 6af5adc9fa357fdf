/-
  DERIVED. GIVEN WITH THE SEED: THE CARDS: each row of YtepjkcfheejlbaaDoorRows.lean that lists a variable, with what it lists TIED to the program's text (the seventh form; the later family's looks); each row that meets fmt, with fmt's text TOLD by the authors' own Lean function (tested against real Go, not proved from fmt's source: count such statements apart). THE CARD IS WHAT COUNTS. Prove the row's statement (the work); the ties are given (YtepjkcfheejlbaaDoorTie.lean); close each card by the builder's one call (the guide's Derived/Test/ToyasCard.lean, 'card_holds'). Laid BY PROGRAM, IN A SANDBOX (cutbox-door.mjs). By AI agents, Wed Nov 11 2026. No macro, syntax, notation, axiom, sorry.
-/
import Derived.Test.YtepjkcfheejlbaaDoorRows
import GoSem.ClaimSeven
namespace Go.Proofs.YtepjkcfheejlbaaDoor
namespace Rows

/-- THE TIED CARD OF 'laws.FnRests'. -/
def fnRestsCard : Claim7 := { stood := { row := fnRestsRow, standIns := [], harness := (true, "ca0d0994e0a3fc81d3d95a5b8a5d4a371722862a59ab18e834fbe7a1029e679e"), looks := false }, kinds := [], alts := [], laidByText := true, laidKinds := [.data], laidTests := true, laidLooks := .later }
def FnRestsCardSaid : Prop := Claim7.holds Tryd.pinned (.plain (OpenSpec.ofChange fnRestsSpec)) fnRestsCard

/-- THE SECOND FORM's CARD OF 'laws.FnRests'. -/
def fnRestsUptoCard : Claim7 := { stood := { row := fnRestsUptoRow, standIns := [], harness := (true, "ca0d0994e0a3fc81d3d95a5b8a5d4a371722862a59ab18e834fbe7a1029e679e"), looks := false }, kinds := [], alts := [], laidByText := true, laidKinds := [.data], laidTests := true, laidLooks := .later }
def FnRestsUptoCardSaid : Prop := Claim7.holds Tryd.pinned (.plain (OpenSpec.upto fnRestsSpec)) fnRestsUptoCard
end Rows
end Go.Proofs.YtepjkcfheejlbaaDoor
