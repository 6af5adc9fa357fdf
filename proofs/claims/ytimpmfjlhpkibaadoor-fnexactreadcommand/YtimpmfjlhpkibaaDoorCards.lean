/-
  DERIVED. GIVEN WITH THE SEED: THE CARDS: each row of YtimpmfjlhpkibaaDoorRows.lean that lists a variable, with what it lists TIED to the program's text (the seventh form; the later family's looks); each row that meets fmt, with fmt's text TOLD by the authors' own Lean function (tested against real Go, not proved from fmt's source: count such statements apart). THE CARD IS WHAT COUNTS. Prove the row's statement (the work); the ties are given (YtimpmfjlhpkibaaDoorTie.lean); close each card by the builder's one call (the guide's Derived/Test/ToyasCard.lean, 'card_holds'). Laid BY PROGRAM, IN A SANDBOX (cutbox-door.mjs). By AI agents, Wed Nov 11 2026. No macro, syntax, notation, axiom, sorry.
-/
import Derived.Test.YtimpmfjlhpkibaaDoorRows
import GoSem.ClaimSeven
namespace Go.Proofs.YtimpmfjlhpkibaaDoor
namespace Rows

/-- THE TIED CARD OF 'laws.FnCommands'. -/
def fnCommandsCard : Claim7 := { stood := { row := fnCommandsRow, standIns := [], harness := (true, "d507b86464534e4dbbd8d30a0add34d671d99b557c9db1a91d333fe53853c917"), looks := false }, kinds := [], alts := [], laidByText := true, laidKinds := [.data, .data, .data, .data, .data], laidTests := true, laidLooks := .later }
def FnCommandsCardSaid : Prop := Claim7.holds Tryd.pinned (.plain (OpenSpec.ofChange fnCommandsSpec)) fnCommandsCard

/-- THE TIED CARD OF 'laws.FnExactCommandFault'. -/
def fnExactCommandFaultCard : Claim7 := { stood := { row := fnExactCommandFaultRow, standIns := [], harness := (true, "d507b86464534e4dbbd8d30a0add34d671d99b557c9db1a91d333fe53853c917"), looks := false }, kinds := [], alts := [], laidByText := true, laidKinds := [.data], laidTests := true, laidLooks := .later }
def FnExactCommandFaultCardSaid : Prop := Claim7.holds Tryd.pinned (.plain (OpenSpec.ofChange fnExactCommandFaultSpec)) fnExactCommandFaultCard

/-- THE TIED CARD OF 'laws.FnExactPackCommand'. -/
def fnExactPackCommandCard : Claim7 := { stood := { row := fnExactPackCommandRow, standIns := [], harness := (true, "d507b86464534e4dbbd8d30a0add34d671d99b557c9db1a91d333fe53853c917"), looks := false }, kinds := [], alts := [], laidByText := true, laidKinds := [.data], laidTests := true, laidLooks := .later }
def FnExactPackCommandCardSaid : Prop := Claim7.holds Tryd.pinned (.plain (OpenSpec.ofChange fnExactPackCommandSpec)) fnExactPackCommandCard

/-- THE TIED CARD OF 'laws.FnExactReadCommand'. -/
def fnExactReadCommandCard : Claim7 := { stood := { row := fnExactReadCommandRow, standIns := [], harness := (true, "d507b86464534e4dbbd8d30a0add34d671d99b557c9db1a91d333fe53853c917"), looks := false }, kinds := [], alts := [], laidByText := true, laidKinds := [.data], laidTests := true, laidLooks := .later }
def FnExactReadCommandCardSaid : Prop := Claim7.holds Tryd.pinned (.plain (OpenSpec.ofChange fnExactReadCommandSpec)) fnExactReadCommandCard

/-- THE TIED CARD OF 'laws.FnExactParamsOf'. -/
def fnExactParamsOfCard : Claim7 := { stood := { row := fnExactParamsOfRow, standIns := [], harness := (true, "d507b86464534e4dbbd8d30a0add34d671d99b557c9db1a91d333fe53853c917"), looks := false }, kinds := [], alts := [], laidByText := true, laidKinds := [.data], laidTests := true, laidLooks := .later }
def FnExactParamsOfCardSaid : Prop := Claim7.holds Tryd.pinned (.plain (OpenSpec.ofChange fnExactParamsOfSpec)) fnExactParamsOfCard

/-- THE TIED CARD OF 'laws.FnExactCommandText'. -/
def fnExactCommandTextCard : Claim7 := { stood := { row := fnExactCommandTextRow, standIns := [], harness := (true, "d507b86464534e4dbbd8d30a0add34d671d99b557c9db1a91d333fe53853c917"), looks := false }, kinds := [], alts := [], laidByText := true, laidKinds := [.data, .data, .data, .data, .data], laidTests := true, laidLooks := .later }
def FnExactCommandTextCardSaid : Prop := Claim7.holds Tryd.pinned (.plain (OpenSpec.ofChange fnExactCommandTextSpec)) fnExactCommandTextCard

/-- THE SECOND FORM's CARD OF 'laws.FnCommands'. -/
def fnCommandsUptoCard : Claim7 := { stood := { row := fnCommandsUptoRow, standIns := [], harness := (true, "d507b86464534e4dbbd8d30a0add34d671d99b557c9db1a91d333fe53853c917"), looks := false }, kinds := [], alts := [], laidByText := true, laidKinds := [.data, .data, .data, .data, .data], laidTests := true, laidLooks := .later }
def FnCommandsUptoCardSaid : Prop := Claim7.holds Tryd.pinned (.plain (OpenSpec.upto fnCommandsSpec)) fnCommandsUptoCard

/-- THE SECOND FORM's CARD OF 'laws.FnExactCommandFault'. -/
def fnExactCommandFaultUptoCard : Claim7 := { stood := { row := fnExactCommandFaultUptoRow, standIns := [], harness := (true, "d507b86464534e4dbbd8d30a0add34d671d99b557c9db1a91d333fe53853c917"), looks := false }, kinds := [], alts := [], laidByText := true, laidKinds := [.data], laidTests := true, laidLooks := .later }
def FnExactCommandFaultUptoCardSaid : Prop := Claim7.holds Tryd.pinned (.plain (OpenSpec.upto fnExactCommandFaultSpec)) fnExactCommandFaultUptoCard

/-- THE SECOND FORM's CARD OF 'laws.FnExactPackCommand'. -/
def fnExactPackCommandUptoCard : Claim7 := { stood := { row := fnExactPackCommandUptoRow, standIns := [], harness := (true, "d507b86464534e4dbbd8d30a0add34d671d99b557c9db1a91d333fe53853c917"), looks := false }, kinds := [], alts := [], laidByText := true, laidKinds := [.data], laidTests := true, laidLooks := .later }
def FnExactPackCommandUptoCardSaid : Prop := Claim7.holds Tryd.pinned (.plain (OpenSpec.upto fnExactPackCommandSpec)) fnExactPackCommandUptoCard

/-- THE SECOND FORM's CARD OF 'laws.FnExactReadCommand'. -/
def fnExactReadCommandUptoCard : Claim7 := { stood := { row := fnExactReadCommandUptoRow, standIns := [], harness := (true, "d507b86464534e4dbbd8d30a0add34d671d99b557c9db1a91d333fe53853c917"), looks := false }, kinds := [], alts := [], laidByText := true, laidKinds := [.data], laidTests := true, laidLooks := .later }
def FnExactReadCommandUptoCardSaid : Prop := Claim7.holds Tryd.pinned (.plain (OpenSpec.upto fnExactReadCommandSpec)) fnExactReadCommandUptoCard

/-- THE SECOND FORM's CARD OF 'laws.FnExactParamsOf'. -/
def fnExactParamsOfUptoCard : Claim7 := { stood := { row := fnExactParamsOfUptoRow, standIns := [], harness := (true, "d507b86464534e4dbbd8d30a0add34d671d99b557c9db1a91d333fe53853c917"), looks := false }, kinds := [], alts := [], laidByText := true, laidKinds := [.data], laidTests := true, laidLooks := .later }
def FnExactParamsOfUptoCardSaid : Prop := Claim7.holds Tryd.pinned (.plain (OpenSpec.upto fnExactParamsOfSpec)) fnExactParamsOfUptoCard

/-- THE SECOND FORM's CARD OF 'laws.FnExactCommandText'. -/
def fnExactCommandTextUptoCard : Claim7 := { stood := { row := fnExactCommandTextUptoRow, standIns := [], harness := (true, "d507b86464534e4dbbd8d30a0add34d671d99b557c9db1a91d333fe53853c917"), looks := false }, kinds := [], alts := [], laidByText := true, laidKinds := [.data, .data, .data, .data, .data], laidTests := true, laidLooks := .later }
def FnExactCommandTextUptoCardSaid : Prop := Claim7.holds Tryd.pinned (.plain (OpenSpec.upto fnExactCommandTextSpec)) fnExactCommandTextUptoCard
end Rows
end Go.Proofs.YtimpmfjlhpkibaaDoor
