/- The walks of the exact laws of UnitFault and BoardFault. No condition. -/
import Derived.Test.YtibkdkjcncfmgaaExactBoard
import Derived.Test.YtibkdkjcncfmgaaBoardWalks2
import Derived.Deep.RegionWith
namespace Go.Proofs.Ytibkdkjcncfmgaa
open Go.ChangeShapes Go.WideShapes Go.ChangeAt Go.RowKit
open Bd
set_option linter.unusedVariables false

theorem bel_drew {w w' : World} (k : Below w.drew.heap.size w.drew w') : Below w.heap.size w w' := (Below.refl w.heap.size w).drew.trans k
end Go.Proofs.Ytibkdkjcncfmgaa
