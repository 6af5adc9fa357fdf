/- The walk of the law FnBoards, at a slice of bytes that came in. No condition. -/
import Derived.Test.YtibkdkjcncfmgaaLawBoards
namespace Go.Proofs.Ytibkdkjcncfmgaa
open Go.ChangeShapes Go.WideShapes Go.ChangeAt Go.RowKit
theorem walk_fnBoards (a0 : Option Addr) (len0 cap0 : Nat) (z0 : List Int) (w : World) (w0 : IsRow .u8 w a0 len0 cap0 z0) :
    Calls Try.prog 3 #[.slice a0 len0 cap0] w fun e w' => e = .returned (.bool true) ∧ Below w.heap.size w w' := boards_walk a0 len0 cap0 w (Bytes.of_row w0)
end Go.Proofs.Ytibkdkjcncfmgaa
