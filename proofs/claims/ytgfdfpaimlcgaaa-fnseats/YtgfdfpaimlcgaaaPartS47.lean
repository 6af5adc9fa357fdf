/- Texts of mine put together (a claim holds at most 60 files): LawSeatsRow. -/
import Derived.Test.YtgfdfpaimlcgaaaPartS46

/- LawSeatsRow -/
/- The walk of the law FnSeats, at a slice of bytes that came in. No condition. -/
section
namespace Go.Proofs.Ytgfdfpaimlcgaaa
open Go.ChangeShapes Go.WideShapes Go.ChangeAt Go.RowKit
theorem walk_fnSeats (a0 : Option Addr) (len0 cap0 : Nat) (z0 : List Int) (w : World) (w0 : IsRow .u8 w a0 len0 cap0 z0) :
    Calls Try.prog 3 #[.slice a0 len0 cap0] w fun e w' => e = .returned (.bool true) ∧ Below w.heap.size w w' := seats_walk a0 len0 cap0 w (Bytes.of_row w0)
end Go.Proofs.Ytgfdfpaimlcgaaa
end
