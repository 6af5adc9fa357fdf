/- Texts of mine put together (a claim holds at most 60 files): LawPactsRow. -/
import Derived.Test.YtmfdggaijbcijaaGreatPartR02

/- LawPactsRow -/
/- The walk of the law FnPacts, at a slice of bytes that came in. No condition. -/
section
namespace Go.Proofs.YtmfdggaijbcijaaGreat
open Go.ChangeShapes Go.WideShapes Go.ChangeAt Go.RowKit
theorem walk_fnPacts (a0 : Option Addr) (len0 cap0 : Nat) (z0 : List Int) (w : World) (w0 : IsRow .u8 w a0 len0 cap0 z0) :
    Calls Tryz.prog 3 #[.slice a0 len0 cap0] w fun e w' => e = .returned (.bool true) ∧ Below w.heap.size w w' := pacts_walk a0 len0 cap0 w (Bytes.of_row w0)
end Go.Proofs.YtmfdggaijbcijaaGreat
end
