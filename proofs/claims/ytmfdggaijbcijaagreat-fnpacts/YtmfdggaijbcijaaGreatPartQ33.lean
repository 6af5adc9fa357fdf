/- Texts of mine put together (a claim holds at most 60 files): NumWalks. -/
import Derived.Test.YtmfdggaijbcijaaGreatRows
import Derived.WalkKit
import Derived.ProofKit
import Derived.OpenShut
import Derived.ShutString
import Derived.WalkLawsBesides
import Derived.Test.YtmfdggaijbcijaaGreatPartQ32

/- NumWalks -/
/- Contracts of the functions of chapter 1 (numbers) and of their models: each returns what the plain functions of Nums say, and lays one new block. No condition. -/
section
namespace Go.Proofs.YtmfdggaijbcijaaGreat
open Go.ChangeShapes Go.WideShapes Go.ChangeAt Go.RowKit
set_option linter.unusedVariables false

end Go.Proofs.YtmfdggaijbcijaaGreat
end
