/-
  What the small functions of the model of chapter 1 answer: l1In, l1Abs, l1Gcd, l1Make, GoodFrac, l1Fits, l1Both.
-/
import Derived.Test.YtnhdddclnjgeiabB
namespace Go.Proofs.Ytnhdddclnjgeiab
open Go.RowKit

end Go.Proofs.Ytnhdddclnjgeiab
