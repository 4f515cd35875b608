/-
  What the model of chapter 1 answers: l1Fits, l1Both, l1Add, AddFrac, SubFrac, MulFrac, DivFrac, l1Less, LessFrac, FloorFrac, FracOf.
-/
import Derived.Test.YtnhdddclnjgeiaaC
import Derived.Test.YtnhdddclnjgeiaaD
namespace Go.Proofs.Ytnhdddclnjgeiaa
open Go.RowKit

end Go.Proofs.Ytnhdddclnjgeiaa
