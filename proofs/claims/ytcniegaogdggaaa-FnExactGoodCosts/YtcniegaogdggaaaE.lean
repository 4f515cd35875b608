/-
  What the model of chapter 1 answers: l1Fits, l1Both, l1Add, AddFrac, SubFrac, MulFrac, DivFrac, l1Less, LessFrac, FloorFrac, FracOf.
-/
import Derived.Test.YtcniegaogdggaaaC
import Derived.Test.YtcniegaogdggaaaD
namespace Go.Proofs.Ytcniegaogdggaaa
open Go.RowKit

end Go.Proofs.Ytcniegaogdggaaa
