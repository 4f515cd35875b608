/-
  What the model of chapter 1 answers: l1Fits, l1Both, l1Add, AddFrac, SubFrac, MulFrac, DivFrac, l1Less, LessFrac, FloorFrac, FracOf.
-/
import Derived.Test.YtcniegaogdggaabC
import Derived.Test.YtcniegaogdggaabD
namespace Go.Proofs.Ytcniegaogdggaab
open Go.RowKit

end Go.Proofs.Ytcniegaogdggaab
