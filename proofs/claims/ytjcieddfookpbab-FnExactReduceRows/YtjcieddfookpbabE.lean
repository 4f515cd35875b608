/-
  What the model of chapter 1 answers: l1Fits, l1Both, l1Add, AddFrac, SubFrac, MulFrac, DivFrac, l1Less, LessFrac, FloorFrac, FracOf.
-/
import Derived.Test.YtjcieddfookpbabC
import Derived.Test.YtjcieddfookpbabD
namespace Go.Proofs.Ytjcieddfookpbab
open Go.RowKit

end Go.Proofs.Ytjcieddfookpbab
