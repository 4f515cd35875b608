/-
  What the model of chapter 1 answers: l1Fits, l1Both, l1Add, AddFrac, SubFrac, MulFrac, DivFrac, l1Less, LessFrac, FloorFrac, FracOf.
-/
import Derived.Test.YtgbbhpcicgcliaaC
import Derived.Test.YtgbbhpcicgcliaaD
namespace Go.Proofs.Ytgbbhpcicgcliaa
open Go.RowKit

end Go.Proofs.Ytgbbhpcicgcliaa
