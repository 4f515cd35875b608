/-
  What the model of chapter 1 answers: l1Fits, l1Both, l1Add, AddFrac, SubFrac, MulFrac, DivFrac, l1Less, LessFrac, FloorFrac, FracOf.
-/
import Derived.Test.YtegonbilomcpkaaC
import Derived.Test.YtegonbilomcpkaaBase
namespace Go.Proofs.Ytegonbilomcpkaa
open Go.RowKit

end Go.Proofs.Ytegonbilomcpkaa
