/-
  What the model of chapter 1 answers: l1Fits, l1Both, l1Add, AddFrac, SubFrac, MulFrac, DivFrac, l1Less, LessFrac, FloorFrac, FracOf.
-/
import Derived.Test.YtolkhobedokciaaC
import Derived.Test.YtolkhobedokciaaD
namespace Go.Proofs.Ytolkhobedokciaa
open Go.RowKit

end Go.Proofs.Ytolkhobedokciaa
