/-
  What the model of chapter 1 answers: l1Fits, l1Both, l1Add, AddFrac, SubFrac, MulFrac, DivFrac, l1Less, LessFrac, FloorFrac, FracOf.
-/
import Derived.Test.YtlbfnlikjnopoaaC
import Derived.Test.YtlbfnlikjnopoaaD
namespace Go.Proofs.Ytlbfnlikjnopoaa
open Go.RowKit

end Go.Proofs.Ytlbfnlikjnopoaa
