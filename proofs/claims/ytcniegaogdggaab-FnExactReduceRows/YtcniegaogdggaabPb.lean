/-
  What GoodProfile and l3Sum of the model answer, over lists of whole numbers in memory.
-/
import Derived.Test.YtcniegaogdggaabPa
namespace Go.Proofs.Ytcniegaogdggaab
open Go.RowKit
end Go.Proofs.Ytcniegaogdggaab
