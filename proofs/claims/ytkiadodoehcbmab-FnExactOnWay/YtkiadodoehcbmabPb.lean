/-
  What GoodProfile and l3Sum of the model answer, over lists of whole numbers in memory.
-/
import Derived.Test.YtkiadodoehcbmabPa
namespace Go.Proofs.Ytkiadodoehcbmab
open Go.RowKit
end Go.Proofs.Ytkiadodoehcbmab
