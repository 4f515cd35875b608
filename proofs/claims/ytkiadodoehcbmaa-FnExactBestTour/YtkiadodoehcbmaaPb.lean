/-
  What GoodProfile and l3Sum of the model answer, over lists of whole numbers in memory.
-/
import Derived.Test.YtkiadodoehcbmaaPa
namespace Go.Proofs.Ytkiadodoehcbmaa
open Go.RowKit
end Go.Proofs.Ytkiadodoehcbmaa
