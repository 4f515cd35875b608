/-
  What GoodProfile and l3Sum of the model answer, over lists of whole numbers in memory.
-/
import Derived.Test.YtgbbhpcicgcliaaPa
namespace Go.Proofs.Ytgbbhpcicgcliaa
open Go.RowKit
end Go.Proofs.Ytgbbhpcicgcliaa
