/-
  What GoodProfile and l3Sum of the model answer, over lists of whole numbers in memory.
-/
import Derived.Test.YtdigcbjkobjdmaaPa
namespace Go.Proofs.Ytdigcbjkobjdmaa
open Go.RowKit
end Go.Proofs.Ytdigcbjkobjdmaa
