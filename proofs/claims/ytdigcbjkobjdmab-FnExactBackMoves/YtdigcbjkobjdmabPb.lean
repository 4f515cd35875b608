/-
  What GoodProfile and l3Sum of the model answer, over lists of whole numbers in memory.
-/
import Derived.Test.YtdigcbjkobjdmabPa
namespace Go.Proofs.Ytdigcbjkobjdmab
open Go.RowKit
end Go.Proofs.Ytdigcbjkobjdmab
