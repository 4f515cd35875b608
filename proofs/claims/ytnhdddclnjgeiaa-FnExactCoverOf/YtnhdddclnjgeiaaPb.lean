/-
  What GoodProfile and l3Sum of the model answer, over lists of whole numbers in memory.
-/
import Derived.Test.YtnhdddclnjgeiaaPa
namespace Go.Proofs.Ytnhdddclnjgeiaa
open Go.RowKit
end Go.Proofs.Ytnhdddclnjgeiaa
