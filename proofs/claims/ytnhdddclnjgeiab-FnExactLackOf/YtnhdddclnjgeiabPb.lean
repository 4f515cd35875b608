/-
  What GoodProfile and l3Sum of the model answer, over lists of whole numbers in memory.
-/
import Derived.Test.YtnhdddclnjgeiabPa
namespace Go.Proofs.Ytnhdddclnjgeiab
open Go.RowKit
end Go.Proofs.Ytnhdddclnjgeiab
