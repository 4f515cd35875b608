/-
  What GoodProfile and l3Sum of the model answer, over lists of whole numbers in memory.
-/
import Derived.Test.YtfmdahpldjkifaaPa
namespace Go.Proofs.Ytfmdahpldjkifaa
open Go.RowKit
end Go.Proofs.Ytfmdahpldjkifaa
