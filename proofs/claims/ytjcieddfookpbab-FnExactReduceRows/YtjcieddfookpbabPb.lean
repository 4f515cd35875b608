/-
  What GoodProfile and l3Sum of the model answer, over lists of whole numbers in memory.
-/
import Derived.Test.YtjcieddfookpbabPa
namespace Go.Proofs.Ytjcieddfookpbab
open Go.RowKit
end Go.Proofs.Ytjcieddfookpbab
