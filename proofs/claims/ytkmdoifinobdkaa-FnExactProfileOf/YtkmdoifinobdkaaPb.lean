/-
  What GoodProfile and l3Sum of the model answer, over lists of whole numbers in memory.
-/
import Derived.Test.YtkmdoifinobdkaaPa
namespace Go.Proofs.Ytkmdoifinobdkaa
open Go.RowKit
end Go.Proofs.Ytkmdoifinobdkaa
