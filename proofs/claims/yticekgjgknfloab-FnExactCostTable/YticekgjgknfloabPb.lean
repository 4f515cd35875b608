/-
  What GoodProfile and l3Sum of the model answer, over lists of whole numbers in memory.
-/
import Derived.Test.YticekgjgknfloabPa
namespace Go.Proofs.Yticekgjgknfloab
open Go.RowKit
end Go.Proofs.Yticekgjgknfloab
