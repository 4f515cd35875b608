/-
  What GoodProfile and l3Sum of the model answer, over lists of whole numbers in memory.
-/
import Derived.Test.YticekgjgknfloaaPa
namespace Go.Proofs.Yticekgjgknfloaa
open Go.RowKit
end Go.Proofs.Yticekgjgknfloaa
