/-
  What GoodProfile and l3Sum of the model answer, over lists of whole numbers in memory.
-/
import Derived.Test.YtogkbidphdpjaaaPa
namespace Go.Proofs.Ytogkbidphdpjaaa
open Go.RowKit
end Go.Proofs.Ytogkbidphdpjaaa
