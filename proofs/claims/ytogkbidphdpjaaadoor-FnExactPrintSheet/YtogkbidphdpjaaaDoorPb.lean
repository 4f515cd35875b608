/-
  What GoodProfile and l3Sum of the model answer, over lists of whole numbers in memory.
-/
import Derived.Test.YtogkbidphdpjaaaDoorPa
namespace Go.Proofs.YtogkbidphdpjaaaDoor
open Go.RowKit
end Go.Proofs.YtogkbidphdpjaaaDoor
