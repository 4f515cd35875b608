/-
  What GoodProfile and l3Sum of the model answer, over lists of whole numbers in memory.
-/
import Derived.Test.YtphfcephinnkoaaPa
namespace Go.Proofs.Ytphfcephinnkoaa
open Go.RowKit
end Go.Proofs.Ytphfcephinnkoaa
