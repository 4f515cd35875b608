/-
  What GoodProfile and l3Sum of the model answer, over lists of whole numbers in memory.
-/
import Derived.Test.YthhfokjplhkdnaaPa
namespace Go.Proofs.Ythhfokjplhkdnaa
open Go.RowKit
end Go.Proofs.Ythhfokjplhkdnaa
