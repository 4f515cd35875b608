/-
  What GoodProfile and l3Sum of the model answer, over lists of whole numbers in memory.
-/
import Derived.Test.YthhfokjplhkdnabPa
namespace Go.Proofs.Ythhfokjplhkdnab
open Go.RowKit
end Go.Proofs.Ythhfokjplhkdnab
