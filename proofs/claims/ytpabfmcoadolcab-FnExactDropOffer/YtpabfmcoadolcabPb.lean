/-
  What GoodProfile and l3Sum of the model answer, over lists of whole numbers in memory.
-/
import Derived.Test.YtpabfmcoadolcabPa
namespace Go.Proofs.Ytpabfmcoadolcab
open Go.RowKit
end Go.Proofs.Ytpabfmcoadolcab
