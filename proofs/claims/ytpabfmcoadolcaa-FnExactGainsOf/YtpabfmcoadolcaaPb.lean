/-
  What GoodProfile and l3Sum of the model answer, over lists of whole numbers in memory.
-/
import Derived.Test.YtpabfmcoadolcaaPa
namespace Go.Proofs.Ytpabfmcoadolcaa
open Go.RowKit
end Go.Proofs.Ytpabfmcoadolcaa
