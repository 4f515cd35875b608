/-
  What GoodProfile and l3Sum of the model answer, over lists of whole numbers in memory.
-/
import Derived.Test.YthhahfcdnpegfaaPa
namespace Go.Proofs.Ythhahfcdnpegfaa
open Go.RowKit
end Go.Proofs.Ythhahfcdnpegfaa
