/-
  What GoodProfile and l3Sum of the model answer, over lists of whole numbers in memory.
-/
import Derived.Test.YtdpjkblondoimaaPa
namespace Go.Proofs.Ytdpjkblondoimaa
open Go.RowKit
end Go.Proofs.Ytdpjkblondoimaa
