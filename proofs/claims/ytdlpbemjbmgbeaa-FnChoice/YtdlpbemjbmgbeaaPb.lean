/-
  What GoodProfile and l3Sum of the model answer, over lists of whole numbers in memory.
-/
import Derived.Test.YtdlpbemjbmgbeaaPa
namespace Go.Proofs.Ytdlpbemjbmgbeaa
open Go.RowKit
end Go.Proofs.Ytdlpbemjbmgbeaa
