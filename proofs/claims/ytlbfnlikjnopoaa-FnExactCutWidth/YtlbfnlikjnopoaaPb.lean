/-
  What GoodProfile and l3Sum of the model answer, over lists of whole numbers in memory.
-/
import Derived.Test.YtlbfnlikjnopoaaPa
namespace Go.Proofs.Ytlbfnlikjnopoaa
open Go.RowKit
end Go.Proofs.Ytlbfnlikjnopoaa
