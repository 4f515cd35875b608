/-
  What GoodProfile and l3Sum of the model answer, over lists of whole numbers in memory.
-/
import Derived.Test.YtojpgojmecjdjaaPa
namespace Go.Proofs.Ytojpgojmecjdjaa
open Go.RowKit
end Go.Proofs.Ytojpgojmecjdjaa
