/-
  What FloorFrac, LessFrac, FracOf answer, the program's and the model's.
-/
import Derived.Test.YtfeegjpkkbeibatE
namespace Go.Proofs.Ytfeegjpkkbeibat
open Go.RowKit

theorem tup_ib {a b : Int} {c : Bool} (h : a = b) : Ending.returned (.tuple #[.int .i64 a, .bool c]) = .returned (.tuple #[.int .i64 b, .bool c]) := by rw [h]
end Go.Proofs.Ytfeegjpkkbeibat
