/-
  What RootOf and IsSquare answer, the program's and the model's.
-/
import Derived.Test.YtmhednkbpniphaaWr
namespace Go.Proofs.Ytmhednkbpniphaa
open Go.RowKit

theorem sqB_bd {n : Int} (h : Rt.sqB n = true) : 0 ≤ n ∧ n ≤ 1000000000000 := by simpa [Rt.sqB] using h
end Go.Proofs.Ytmhednkbpniphaa
