/-
  What rankOf of the program answers: the ranks, in memory of its own. The library's sort by its contract.
-/
import Derived.Test.YtogkbidphdpjaaaShelf
import Derived.Test.YtogkbidphdpjaaaPa
import Derived.Test.YtogkbidphdpjaaaYf
namespace Go.Proofs.Ytogkbidphdpjaaa
open Go.RowKit Go.Sort

def cmpI (x y : Int) : Int := if x < y then -1 else if y < x then 1 else 0
theorem cmpI_neg (x y : Int) : decide (cmpI x y < 0) = decide (x < y) := by
  unfold cmpI; split
  · rename_i h; simp [h]
  · rename_i h; split <;> simp <;> omega

/-- The numbers 0, 1, .. -/
def nats (l : List Nat) : List Int := l.map fun (x : Nat) => (x : Int)
theorem nats_len (l : List Nat) : (nats l).length = l.length := by simp [nats]
end Go.Proofs.Ytogkbidphdpjaaa
