/-
  What goRound, CyclesIn and the model's l7Rings, CyclesIn answer: the rings of an order.
-/
import Derived.Test.YtljccbnkibfimaaHd
import Derived.Test.YtljccbnkibfimaaHv
import Derived.Deep.LoopGhost
namespace Go.Proofs.Ytljccbnkibfimaa
open Go.RowKit

theorem grown_step {wo wr w' : World} {S : Nat} {r : Option Nat} (h : wo.grownBy wr (some S)) (h2 : wr.grownBy w' r) (h3 : ∀ k, r = some k → wo.heap.size ≤ k ∨ k = S) : wo.grownBy w' (some S) :=
  ⟨h2.os.trans h.os, h2.tape.trans h.tape, h2.output.trans h.output, Nat.le_trans h.size h2.size, fun b hb hne => (h2.block b (Nat.lt_of_lt_of_le hb h.size) (fun e => by
    rcases h3 b e.symm with h | h
    · omega
    · exact hne (by rw [h]))).trans (h.block b hb hne)⟩
def cyB (xs : List Int) : Bool := decide (xs.length ≤ 10) && Od.ordB xs xs.length
def cyI (xs : List Int) : Int := if cyB xs then (Od.rings xs : Int) else 0
theorem cyB_yes {xs : List Int} (h : cyB xs = true) : xs.length ≤ 10 ∧ Od.ordB xs xs.length = true := by simpa [cyB] using h
end Go.Proofs.Ytljccbnkibfimaa
