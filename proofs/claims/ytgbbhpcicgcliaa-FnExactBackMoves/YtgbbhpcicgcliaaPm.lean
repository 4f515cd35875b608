/-
  What markProfile and heldProfile of the laws answer, over profiles in memory.
-/
import Derived.Test.YtgbbhpcicgcliaaPg
namespace Go.Proofs.Ytgbbhpcicgcliaa
open Go.RowKit

/-- Nothing has turned but the blocks x and y; new blocks may be there. -/
structure Off2 (w w' : World) (x y : Nat) : Prop where
  os : w'.os = w.os
  tape : w'.tape = w.tape
  output : w'.output = w.output
  size : w.heap.size ≤ w'.heap.size
  block : ∀ b, b < w.heap.size → b ≠ x → b ≠ y → w'.heap[b]? = w.heap[b]?
theorem Off2.below {w w' : World} {x y k : Nat} (h : Off2 w w' x y) (hx : k ≤ x) (hy : k ≤ y) (hk : k ≤ w.heap.size) : Below k w w' :=
  ⟨h.os, h.tape, h.output, h.size, fun b hb => h.block b (by omega) (by omega) (by omega)⟩
theorem own_near {w : World} {base n g cap : Nat} {xs : List Value} (h : w.ownsRow base 3 1 (.slice (some ⟨g, 0, none⟩) n cap) n xs) : g < w.heap.size := by
  rcases h.2 with ⟨h0, _⟩ | ⟨g', cap', cur, hv, h2, h3, _⟩
  · cases h0
  · cases hv; exact (Array.getElem?_eq_some_iff.1 h3).1

end Go.Proofs.Ytgbbhpcicgcliaa
