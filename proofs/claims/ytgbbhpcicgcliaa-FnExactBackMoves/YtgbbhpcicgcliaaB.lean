/-
  What GoodFrac and onlyGood of the program answer: whether a fraction is good.
-/
import Derived.Test.YtgbbhpcicgcliaaA
import Derived.Deep.RegionHeld3
namespace Go.Proofs.Ytgbbhpcicgcliaa
open Go.RowKit

theorem bcell {W w1 : World} (hb : Below W.heap.size W w1) : (∀ b o, b < W.heap.size → w1.cell? ⟨b, o, none⟩ = W.cell? ⟨b, o, none⟩) ∧ (∀ b o, b < W.heap.size → w1.frozen? ⟨b, o, none⟩ = W.frozen? ⟨b, o, none⟩) :=
  ⟨fun b o h => hb.cell (p := ⟨b, o, none⟩) h, fun b o h => hb.frozen (p := ⟨b, o, none⟩) h⟩

end Go.Proofs.Ytgbbhpcicgcliaa
