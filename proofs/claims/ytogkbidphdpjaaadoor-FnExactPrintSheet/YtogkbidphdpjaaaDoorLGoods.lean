/-
  At any list of goods GoodGoods answers as the model does: the law's own walk.
-/
import Derived.Test.YtogkbidphdpjaaaDoorGt
namespace Go.Proofs.YtogkbidphdpjaaaDoor
open Go.RowKit

theorem short_of {gs : List Gd} {n : Nat} (hn : gs.length = n) (h : ∀ i, i < n → (gs.getD i gd0).1.size ≤ 1048576) : Short gs := fun i => by
  by_cases hi : i < n
  · exact h i hi
  · have : gs.getD i gd0 = gd0 := by simp [show gs.length ≤ i by omega]
    rw [this]; decide

end Go.Proofs.YtogkbidphdpjaaaDoor
