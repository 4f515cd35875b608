/-
  What the model's tests and sums of chapter 7 answer: l7Ways, l1Has, l7Order, l7Cost.
-/
import Derived.Test.YtlbagigghpiifaaHb
import Derived.Test.YtlbagigghpiifaaPb
namespace Go.Proofs.Ytlbagigghpiifaa
open Go.RowKit

theorem ARow.take {w : World} {a : Option Addr} {xs : List Int} (h : ARow w a xs) (k : Nat) : ARow w a (xs.take k) := by
  rcases h with h | ⟨b, off, ha, hb, hc⟩
  · exact Or.inl (by rw [h]; simp)
  · refine Or.inr ⟨b, off, ha, hb, fun i hi => ?_⟩
    rw [List.length_take] at hi
    rw [hc i (by omega)]
    simp [show i < k by omega]
end Go.Proofs.Ytlbagigghpiifaa
