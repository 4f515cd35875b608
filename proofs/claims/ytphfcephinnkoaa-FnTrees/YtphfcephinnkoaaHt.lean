/-
  Draws of chapter 7: ways of the model's cursor, and the Draw functions over uses, ways and orders.
-/
import Derived.Test.YtphfcephinnkoaaHs
namespace Go.Proofs.Ytphfcephinnkoaa
open Go.RowKit

/-- Two lists apart. -/
def Aprt (v u : Value) : Prop := ∀ b, v.ownBlock = some b → u.ownBlock ≠ some b
theorem aprt_keep {w w' : World} {base e s n : Nat} {v u : Value} {xs : List Value} (h : w.ownsRow base e s u n xs) (hg : w.grownBy w' v.ownBlock) (hne : Aprt v u) : w'.ownsRow base e s u n xs := by
  refine h.kept hg ?_
  cases hb : u.ownBlock with
  | none => exact Or.inl rfl
  | some b => exact Or.inr fun e => hne b (e.symm) hb
theorem aprt_first {w : World} {base e s n g k cap : Nat} {v u : Value} {xs : List Value} (hu : w.ownsRow base e s u n xs) (hat : v.ownBlock = some g ∨ w.heap.size ≤ g) (hne : Aprt v u) : Aprt (.slice (some ⟨g, 0, none⟩) k cap) u := by
  intro b hb hub
  have hbg : g = b := by simpa [Value.ownBlock] using hb
  subst hbg
  rcases hat with h | h
  · exact hne _ h hub
  · have := (hu.lt _ hub).2; omega
theorem aprt_symm {v u : Value} (h : Aprt v u) : Aprt u v := fun b h1 h2 => h b h2 h1
end Go.Proofs.Ytphfcephinnkoaa
