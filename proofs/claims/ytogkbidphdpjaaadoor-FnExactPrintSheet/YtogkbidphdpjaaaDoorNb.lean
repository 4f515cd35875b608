/-
  What ProfileOf of the program answers where the goods or the lines are not good.
-/
import Derived.Test.YtogkbidphdpjaaaDoorNa
import Derived.Test.YtogkbidphdpjaaaDoorGq
namespace Go.Proofs.YtogkbidphdpjaaaDoor
open Go.RowKit

/-- The answer's variable, as yet with no profile. -/
def RV (w w1 : World) : Prop := w1.cell? ⟨w.heap.size, 0, none⟩ = some (.slice none 0 0) ∧ w1.cell? ⟨w.heap.size, 1, none⟩ = some (.slice none 0 0) ∧ w1.frozen? ⟨w.heap.size, 0, none⟩ = false ∧ w1.frozen? ⟨w.heap.size, 1, none⟩ = false ∧ Below w.heap.size w w1 ∧ w.heap.size < w1.heap.size
theorem RV.new (w : World) (t : TypeId) : RV w (w.alloc (.cells #[.slice none 0 0, .slice none 0 0] t)) :=
  ⟨by simp [go_sem], by simp [go_sem], by simp [go_sem], by simp [go_sem], (Below.refl _ _).alloc (Nat.le_refl _) _, by simp⟩
theorem RV.below {w w1 w2 : World} (h : RV w w1) (hb : Below w1.heap.size w1 w2) : RV w w2 := by
  obtain ⟨c0, c1, f0, f1, hB, hl⟩ := h
  obtain ⟨hc, hf⟩ := bcell hb
  exact ⟨(hc _ _ hl).trans c0, (hc _ _ hl).trans c1, (hf _ _ hl).trans f0, (hf _ _ hl).trans f1, hB.trans (hb.mono (by omega)), Nat.lt_of_lt_of_le hl hb.size⟩

end Go.Proofs.YtogkbidphdpjaaaDoor
