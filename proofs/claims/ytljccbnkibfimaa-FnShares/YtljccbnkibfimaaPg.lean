/-
  What szProfile, toProfile and eqProfile of the laws answer, over profiles in memory.
-/
import Derived.Test.YtljccbnkibfimaaPb
import Derived.Test.YtljccbnkibfimaaYf
namespace Go.Proofs.Ytljccbnkibfimaa
open Go.RowKit

theorem owns_keep {w w' : World} {base e s n c g : Nat} {xs : List Value} (h : w.ownsRow base e s (.slice (some ⟨g, 0, none⟩) n c) n xs) (hb : w'.heap[g]? = w.heap[g]?) : w'.ownsRow base e s (.slice (some ⟨g, 0, none⟩) n c) n xs := by
  rcases h with ⟨h0, h | ⟨g', cap, cur, h1, h2, h3, h4⟩⟩
  · cases h.1
  · cases h1; exact ⟨h0, Or.inr ⟨g, c, cur, rfl, h2, hb.trans h3, h4⟩⟩
theorem owns_low {w : World} {base base' e s n : Nat} {v : Value} {xs : List Value} (h : w.ownsRow base e s v n xs) (hb : base' ≤ base) : w.ownsRow base' e s v n xs := by
  rcases h with ⟨h0, h | ⟨g, cap, cur, h1, h2, h3⟩⟩
  · exact ⟨h0, Or.inl h⟩
  · exact ⟨h0, Or.inr ⟨g, cap, cur, h1, Nat.le_trans hb h2, h3⟩⟩
/-- A variable of two fields in a block of its own. -/
def PBox (w : World) (B : Nat) (v0 v1 : Value) : Prop := w.cell? ⟨B, 0, none⟩ = some v0 ∧ w.cell? ⟨B, 1, none⟩ = some v1 ∧ B < w.heap.size
theorem PBox.below {w w' : World} {B : Nat} {v0 v1 : Value} (h : PBox w B v0 v1) (hb : Below w.heap.size w w') : PBox w' B v0 v1 :=
  ⟨(hb.cell (p := ⟨B, 0, none⟩) h.2.2).trans h.1, (hb.cell (p := ⟨B, 1, none⟩) h.2.2).trans h.2.1, Nat.lt_of_lt_of_le h.2.2 hb.size⟩
theorem PBox.new (w : World) (v0 v1 : Value) (t : TypeId) : PBox (w.alloc (.cells #[v0, v1] t)) w.heap.size v0 v1 := ⟨by simp [go_sem], by simp [go_sem], by simp⟩
theorem PBox.drewN {w : World} {B : Nat} {v0 v1 : Value} (h : PBox w B v0 v1) (q : Nat) : PBox (w.drewN q) B v0 v1 := h
theorem grown_below' {w w' : World} {g k : Nat} (hg : w.grownBy w' (some g)) (h : k ≤ g) (hk : k ≤ w.heap.size) : Below k w w' :=
  ⟨hg.os, hg.tape, hg.output, hg.size, fun b hb => hg.block b (by omega) (by simp; omega)⟩
theorem below_new (w : World) (o : Obj) : Below w.heap.size w (w.alloc o) := (Below.refl _ _).alloc (Nat.le_refl _) o
end Go.Proofs.Ytljccbnkibfimaa
