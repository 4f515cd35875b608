/-
  A trade in a block of its own.
-/
import Derived.Test.YticekgjgknfloaaAb14
import Derived.Deep.RegionHeld3
import Derived.Deep.DeepCutAuto
namespace Go.Proofs.Yticekgjgknfloaa
open Go.RowKit

def TBox (w : World) (B : Nat) (v0 v1 v2 : Value) : Prop := w.cell? ⟨B, 0, none⟩ = some v0 ∧ w.cell? ⟨B, 1, none⟩ = some v1 ∧ w.cell? ⟨B, 2, none⟩ = some v2 ∧ B < w.heap.size
theorem TBox.below {w w' : World} {B : Nat} {v0 v1 v2 : Value} (h : TBox w B v0 v1 v2) (hb : Below w.heap.size w w') : TBox w' B v0 v1 v2 :=
  ⟨(hb.cell (p := ⟨B, 0, none⟩) h.2.2.2).trans h.1, (hb.cell (p := ⟨B, 1, none⟩) h.2.2.2).trans h.2.1, (hb.cell (p := ⟨B, 2, none⟩) h.2.2.2).trans h.2.2.1, Nat.lt_of_lt_of_le h.2.2.2 hb.size⟩
theorem TBox.new (w : World) (v0 v1 v2 : Value) (t : TypeId) : TBox (w.alloc (.cells #[v0, v1, v2] t)) w.heap.size v0 v1 v2 := ⟨by simp [go_sem], by simp [go_sem], by simp [go_sem], by simp⟩
theorem TBox.grown {w w' : World} {B : Nat} {v0 v1 v2 : Value} {q : Option Nat} (h : TBox w B v0 v1 v2) (hg : w.grownBy w' q) (hq : q ≠ some B) : TBox w' B v0 v1 v2 := by
  have hk := hg.block B h.2.2.2 fun e => hq e.symm
  exact ⟨(World.cell?_of_block (a := ⟨B, 0, none⟩) hk).trans h.1, (World.cell?_of_block (a := ⟨B, 1, none⟩) hk).trans h.2.1, (World.cell?_of_block (a := ⟨B, 2, none⟩) hk).trans h.2.2.1, Nat.lt_of_lt_of_le h.2.2.2 hg.size⟩
theorem TBox.setCell {w : World} {B : Nat} {v0 v1 v2 u : Value} {p : Addr} (h : TBox w B v0 v1 v2) (hp : p.block ≠ B) : TBox (w.setCell p u) B v0 v1 v2 :=
  ⟨(World.cell?_setCell_other _ _ _ _ (by intro e; exact hp (by rw [e]))).trans h.1, (World.cell?_setCell_other _ _ _ _ (by intro e; exact hp (by rw [e]))).trans h.2.1, (World.cell?_setCell_other _ _ _ _ (by intro e; exact hp (by rw [e]))).trans h.2.2.1, by simpa using h.2.2.2⟩
theorem AV.blk {w : World} {lo hi n x : Nat} {xs : List Int} (h : AV w lo hi (.slice (some ⟨x, 0, none⟩) n n) n xs) : lo ≤ x ∧ x < hi := ⟨(h.1.lt x rfl).1, h.2.1 x rfl⟩
end Go.Proofs.Yticekgjgknfloaa
