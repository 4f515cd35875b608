/-
  Answers that are lists of one's own, carried through the laws of chapter 8.
-/
import Derived.Test.YtgbbhpcicgcliaaJc0
import Derived.Test.YtgbbhpcicgcliaaPn
namespace Go.Proofs.Ytgbbhpcicgcliaa
open Go.RowKit

/-- A list that a call made, from lo on and below hi. -/
def AV (w : World) (lo hi : Nat) (v : Value) (n : Nat) (xs : List Int) : Prop := w.ownsRow lo 3 1 v n (ints xs) ∧ (∀ g, v.ownBlock = some g → g < hi) ∧ hi ≤ w.heap.size
theorem AV.new {w : World} {lo n : Nat} {v : Value} {xs : List Int} (h : w.ownsRow lo 3 1 v n (ints xs)) : AV w lo w.heap.size v n xs := ⟨h, fun g hg => (h.lt g hg).2, Nat.le_refl _⟩
theorem AV.below {w w' : World} {lo hi n : Nat} {v : Value} {xs : List Int} (h : AV w lo hi v n xs) (hb : Below w.heap.size w w') : AV w' lo hi v n xs := ⟨own_below h.1 hb, h.2.1, Nat.le_trans h.2.2 hb.size⟩
theorem AV.rng {w w' : World} {lo hi n a b : Nat} {v : Value} {xs : List Int} (h : AV w lo hi v n xs) (hr : Rng a b w w') (hd : hi ≤ a ∨ b ≤ lo) : AV w' lo hi v n xs :=
  ⟨own_keep h.1 fun g hg hl => hr.2.2.2.2 g hl (by have := h.1.lt g hg; have := h.2.1 g hg; omega), h.2.1, Nat.le_trans h.2.2 hr.2.2.2.1⟩
theorem AV.grown {w w' : World} {lo hi n lo' hi' n' : Nat} {v v' : Value} {xs ys : List Int} (h : AV w lo hi v n xs) (h' : AV w lo' hi' v' n' ys) (hg : w.grownBy w' v'.ownBlock) (hd : hi ≤ lo' ∨ v.ownBlock = none ∨ v.ownBlock ≠ v'.ownBlock) : AV w' lo hi v n xs := by
  refine ⟨own_keep h.1 fun g hv hl => hg.block g hl fun e => ?_, h.2.1, Nat.le_trans h.2.2 hg.size⟩
  have h1 := h'.1.lt g e.symm
  have h2 := h.2.1 g hv
  rcases hd with hd | hd | hd
  · omega
  · rw [hd] at hv; cases hv
  · exact hd (hv.trans e)
theorem AV.under {w w' : World} {lo hi n k : Nat} {v : Value} {xs : List Int} (h : AV w lo hi v n xs) (hg : w.grownBy w' v.ownBlock) (hk : k ≤ lo) (hs : k ≤ w.heap.size) : Below k w w' := grown_under hg h.1 hk hs
/-- What is held from k on, in a list that lies from lo on and below hi. -/
def HV (w : World) (v : Value) (n : Nat) (k : Int) : Prop := HeldV w v n k
theorem HV.below {w w' : World} {v : Value} {n : Nat} {k : Int} (h : HV w v n k) (hb : Below w.heap.size w w') : HV w' v n k := HeldV.below h hb
theorem HV.grown {w w' : World} {v v' : Value} {n : Nat} {k : Int} (h : HV w v n k) (hg : w.grownBy w' v'.ownBlock) (hd : v.ownBlock = none ∨ v.ownBlock ≠ v'.ownBlock) : HV w' v n k := by
  rcases h with h | ⟨g, cap, rfl, hl, hc⟩
  · exact Or.inl h
  · refine Or.inr ⟨g, cap, rfl, Nat.lt_of_lt_of_le hl hg.size, fun j hj => (World.cell?_of_block (w := w) (a := ⟨g, j, none⟩) (hg.block g hl fun e => ?_)).trans (hc j hj)⟩
    rcases hd with hd | hd
    · cases hd
    · exact hd e
end Go.Proofs.Ytgbbhpcicgcliaa
