/-
  Families in memory (rows of pairs), and the laws' szFamilyS, toFamilyS, eqFamilyS, markFamilyS.
-/
import Derived.Test.YtlbagigghpiifaaPg
import Derived.Test.YtlbagigghpiifaaF
import Derived.OwnWalk
import Derived.Deep.RegionHeld3
namespace Go.Proofs.Ytlbagigghpiifaa
open Go.RowKit

def FRow (w : World) (a : Option Addr) (ls : List (Int × Int)) : Prop :=
  ls = [] ∨ ∃ b o, a = some ⟨b, o, none⟩ ∧ b < w.heap.size ∧ ∀ i, i < ls.length → w.cell? ⟨b, o + i * 2, none⟩ = some (.int .i64 (ls.getD i (0, 0)).1) ∧ w.cell? ⟨b, o + i * 2 + 1, none⟩ = some (.int .i64 (ls.getD i (0, 0)).2)
theorem FRow.below {w w' : World} {a : Option Addr} {ls : List (Int × Int)} (h : FRow w a ls) (hb : Below w.heap.size w w') : FRow w' a ls := by
  rcases h with h | ⟨b, o, rfl, hl, hc⟩
  · exact Or.inl h
  · exact Or.inr ⟨b, o, rfl, Nat.lt_of_lt_of_le hl hb.size, fun i hi => ⟨(hb.cell (p := ⟨b, o + i * 2, none⟩) hl).trans (hc i hi).1, (hb.cell (p := ⟨b, o + i * 2 + 1, none⟩) hl).trans (hc i hi).2⟩⟩
theorem FRow.at {w : World} {a : Option Addr} {ls : List (Int × Int)} (h : FRow w a ls) {i : Nat} (hi : i < ls.length) : ∃ b o, a = some ⟨b, o, none⟩ ∧ b < w.heap.size ∧ w.cell? ⟨b, o + i * 2, none⟩ = some (.int .i64 (ls.getD i (0, 0)).1) ∧ w.cell? ⟨b, o + i * 2 + 1, none⟩ = some (.int .i64 (ls.getD i (0, 0)).2) := by
  rcases h with rfl | ⟨b, o, rfl, hl, hc⟩
  · exact absurd hi (Nat.not_lt_zero _)
  · exact ⟨b, o, rfl, hl, (hc i hi).1, (hc i hi).2⟩

/-- Cells of a block that are there, and can be written. -/
def LooseF (w : World) (B m : Nat) : Prop := ∀ j, j < m → (w.cell? ⟨B, j, none⟩).isSome = true ∧ w.frozen? ⟨B, j, none⟩ = false
theorem LooseF.below {w w' : World} {B m : Nat} (h : LooseF w B m) (hb : Below w.heap.size w w') : LooseF w' B m := fun j hj => by
  obtain ⟨h1, h2⟩ := h j hj
  have hl : B < w.heap.size := by
    obtain ⟨v, hv⟩ := Option.isSome_iff_exists.1 h1
    exact World.block_lt_of_cell? w _ hv
  exact ⟨by rw [hb.cell (p := ⟨B, j, none⟩) hl]; exact h1, by rw [hb.frozen (p := ⟨B, j, none⟩) hl]; exact h2⟩
theorem LooseF.set {w : World} {B m i : Nat} {v : Value} (h : LooseF w B m) : LooseF (w.setCell ⟨B, i, none⟩ v) B m := fun j hj => by
  obtain ⟨h1, h2⟩ := h j hj
  refine ⟨?_, by rw [World.frozen?_setCell]; exact h2⟩
  by_cases e : j = i
  · subst e
    obtain ⟨u, hu⟩ := Option.isSome_iff_exists.1 h1
    rw [World.cell?_setCell_same _ _ _ hu]; rfl
  · rw [World.cell?_setCell_other _ _ _ _ (fun e' => e (by injection e' with _ e2; exact e2.symm))]; exact h1
theorem LooseF.lt {w : World} {B m : Nat} (h : LooseF w B m) (hm : 0 < m) : B < w.heap.size := by
  obtain ⟨v, hv⟩ := Option.isSome_iff_exists.1 (h 0 hm).1
  exact World.block_lt_of_cell? w _ hv
theorem grownF_set {a w : World} {B o : Nat} {v : Value} (h : a.grownBy w (some B)) : a.grownBy (w.setCell ⟨B, o, none⟩ v) (some B) :=
  ⟨h.os, h.tape, h.output, by simpa using h.size, fun k hk hne => (Below.heap_setCell _ _ _ k (by intro e; exact hne (by rw [e]))).trans (h.block k hk hne)⟩
theorem grownF_of {a w w' : World} {B : Nat} (h : a.grownBy w (some B)) (hb : Below w.heap.size w w') : a.grownBy w' (some B) :=
  ⟨hb.os.trans h.os, hb.tape.trans h.tape, hb.output.trans h.output, Nat.le_trans h.size hb.size, fun k hk hne => (hb.block k (Nat.lt_of_lt_of_le hk h.size)).trans (h.block k hk hne)⟩
def FAt (w : World) (b off : Nat) (xs : List (Int × Int)) : Prop :=
  ∀ i, i < xs.length → w.cell? ⟨b, off + i * 2, none⟩ = some (.int .i64 (xs.getD i (0, 0)).1) ∧ w.cell? ⟨b, off + i * 2 + 1, none⟩ = some (.int .i64 (xs.getD i (0, 0)).2)
theorem FAt.below {w w' : World} {B b off : Nat} {xs : List (Int × Int)} (h : FAt w b off xs) (hb : Below B w w') (hlt : b < B) : FAt w' b off xs :=
  fun i hi => ⟨(hb.cell (p := ⟨b, off + i * 2, none⟩) hlt).trans (h i hi).1, (hb.cell (p := ⟨b, off + i * 2 + 1, none⟩) hlt).trans (h i hi).2⟩
theorem FAt.row {w : World} {b off : Nat} {xs : List (Int × Int)} (h : FAt w b off xs) (hb : b < w.heap.size) : FRow w (some ⟨b, off, none⟩) xs := Or.inr ⟨b, off, rfl, hb, h⟩
theorem setF1 {W : World} {b i : Nat} {x : Value} (h : (W.cell? ⟨b, i, none⟩).isSome = true) : (W.setCell ⟨b, i, none⟩ x).cell? ⟨b, i, none⟩ = some x := by
  obtain ⟨v, hv⟩ := Option.isSome_iff_exists.1 h
  exact World.cell?_setCell_same _ _ _ hv

end Go.Proofs.Ytlbagigghpiifaa
