/-
  Spots in memory (rows of pairs), and the laws' szSpotS, toSpotS, eqSpotS, markSpotS.
-/
import Derived.Test.YtoalcmfpbjmapaaPg
import Derived.Test.YtoalcmfpbjmapaaF
import Derived.OwnWalk
import Derived.Deep.RegionHeld3
namespace Go.Proofs.Ytoalcmfpbjmapaa
open Go.RowKit

def FRow (w : World) (a : Option Addr) (ls : List (Int × Int)) : Prop :=
  ls = [] ∨ ∃ b o, a = some ⟨b, o, none⟩ ∧ b < w.heap.size ∧ ∀ i, i < ls.length → w.cell? ⟨b, o + i * 2, none⟩ = some (.int .i64 (ls.getD i (0, 0)).1) ∧ w.cell? ⟨b, o + i * 2 + 1, none⟩ = some (.int .i64 (ls.getD i (0, 0)).2)
theorem FRow.below {w w' : World} {a : Option Addr} {ls : List (Int × Int)} (h : FRow w a ls) (hb : Below w.heap.size w w') : FRow w' a ls := by
  rcases h with h | ⟨b, o, rfl, hl, hc⟩
  · exact Or.inl h
  · exact Or.inr ⟨b, o, rfl, Nat.lt_of_lt_of_le hl hb.size, fun i hi => ⟨(hb.cell (p := ⟨b, o + i * 2, none⟩) hl).trans (hc i hi).1, (hb.cell (p := ⟨b, o + i * 2 + 1, none⟩) hl).trans (hc i hi).2⟩⟩
theorem FRow.at {w : World} {a : Option Addr} {ls : List (Int × Int)} (h : FRow w a ls) {i : Nat} (hi : i < ls.length) : ∃ b o, a = some ⟨b, o, none⟩ ∧ b < w.heap.size ∧ w.cell? ⟨b, o + i * 2, none⟩ = some (.int .i64 (ls.getD i (0, 0)).1) ∧ w.cell? ⟨b, o + i * 2 + 1, none⟩ = some (.int .i64 (ls.getD i (0, 0)).2) := by
  rcases h with rfl | ⟨b, o, rfl, hl, hc⟩
  · exact absurd hi (Nat.not_lt_zero _)
  · exact ⟨b, o, rfl, hl, (hc i hi).1, (hc i hi).2⟩

/-- Cells of a block that are there, and can be written. -/
def LooseF (w : World) (B m : Nat) : Prop := ∀ j, j < m → (w.cell? ⟨B, j, none⟩).isSome = true ∧ w.frozen? ⟨B, j, none⟩ = false
theorem LooseF.below {w w' : World} {B m : Nat} (h : LooseF w B m) (hb : Below w.heap.size w w') : LooseF w' B m := fun j hj => by
  obtain ⟨h1, h2⟩ := h j hj
  have hl : B < w.heap.size := by
    obtain ⟨v, hv⟩ := Option.isSome_iff_exists.1 h1
    exact World.block_lt_of_cell? w _ hv
  exact ⟨by rw [hb.cell (p := ⟨B, j, none⟩) hl]; exact h1, by rw [hb.frozen (p := ⟨B, j, none⟩) hl]; exact h2⟩
theorem LooseF.set {w : World} {B m i : Nat} {v : Value} (h : LooseF w B m) : LooseF (w.setCell ⟨B, i, none⟩ v) B m := fun j hj => by
  obtain ⟨h1, h2⟩ := h j hj
  refine ⟨?_, by rw [World.frozen?_setCell]; exact h2⟩
  by_cases e : j = i
  · subst e
    obtain ⟨u, hu⟩ := Option.isSome_iff_exists.1 h1
    rw [World.cell?_setCell_same _ _ _ hu]; rfl
  · rw [World.cell?_setCell_other _ _ _ _ (fun e' => e (by injection e' with _ e2; exact e2.symm))]; exact h1
theorem LooseF.lt {w : World} {B m : Nat} (h : LooseF w B m) (hm : 0 < m) : B < w.heap.size := by
  obtain ⟨v, hv⟩ := Option.isSome_iff_exists.1 (h 0 hm).1
  exact World.block_lt_of_cell? w _ hv
theorem grownF_set {a w : World} {B o : Nat} {v : Value} (h : a.grownBy w (some B)) : a.grownBy (w.setCell ⟨B, o, none⟩ v) (some B) :=
  ⟨h.os, h.tape, h.output, by simpa using h.size, fun k hk hne => (Below.heap_setCell _ _ _ k (by intro e; exact hne (by rw [e]))).trans (h.block k hk hne)⟩
theorem grownF_of {a w w' : World} {B : Nat} (h : a.grownBy w (some B)) (hb : Below w.heap.size w w') : a.grownBy w' (some B) :=
  ⟨hb.os.trans h.os, hb.tape.trans h.tape, hb.output.trans h.output, Nat.le_trans h.size hb.size, fun k hk hne => (hb.block k (Nat.lt_of_lt_of_le hk h.size)).trans (h.block k hk hne)⟩
def FAt (w : World) (b off : Nat) (xs : List (Int × Int)) : Prop :=
  ∀ i, i < xs.length → w.cell? ⟨b, off + i * 2, none⟩ = some (.int .i64 (xs.getD i (0, 0)).1) ∧ w.cell? ⟨b, off + i * 2 + 1, none⟩ = some (.int .i64 (xs.getD i (0, 0)).2)
theorem FAt.below {w w' : World} {B b off : Nat} {xs : List (Int × Int)} (h : FAt w b off xs) (hb : Below B w w') (hlt : b < B) : FAt w' b off xs :=
  fun i hi => ⟨(hb.cell (p := ⟨b, off + i * 2, none⟩) hlt).trans (h i hi).1, (hb.cell (p := ⟨b, off + i * 2 + 1, none⟩) hlt).trans (h i hi).2⟩
theorem FAt.row {w : World} {b off : Nat} {xs : List (Int × Int)} (h : FAt w b off xs) (hb : b < w.heap.size) : FRow w (some ⟨b, off, none⟩) xs := Or.inr ⟨b, off, rfl, hb, h⟩
theorem setF1 {W : World} {b i : Nat} {x : Value} (h : (W.cell? ⟨b, i, none⟩).isSome = true) : (W.setCell ⟨b, i, none⟩ x).cell? ⟨b, i, none⟩ = some x := by
  obtain ⟨v, hv⟩ := Option.isSome_iff_exists.1 h
  exact World.cell?_setCell_same _ _ _ hv
theorem madeF_cell (w : World) (n j : Nat) (t : TypeId) (hj : j < n * 2) : (w.alloc (.cells (madeCells #[.int .i64 0, .int .i64 0] (n * 2)) t)).cell? ⟨w.heap.size, j, none⟩ = some (.int .i64 0) := by
  have h2 : j % 2 = 0 ∨ j % 2 = 1 := by omega
  have h3 : (madeCells #[.int .i64 0, .int .i64 0] (n * 2))[j]? = some (.int .i64 0) := by
    rcases h2 with h2 | h2 <;> simp [madeCells, hj, h2]
  simp only [World.cell?, (MapKept.heap_alloc w _).1]
  simpa using h3
theorem putF2 {W : World} {B i : Nat} {x y : Value} (h0 : (W.cell? ⟨B, i, none⟩).isSome = true) (h1 : (W.cell? ⟨B, i + 1, none⟩).isSome = true) :
    ((W.setCell ⟨B, i, none⟩ x).setCell ⟨B, i + 1, none⟩ y).cell? ⟨B, i, none⟩ = some x ∧ ((W.setCell ⟨B, i, none⟩ x).setCell ⟨B, i + 1, none⟩ y).cell? ⟨B, i + 1, none⟩ = some y ∧
    (∀ j, j ≠ i → j ≠ i + 1 → ((W.setCell ⟨B, i, none⟩ x).setCell ⟨B, i + 1, none⟩ y).cell? ⟨B, j, none⟩ = W.cell? ⟨B, j, none⟩) ∧ (∀ a, ((W.setCell ⟨B, i, none⟩ x).setCell ⟨B, i + 1, none⟩ y).frozen? a = W.frozen? a) := by
  refine ⟨?_, ?_, ?_, ?_⟩
  · rw [World.cell?_setCell_other _ _ _ _ (by simp)]; exact setF1 h0
  · exact setF1 (by rw [World.cell?_setCell_other _ _ _ _ (by simp)]; exact h1)
  · intro j hj hj'
    rw [World.cell?_setCell_other _ _ _ _ (fun e => hj' (by injection e with _ e2; exact e2.symm)), World.cell?_setCell_other _ _ _ _ (fun e => hj (by injection e with _ e2; exact e2.symm))]
  · intro a; rw [World.frozen?_setCell, World.frozen?_setCell]
theorem madeF_frozen (w : World) (c : Array Value) (j : Nat) (t : TypeId) : (w.alloc (.cells c t)).frozen? ⟨w.heap.size, j, none⟩ = false := by simp [go_sem]

theorem takeF_row {w : World} {b off : Nat} {xs : List (Int × Int)} {k : Nat} (h : FAt w b off (xs.take k)) (hk : k < xs.length) (x1 x2 : Int) (hx : xs.getD k (0, 0) = (x1, x2)) {w' : World}
    (hw : ∀ j, j < off + k * 2 → w'.cell? ⟨b, j, none⟩ = w.cell? ⟨b, j, none⟩) (h0 : w'.cell? ⟨b, off + k * 2, none⟩ = some (.int .i64 x1)) (h1 : w'.cell? ⟨b, off + k * 2 + 1, none⟩ = some (.int .i64 x2)) : FAt w' b off (xs.take (k + 1)) := by
  intro i hi
  simp only [List.length_take] at hi
  by_cases e : i < k
  · have hh := h i (by simp only [List.length_take]; omega)
    have eq : (xs.take (k + 1)).getD i (0, 0) = (xs.take k).getD i (0, 0) := by
      simp [e, show i < k + 1 by omega]
    rw [eq]
    exact ⟨(hw _ (by omega)).trans hh.1, (hw _ (by omega)).trans hh.2⟩
  · have e2 : i = k := by omega
    subst e2
    have eq : (xs.take (i + 1)).getD i (0, 0) = (x1, x2) := by
      rw [← hx]; simp
    rw [eq]
    exact ⟨h0, h1⟩


end Go.Proofs.Ytoalcmfpbjmapaa
