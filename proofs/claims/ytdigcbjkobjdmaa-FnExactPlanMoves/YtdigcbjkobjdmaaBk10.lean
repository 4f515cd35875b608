/-
  What BackMoves answers, the program's and the model's.
-/
import Derived.Test.YtdigcbjkobjdmaaMm10
import Derived.Test.YtdigcbjkobjdmaaHv
import Derived.Deep.AppendLies
namespace Go.Proofs.Ytdigcbjkobjdmaa
open Go.RowKit

def swp (m : Int × Int) : Int × Int := (m.2, m.1)
def backL (L : List (Int × Int)) : List (Int × Int) := L.reverse.map swp
def okM (m : Int × Int) : Bool := Pf.inB m.1 0 8 && Pf.inB m.2 0 8
def bkB (L : List (Int × Int)) : Bool := L.all okM && decide (L.length ≤ 20)
def bkL (L : List (Int × Int)) : List (Int × Int) := if bkB L then backL L else []
theorem backL_len (L : List (Int × Int)) : (backL L).length = L.length := by simp [backL]
theorem bkL_le (L : List (Int × Int)) : (bkL L).length ≤ 20 := by
  unfold bkL; split
  · rename_i h; simp only [bkB, Bool.and_eq_true, decide_eq_true_eq] at h; rw [backL_len]; exact h.2
  · simp
theorem backL_get {L : List (Int × Int)} {i : Nat} (hi : i < L.length) : (backL L).getD (L.length - 1 - i) (0, 0) = swp (L.getD i (0, 0)) := by
  have h1 : L.length - 1 - i < L.reverse.length := by simp; omega
  have : (backL L).getD (L.length - 1 - i) (0, 0) = swp (L.reverse[L.length - 1 - i]) := by
    rw [List.getD_eq_getElem?_getD, backL, List.getElem?_map, List.getElem?_eq_getElem h1]; rfl
  rw [this, List.getElem_reverse]
  simp only [List.getD_eq_getElem?_getD, List.getElem?_eq_getElem hi, Option.getD_some]
  congr 2
  omega
theorem all_to {L : List (Int × Int)} {n : Nat} (hn : L.length = n) (h : ∀ i, i < n → okM (L.getD i (0, 0)) = true) : L.all okM = true := by
  rw [List.all_eq_true]
  intro m hm
  obtain ⟨i, hi, rfl⟩ := List.getElem_of_mem hm
  have := h i (by omega)
  rwa [List.getD_eq_getElem?_getD, List.getElem?_eq_getElem hi] at this
theorem all_not {L : List (Int × Int)} {i : Nat} (hi : i < L.length) (h : okM (L.getD i (0, 0)) = false) : L.all okM = false := by
  cases e : L.all okM
  · rfl
  · rw [List.all_eq_true] at e
    have := e (L.getD i (0, 0)) (by rw [List.getD_eq_getElem?_getD, List.getElem?_eq_getElem hi]; exact List.getElem_mem hi)
    rw [h] at this; cases this
theorem arow_two (w : World) (x y : Int) (t : TypeId) : ARow (w.alloc (.cells #[.int .i64 x, .int .i64 y] t)) (some ⟨w.heap.size, 0, none⟩) [x, y] := by
  refine Or.inr ⟨w.heap.size, 0, rfl, by simp, fun i hi => ?_⟩
  have : i = 0 ∨ i = 1 := by simp at hi; omega
  rcases this with rfl | rfl <;> simp
theorem okM_all (m : Int × Int) : Pf.allB [m.1, m.2] 0 8 = okM m := by simp [Pf.allB, okM]
/-- What lies in the list that is filled from its end. -/
def BkS (w : World) (B n : Nat) (L : List (Int × Int)) (i : Nat) : Prop := LooseF w B (n * 2) ∧ ∀ j, j < i → w.cell? ⟨B, (n - 1 - j) * 2, none⟩ = some (.int .i64 (L.getD j (0, 0)).2) ∧ w.cell? ⟨B, (n - 1 - j) * 2 + 1, none⟩ = some (.int .i64 (L.getD j (0, 0)).1)
theorem BkS.below {w w' : World} {B n i : Nat} {L : List (Int × Int)} (h : BkS w B n L i) (hB : B < w.heap.size) (hb : Below w.heap.size w w') : BkS w' B n L i :=
  ⟨h.1.below hb, fun j hj => ⟨(hb.cell (p := ⟨B, _, none⟩) hB).trans (h.2 j hj).1, (hb.cell (p := ⟨B, _, none⟩) hB).trans (h.2 j hj).2⟩⟩
theorem BkS.step {w : World} {B n i : Nat} {L : List (Int × Int)} (h : BkS w B n L i) (hi : i < n) : BkS ((w.setCell ⟨B, (n - 1 - i) * 2, none⟩ (.int .i64 (L.getD i (0, 0)).2)).setCell ⟨B, (n - 1 - i) * 2 + 1, none⟩ (.int .i64 (L.getD i (0, 0)).1)) B n L (i + 1) := by
  refine ⟨h.1.set.set, fun j hj => ?_⟩
  have q0 := (h.1 ((n - 1 - i) * 2) (by omega)).1
  have q1 := (h.1.set (i := (n - 1 - i) * 2) (v := .int .i64 (L.getD i (0, 0)).2) ((n - 1 - i) * 2 + 1) (by omega)).1
  have ne : ∀ {W : World} {a b : Nat} {v : Value}, a ≠ b → (W.setCell ⟨B, a, none⟩ v).cell? ⟨B, b, none⟩ = W.cell? ⟨B, b, none⟩ := fun hne => World.cell?_setCell_other _ _ _ _ (fun e' => hne (by injection e'))
  by_cases e : j = i
  · subst e
    exact ⟨(ne (by omega)).trans (setF1 q0), setF1 q1⟩
  · obtain ⟨h1, h2⟩ := h.2 j (by omega)
    exact ⟨(ne (by omega)).trans ((ne (by omega)).trans h1), (ne (by omega)).trans ((ne (by omega)).trans h2)⟩
theorem BkS.full {w : World} {B n : Nat} {L : List (Int × Int)} (h : BkS w B n L n) (hl : L.length = n) : FAt w B 0 (backL L) := fun i hi => by
  rw [backL_len, hl] at hi
  have hg := backL_get (L := L) (i := n - 1 - i) (by omega)
  rw [hl, show n - 1 - (n - 1 - i) = i by omega] at hg
  obtain ⟨h1, h2⟩ := h.2 (n - 1 - i) (by omega)
  rw [show n - 1 - (n - 1 - i) = i by omega] at h1 h2
  rw [hg, Nat.zero_add]
  exact ⟨h1, h2⟩
theorem mo_nil (w : World) (lo : Nat) : MO w lo w.heap.size (.slice none 0 0) 0 [] := ⟨Nat.le_refl _, rfl, Or.inl ⟨rfl, none, 0, rfl⟩⟩
end Go.Proofs.Ytdigcbjkobjdmaa
