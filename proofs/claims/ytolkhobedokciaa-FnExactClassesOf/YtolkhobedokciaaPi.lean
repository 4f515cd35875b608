/-
  What IndexOf answers, the program's and the model's.
-/
import Derived.Test.YtolkhobedokciaaPb
import Derived.Test.YtolkhobedokciaaI
namespace Go.Proofs.Ytolkhobedokciaa
open Go.RowKit

/-- Whether a good has an index. -/
def idxB (ps fs : List Int) (g : Int) : Bool := Pf.goodP ps fs && (Pf.inB g 0 ((ps.length : Int) - 1) && !(ps.getD g.toNat 0 == 0))

/-- What stays while the answer is made: the profile's two fields, two numbers of its lists. -/
theorem kI_call {w w1 w2 : World} {ba bb oa ob : Nat} {v0 v1 v2 v3 : Value} (ha : ba < w.heap.size) (hb : bb < w.heap.size)
    (s : w1.cell? ⟨w.heap.size, 0, none⟩ = some v0 ∧ w1.cell? ⟨w.heap.size, 1, none⟩ = some v1 ∧ w1.cell? ⟨ba, oa, none⟩ = some v2 ∧ w1.cell? ⟨bb, ob, none⟩ = some v3 ∧ Below w.heap.size w w1 ∧ w.heap.size + 1 < w1.heap.size) (h : Below w1.heap.size w1 w2) :
    w2.cell? ⟨w.heap.size, 0, none⟩ = some v0 ∧ w2.cell? ⟨w.heap.size, 1, none⟩ = some v1 ∧ w2.cell? ⟨ba, oa, none⟩ = some v2 ∧ w2.cell? ⟨bb, ob, none⟩ = some v3 ∧ Below w.heap.size w w2 ∧ w.heap.size + 1 < w2.heap.size := by
  obtain ⟨s0, s1, s2, s3, s4, s5⟩ := s
  obtain ⟨hc, _⟩ := bcell h
  exact ⟨(hc _ _ (by omega)).trans s0, (hc _ _ (by omega)).trans s1, (hc _ _ (by omega)).trans s2, (hc _ _ (by omega)).trans s3, s4.trans (h.mono (by omega)), Nat.lt_of_lt_of_le s5 h.size⟩
theorem kI_set {w w1 : World} {ba bb oa ob i : Nat} {v v0 v1 v2 v3 : Value} (ha : ba < w.heap.size) (hb : bb < w.heap.size)
    (s : w1.cell? ⟨w.heap.size, 0, none⟩ = some v0 ∧ w1.cell? ⟨w.heap.size, 1, none⟩ = some v1 ∧ w1.cell? ⟨ba, oa, none⟩ = some v2 ∧ w1.cell? ⟨bb, ob, none⟩ = some v3 ∧ Below w.heap.size w w1 ∧ w.heap.size + 1 < w1.heap.size) :
    (w1.setCell ⟨w.heap.size + 1, i, none⟩ v).cell? ⟨w.heap.size, 0, none⟩ = some v0 ∧ (w1.setCell ⟨w.heap.size + 1, i, none⟩ v).cell? ⟨w.heap.size, 1, none⟩ = some v1 ∧ (w1.setCell ⟨w.heap.size + 1, i, none⟩ v).cell? ⟨ba, oa, none⟩ = some v2 ∧ (w1.setCell ⟨w.heap.size + 1, i, none⟩ v).cell? ⟨bb, ob, none⟩ = some v3 ∧ Below w.heap.size w (w1.setCell ⟨w.heap.size + 1, i, none⟩ v) ∧ w.heap.size + 1 < (w1.setCell ⟨w.heap.size + 1, i, none⟩ v).heap.size := by
  obtain ⟨s0, s1, s2, s3, s4, s5⟩ := s
  have hc : ∀ x o, x ≠ w.heap.size + 1 → (w1.setCell ⟨w.heap.size + 1, i, none⟩ v).cell? ⟨x, o, none⟩ = w1.cell? ⟨x, o, none⟩ := fun x o h => World.cell?_setCell_other _ _ _ _ (fun e => h (by injection e with e1; exact e1.symm))
  exact ⟨(hc _ _ (by omega)).trans s0, (hc _ _ (by omega)).trans s1, (hc _ _ (by omega)).trans s2, (hc _ _ (by omega)).trans s3, s4.setCell (by show w.heap.size ≤ w.heap.size + 1; omega) v, by simpa using s5⟩

/-- The variables of a call: the profile, and the answer. -/
def PV (w w1 : World) (v0 v1 : Value) : Prop :=
  w1.cell? ⟨w.heap.size, 0, none⟩ = some v0 ∧ w1.cell? ⟨w.heap.size, 1, none⟩ = some v1 ∧ w1.cell? ⟨w.heap.size + 1, 0, none⟩ = some (.int .i64 0) ∧ w1.cell? ⟨w.heap.size + 1, 1, none⟩ = some (.int .i64 0) ∧
  (w1.frozen? ⟨w.heap.size + 1, 0, none⟩ = false ∧ w1.frozen? ⟨w.heap.size + 1, 1, none⟩ = false) ∧ Below w.heap.size w w1 ∧ w.heap.size + 1 < w1.heap.size
theorem PV.below {w w1 w2 : World} {v0 v1 : Value} (h : PV w w1 v0 v1) (hb : Below w1.heap.size w1 w2) : PV w w2 v0 v1 := by
  obtain ⟨s0, s1, s2, s3, ⟨f0, f1⟩, s4, s5⟩ := h
  obtain ⟨hc, hf⟩ := bcell hb
  exact ⟨(hc _ _ (by omega)).trans s0, (hc _ _ (by omega)).trans s1, (hc _ _ (by omega)).trans s2, (hc _ _ (by omega)).trans s3, ⟨(hf _ _ (by omega)).trans f0, (hf _ _ (by omega)).trans f1⟩, s4.trans (hb.mono (by omega)), Nat.lt_of_lt_of_le s5 hb.size⟩
theorem PV.new (w : World) (v0 v1 : Value) (t t' : TypeId) : PV w ((w.alloc (.cells #[v0, v1] t)).alloc (.cells #[.int .i64 0, .int .i64 0] t')) v0 v1 :=
  ⟨by simp [go_sem], by simp [go_sem], by simp [go_sem], by simp [go_sem], ⟨by simp [go_sem], by simp [go_sem]⟩, ((Below.refl _ _).alloc (Nat.le_refl _) _).alloc (by simp) _, by simp⟩

theorem pv_res {w w1 w2 : World} {v0 v1 : Value} (h : PV w w1 v0 v1) (hb : Below w1.heap.size w1.drew w2) :
    w2.cell? ⟨w.heap.size + 1, 0, none⟩ = some (.int .i64 0) ∧ w2.cell? ⟨w.heap.size + 1, 1, none⟩ = some (.int .i64 0) ∧ w2.frozen? ⟨w.heap.size + 1, 0, none⟩ = false ∧ w2.frozen? ⟨w.heap.size + 1, 1, none⟩ = false := by
  obtain ⟨s0, s1, s2, s3, ⟨f0, f1⟩, s4, s5⟩ := h
  obtain ⟨hc, hf⟩ := bcell (W := w1.drew) hb
  exact ⟨(hc _ _ s5).trans s2, (hc _ _ s5).trans s3, (hf _ _ s5).trans f0, (hf _ _ s5).trans f1⟩

end Go.Proofs.Ytolkhobedokciaa
