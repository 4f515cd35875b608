/-
  Spots, plain: which are good.
-/
import Derived.Test.YtdigcbjkobjdmaaPf
namespace Go.Proofs.Ytdigcbjkobjdmaa.Mx

/-- At place i a good that stood ahead. -/
def twiceAt (xs : List Int) (i : Nat) : Bool := (xs.getD i 0 != 0) && (xs.take i).contains (xs.getD i 0)
def twiceB (xs : List Int) : Bool := (List.range xs.length).any (twiceAt xs)
def goodB (xs : List Int) : Bool := (decide (2 ≤ xs.length) && decide (xs.length ≤ 9)) && (Pf.allB xs 0 20 && (xs.contains 0 && !twiceB xs))
theorem twice_yes {xs : List Int} {i : Nat} (hi : i < xs.length) (h : twiceAt xs i = true) : twiceB xs = true := by
  simp only [twiceB, List.any_eq_true, List.mem_range]; exact ⟨i, hi, h⟩
theorem twice_no {xs : List Int} (h : ∀ i, i < xs.length → twiceAt xs i = false) : twiceB xs = false := by
  cases e : twiceB xs
  · rfl
  · simp only [twiceB, List.any_eq_true, List.mem_range] at e
    obtain ⟨i, hi, h'⟩ := e
    rw [h i hi] at h'; cases h'
theorem twice_at {xs : List Int} (h : twiceB xs = false) {i : Nat} (hi : i < xs.length) : twiceAt xs i = false := by
  cases e : twiceAt xs i
  · rfl
  · rw [twice_yes hi e] at h; cases h
theorem good_len {xs : List Int} (h : goodB xs = true) : 2 ≤ xs.length ∧ xs.length ≤ 9 := by
  simp only [goodB, Bool.and_eq_true, decide_eq_true_eq] at h; exact h.1
theorem good_all {xs : List Int} (h : goodB xs = true) : Pf.allB xs 0 20 = true := by
  simp only [goodB, Bool.and_eq_true] at h; exact h.2.1
theorem good_zero {xs : List Int} (h : goodB xs = true) : xs.contains 0 = true := by
  simp only [goodB, Bool.and_eq_true] at h; exact h.2.2.1
theorem good_one {xs : List Int} (h : goodB xs = true) : twiceB xs = false := by
  simp only [goodB, Bool.and_eq_true, Bool.not_eq_true'] at h; exact h.2.2.2
theorem good_few {xs : List Int} (h : ¬ (2 ≤ xs.length ∧ xs.length ≤ 9)) : goodB xs = false := by
  cases e : goodB xs
  · rfl
  · exact absurd (good_len e) h
end Go.Proofs.Ytdigcbjkobjdmaa.Mx
