/-
  Plain facts, of no program: rows of ten.
-/
import Derived.Test.YtcniegaogdggaaaKc
namespace Go.Proofs.Ytcniegaogdggaaa.Hu

theorem set_get9 (xs : List Int) (k i : Nat) (x : Int) (h : i < xs.length) : (xs.set k x).getD i 0 = if i = k then x else xs.getD i 0 := by
  by_cases e : i = k
  · subst e; simp [h]
  · simp [e, List.getElem?_set_ne (Ne.symm e)]
/-- A row of ten with what a list holds at its front. -/
def pad (xs : List Int) : List Int := tab 10 fun i => xs.getD i 0
theorem pad_len (xs : List Int) : (pad xs).length = 10 := tab_len _ _
theorem pad_get (xs : List Int) {i : Nat} (h : i < 10) : (pad xs).getD i 0 = xs.getD i 0 := tab_get _ h
theorem pad_eq {xs : List Int} (h : xs.length ≤ 10) : xs ++ List.replicate (10 - xs.length) 0 = pad xs := by
  apply List.ext_getElem
  · simp [pad, tab]; omega
  · intro i h1 h2
    simp [pad, tab] at h2
    by_cases hi : i < xs.length
    · simp [pad, tab, hi]
    · simp [pad, tab, List.getElem_append, hi]
/-- Of a load and each bin both prices. -/
def bothAt (us vs : List Int) (i : Nat) (b : Nat) : Int := if b < vs.length then vs.getD b 0 + us.getD i 0 else 0
def bothR (us vs : List Int) (i : Nat) : List Int := tab 10 (bothAt us vs i)
theorem bothR_len (us vs : List Int) (i : Nat) : (bothR us vs i).length = 10 := tab_len _ _
theorem bothR_get (us vs : List Int) (i : Nat) {b : Nat} (h : b < 10) : (bothR us vs i).getD b 0 = bothAt us vs i b := tab_get _ h
def minR (xs ys : List Int) : List Int := tab 10 fun b => min (xs.getD b 0) (ys.getD b 0)
theorem minR_len (xs ys : List Int) : (minR xs ys).length = 10 := tab_len _ _
theorem minR_get (xs ys : List Int) {b : Nat} (h : b < 10) : (minR xs ys).getD b 0 = min (xs.getD b 0) (ys.getD b 0) := tab_get _ h
theorem ext10 {xs ys : List Int} (hx : xs.length = 10) (hy : ys.length = 10) (h : ∀ i, i < 10 → xs.getD i 0 = ys.getD i 0) : xs = ys := by
  apply List.ext_getElem (by omega)
  intro i h1 h2
  have := h i (by omega)
  simpa [h1, h2] using this
/-- Whether a load's prices hold. -/
def rowHold (c : List (List Int)) (us vs : List Int) (i : Nat) : Bool := (List.range c.length).all fun b => fitsAt c us vs i b
theorem holdB_rows {c : List (List Int)} {us vs : List Int} : holdB c us vs = (List.range c.length).all (rowHold c us vs) := rfl
theorem row_same {c : List (List Int)} {us vs : List Int} (h : bothB c us vs = true) {i : Nat} (hi : i < c.length) :
    ((List.range 10).all fun b => (minR (bothR us vs i) (pad (c.getD i []))).getD b 0 == (bothR us vs i).getD b 0) = rowHold c us vs i := by
  obtain ⟨h1, h2, h3⟩ := bothB_yes h
  have h4 := prB_yes h2
  have hl := costB_len h1
  rw [Bool.eq_iff_iff]
  simp only [rowHold, List.all_eq_true, List.mem_range, beq_iff_eq, fitsAt, decide_eq_true_eq]
  constructor
  · intro hh b hb
    have := hh b (by omega)
    rw [minR_get _ _ (by omega), bothR_get _ _ _ (by omega), pad_get _ (by omega), bothAt, if_pos (by omega)] at this
    show _ ≤ (c.getD i []).getD b 0
    omega
  · intro hh b hb
    rw [minR_get _ _ (by omega), bothR_get _ _ _ (by omega), pad_get _ (by omega), bothAt]
    by_cases hb' : b < vs.length
    · rw [if_pos hb']
      have := hh b (by omega)
      rw [ct] at this
      omega
    · rw [if_neg hb']
      have : (c.getD i []).getD b 0 = 0 := by
        have := (costB_row h1 hi).1
        rw [List.getD_eq_getElem?_getD, List.getElem?_eq_none (by omega)]; rfl
      rw [this]; rfl
end Go.Proofs.Ytcniegaogdggaaa.Hu
