/-
  Moves, plain.
-/
import Derived.Test.YtdigcbjkobjdmaaMa10
namespace Go.Proofs.Ytdigcbjkobjdmaa.Mx

def canB (xs : List Int) (m : Int × Int) : Bool := Pf.allB [m.1, m.2] 0 ((xs.length : Int) - 1) && ((xs.getD m.1.toNat 0 != 0) && (xs.getD m.2.toNat 0 == 0))
def mv (xs : List Int) (m : Int × Int) : List Int := (xs.set m.1.toNat 0).set m.2.toNat (xs.getD m.1.toNat 0)
def run : List Int → List (Int × Int) → Option (List Int)
  | xs, [] => some xs
  | xs, m :: l => if canB xs m then run (mv xs m) l else none
theorem mv_len (xs : List Int) (m : Int × Int) : (mv xs m).length = xs.length := by simp [mv]
theorem can_in {xs : List Int} {m : Int × Int} (h : canB xs m = true) : (0 ≤ m.1 ∧ m.1 < xs.length) ∧ (0 ≤ m.2 ∧ m.2 < xs.length) ∧ xs.getD m.1.toNat 0 ≠ 0 ∧ xs.getD m.2.toNat 0 = 0 := by
  simp only [canB, Bool.and_eq_true] at h
  have h1 := Pf.inB_yes (Pf.allB_get h.1 (show 0 < [m.1, m.2].length by simp))
  have h2 := Pf.inB_yes (Pf.allB_get h.1 (show 1 < [m.1, m.2].length by simp))
  simp at h1 h2
  refine ⟨by omega, by omega, by simpa using h.2.1, by simpa using h.2.2⟩
theorem run_append : ∀ (l₁ : List (Int × Int)) (xs : List Int) (l₂ : List (Int × Int)), run xs (l₁ ++ l₂) = (run xs l₁).bind fun ys => run ys l₂
  | [], _, _ => rfl
  | m :: l, xs, l₂ => by
    simp only [List.cons_append, run]
    split
    · exact run_append l _ l₂
    · rfl
theorem run_len : ∀ (l : List (Int × Int)) {xs ys : List Int}, run xs l = some ys → ys.length = xs.length
  | [], xs, ys, h => by simp [run] at h; rw [h]
  | m :: l, xs, ys, h => by
    simp only [run] at h
    split at h
    · rw [run_len l h, mv_len]
    · cases h
theorem take_at {L : List (Int × Int)} {i : Nat} (hi : i < L.length) : L.take (i + 1) = L.take i ++ [L.getD i (0, 0)] := by
  rw [List.take_add_one, List.getD_eq_getElem?_getD, List.getElem?_eq_getElem hi]; rfl
theorem run_step {L : List (Int × Int)} {xs ys : List Int} {i : Nat} (hi : i < L.length) (h : run xs (L.take i) = some ys) : run xs (L.take (i + 1)) = if canB ys (L.getD i (0, 0)) then some (mv ys (L.getD i (0, 0))) else none := by
  rw [take_at hi, run_append, h]; rfl
theorem run_stop {L : List (Int × Int)} {xs ys : List Int} {i : Nat} (hi : i < L.length) (h : run xs (L.take i) = some ys) (hc : canB ys (L.getD i (0, 0)) = false) : run xs L = none := by
  have h1 := run_step hi h
  rw [hc] at h1
  rw [← List.take_append_drop (i + 1) L, run_append, h1]; rfl
def dmB (xs : List Int) (L : List (Int × Int)) : Bool := goodB xs && (decide (L.length ≤ 20) && (run xs L).isSome)
def dmL (xs : List Int) (L : List (Int × Int)) : List Int := if dmB xs L then (run xs L).getD [] else []
theorem dm_no {xs : List Int} {L : List (Int × Int)} (h : goodB xs = false ∨ 20 < L.length ∨ run xs L = none) : dmB xs L = false ∧ dmL xs L = [] := by
  have : dmB xs L = false := by
    unfold dmB
    rcases h with h | h | h
    · rw [h]; rfl
    · rw [show decide (L.length ≤ 20) = false by simp; omega]; simp
    · rw [h]; simp
  exact ⟨this, by unfold dmL; rw [this]; rfl⟩
theorem dm_yes {xs ys : List Int} {L : List (Int × Int)} (h : goodB xs = true) (hl : L.length ≤ 20) (hr : run xs L = some ys) : dmB xs L = true ∧ dmL xs L = ys := by
  have : dmB xs L = true := by unfold dmB; rw [h, hr]; simp [hl]
  exact ⟨this, by unfold dmL; rw [this, hr]; rfl⟩
theorem dmL_le (xs : List Int) (L : List (Int × Int)) : (dmL xs L).length ≤ 9 := by
  cases h : dmB xs L
  · unfold dmL; rw [h]; simp
  · simp only [dmB, Bool.and_eq_true] at h
    obtain ⟨ys, hy⟩ := Option.isSome_iff_exists.1 h.2.2
    rw [(dm_yes h.1 (by simpa using h.2.1) hy).2, run_len L hy]
    exact (good_len h.1).2
theorem mv_swap {xs : List Int} {f t : Nat} {z : Int} (hne : f ≠ t) : (xs.set t z).set f 0 = (xs.set f 0).set t z := List.set_comm _ _ (Ne.symm hne)
end Go.Proofs.Ytdigcbjkobjdmaa.Mx
