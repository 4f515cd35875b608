/-
  CompareRoots over rows in memory of their own: the program's and the model's answer the same.
-/
import Derived.Test.YtdmdhmcnedmnbaaYe
namespace Go.Proofs.Ytdmdhmcnedmnbaa
open Go.RowKit

def goodL (xs : List Int) : Bool := decide (1 ≤ xs.length ∧ xs.length ≤ 2) && xs.all okN
def cmpB (xs ys : List Int) : Bool := goodL xs && goodL ys
def cmpN (xs ys : List Int) : Int := if cmpB xs ys = true then Sq.two (xs.getD 0 0) (xs.getD 1 0) (ys.getD 0 0) (ys.getD 1 0) else 0

/-- A row in memory of its own, from its block's first place on. -/
def Lies (w : World) (b : Nat) (xs : List Int) : Prop := b < w.heap.size ∧ ∀ i, i < xs.length → w.cell? ⟨b, 0 + i, none⟩ = some (.int .i64 (xs.getD i 0))
theorem Lies.below {w w' : World} {b : Nat} {xs : List Int} (h : Lies w b xs) (hB : Below w.heap.size w w') : Lies w' b xs :=
  ⟨Nat.lt_of_lt_of_le h.1 hB.size, fun i hi => (hB.cell (p := ⟨b, 0 + i, none⟩) h.1).trans (h.2 i hi)⟩
theorem are_good {w : World} {b c : Nat} {xs : List Int} (h : Lies w b xs) :
    (Calls Try.prog 57 #[.slice (some ⟨b, 0, none⟩) xs.length c] w fun e w' => e = .returned (.bool (goodL xs)) ∧ w' = w) ∧ (Calls Try.prog 61 #[.slice (some ⟨b, 0, none⟩) xs.length c] w fun e w' => e = .returned (.bool (goodL xs)) ∧ w' = w) := by
  unfold goodL
  by_cases hl : 1 ≤ xs.length ∧ xs.length ≤ 2
  · have e : decide (1 ≤ xs.length ∧ xs.length ≤ 2) = true := by simpa using hl
    rw [e, Bool.true_and]
    exact ⟨are_any xs b 0 c w hl.1 hl.2 h.2, terms_any xs b 0 c w hl.1 hl.2 h.2⟩
  · have e : decide (1 ≤ xs.length ∧ xs.length ≤ 2) = false := by simpa using hl
    rw [e, Bool.false_and]
    exact ⟨are_len _ xs.length c w (by omega), terms_len _ xs.length c w (by omega)⟩
theorem pair_of {w : World} {b c : Nat} {xs : List Int} (h : Lies w b xs) (hg : goodL xs = true) : Pair w (.slice (some ⟨b, 0, none⟩) xs.length c) (xs.getD 0 0) (xs.getD 1 0) := by
  unfold goodL at hg
  simp only [Bool.and_eq_true, decide_eq_true_eq] at hg
  obtain ⟨⟨l0, l1⟩, hall⟩ := hg
  rw [List.all_eq_true] at hall
  have hx := hall (xs.getD 0 0) (by match xs, l0 with | x :: _, _ => simp)
  simp only [okN, decide_eq_true_eq] at hx
  have c0 := h.2 0 (by omega)
  by_cases h2 : xs.length = 2
  · have hy := hall (xs.getD 1 0) (by match xs, h2 with | [x, y], _ => simp)
    simp only [okN, decide_eq_true_eq] at hy
    exact ⟨⟨b, 0, c, xs.length, rfl, h.1, by simpa using c0, Or.inr ⟨h2, by simpa using h.2 1 (by omega)⟩⟩, hx.1, hx.2, hy.1, hy.2⟩
  · have h1 : xs.length = 1 := by omega
    have hy : xs.getD 1 0 = 0 := by match xs, h1 with | [x], _ => simp
    rw [hy]
    exact ⟨⟨b, 0, c, xs.length, rfl, h.1, by simpa using c0, Or.inl ⟨h1, rfl⟩⟩, hx.1, hx.2, by omega, by omega⟩

theorem cr_row {w : World} {a b c d : Nat} {xs ys : List Int} (ha : Lies w a xs) (hb : Lies w b ys) :
    (Calls Try.prog 27 #[.slice (some ⟨a, 0, none⟩) xs.length c, .slice (some ⟨b, 0, none⟩) ys.length d] w fun e w' => e = .returned (.tuple #[.int .i64 (cmpN xs ys), .bool (cmpB xs ys)]) ∧ Below w.heap.size w w') ∧
    (Calls Try.prog 28 #[.slice (some ⟨a, 0, none⟩) xs.length c, .slice (some ⟨b, 0, none⟩) ys.length d] w fun e w' => e = .returned (.tuple #[.int .i64 (cmpN xs ys), .bool (cmpB xs ys)]) ∧ Below w.heap.size w w') := by
  obtain ⟨a1, a2⟩ := are_good (c := c) ha
  obtain ⟨b1, b2⟩ := are_good (c := d) hb
  unfold cmpN cmpB
  cases hx : goodL xs
  · rw [hx] at a1 a2
    simp only [Bool.false_and, Bool.false_eq_true, if_false]
    exact ⟨(cr_n1 _ _ w (hide a1)).mono fun e w' ⟨h, hw⟩ => ⟨h, hw ▸ Below.refl _ _⟩, (scr_n1 _ _ w (hide a2)).mono fun e w' ⟨h, hw⟩ => ⟨h, hw ▸ Below.refl _ _⟩⟩
  · rw [hx] at a1 a2
    cases hy : goodL ys
    · rw [hy] at b1 b2
      simp only [Bool.true_and, Bool.false_eq_true, if_false]
      exact ⟨(cr_n2 _ _ w (hide a1) (hide b1)).mono fun e w' ⟨h, hw⟩ => ⟨h, hw ▸ Below.refl _ _⟩, (scr_n2 _ _ w (hide a2) (hide b2)).mono fun e w' ⟨h, hw⟩ => ⟨h, hw ▸ Below.refl _ _⟩⟩
    · rw [hy] at b1 b2
      simp only [Bool.true_and, if_true]
      exact ⟨cr_yes (pair_of ha hx) (pair_of hb hy) (hide a1) (hide b1), scr_yes (pair_of ha hx) (pair_of hb hy) (hide a2) (hide b2)⟩

end Go.Proofs.Ytdmdhmcnedmnbaa
