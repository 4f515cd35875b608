/-
  Families: which are good, what an order of them costs; areFamilies and SmithCost of the program, l7Families, l7Smith and SmithCost of the model.
-/
import Derived.Test.YtljccbnkibfimaaHc
import Derived.Test.YtljccbnkibfimaaHl
namespace Go.Proofs.Ytljccbnkibfimaa
open Go.RowKit

namespace Fm
def okF (f : Int × Int) : Bool := Pf.inB f.1 0 1000 && Pf.inB f.2 1 9
def famB (L : List (Int × Int)) : Bool := decide (L.length ≤ 6) && (List.range L.length).all fun i => okF (L.getD i (0, 0))
theorem famB_len {L : List (Int × Int)} (h : famB L = true) : L.length ≤ 6 := by simp only [famB, Bool.and_eq_true, decide_eq_true_eq] at h; exact h.1
theorem famB_at {L : List (Int × Int)} (h : famB L = true) {i : Nat} (hi : i < L.length) : okF (L.getD i (0, 0)) = true := by
  simp only [famB, Bool.and_eq_true, List.all_eq_true, List.mem_range] at h; exact h.2 i hi
theorem famB_of {L : List (Int × Int)} (h1 : L.length ≤ 6) (h : ∀ i, i < L.length → okF (L.getD i (0, 0)) = true) : famB L = true := by
  simp only [famB, Bool.and_eq_true, decide_eq_true_eq, List.all_eq_true, List.mem_range]; exact ⟨h1, h⟩
theorem famB_many {L : List (Int × Int)} (h : 6 < L.length) : famB L = false := by simp [famB, show ¬ L.length ≤ 6 by omega]
theorem famB_not {L : List (Int × Int)} {i : Nat} (hi : i < L.length) (h : okF (L.getD i (0, 0)) = false) : famB L = false := by
  cases e : famB L
  · rfl
  · rw [famB_at e hi] at h; cases h
theorem okF_yes {f : Int × Int} (h : okF f = true) : (0 ≤ f.1 ∧ f.1 ≤ 1000) ∧ 1 ≤ f.2 ∧ f.2 ≤ 9 := by
  simp only [okF, Bool.and_eq_true] at h
  exact ⟨Pf.inB_yes h.1, Pf.inB_yes h.2⟩
/-- How many stand in an order up to its first k. -/
def befTo (L : List (Int × Int)) (os : List Int) : Nat → Int
  | 0 => 0
  | k + 1 => befTo L os k + (L.getD (Od.nth os k) (0, 0)).2
def smTo (L : List (Int × Int)) (os : List Int) : Nat → Int
  | 0 => 0
  | k + 1 => smTo L os k + (L.getD (Od.nth os k) (0, 0)).1 * befTo L os (k + 1)
def smith (L : List (Int × Int)) (os : List Int) : Int := smTo L os os.length
theorem bef_bd {L : List (Int × Int)} {os : List Int} (h : famB L = true) (ho : Od.ordB os L.length = true) : ∀ k, k ≤ L.length → 0 ≤ befTo L os k ∧ befTo L os k ≤ 9 * (k : Int)
  | 0, _ => by simp [befTo]
  | k + 1, hk => by
    have h1 := bef_bd h ho k (by omega)
    have h2 := okF_yes (famB_at h (Od.nth_lt ho (show k < L.length by omega)))
    simp only [befTo]; omega
theorem term_bd {x y : Int} (hx : 0 ≤ x ∧ x ≤ 1000) (hy : 0 ≤ y ∧ y ≤ 100) : 0 ≤ x * y ∧ x * y ≤ 100000 := by
  refine ⟨Int.mul_nonneg hx.1 hy.1, ?_⟩
  exact Int.le_trans (Int.mul_le_mul_of_nonneg_right hx.2 hy.1) (Int.le_trans (Int.mul_le_mul_of_nonneg_left hy.2 (show (0 : Int) ≤ 1000 by omega)) (by omega))
theorem sm_bd {L : List (Int × Int)} {os : List Int} (h : famB L = true) (ho : Od.ordB os L.length = true) : ∀ k, k ≤ L.length → 0 ≤ smTo L os k ∧ smTo L os k ≤ 100000 * (k : Int)
  | 0, _ => by simp [smTo]
  | k + 1, hk => by
    have h1 := sm_bd h ho k (by omega)
    have h2 := okF_yes (famB_at h (Od.nth_lt ho (show k < L.length by omega)))
    have h3 := bef_bd h ho (k + 1) hk
    have h6 := famB_len h
    have h4 := term_bd h2.1 (show 0 ≤ befTo L os (k + 1) ∧ befTo L os (k + 1) ≤ 100 by omega)
    simp only [smTo]; omega
def scB (L : List (Int × Int)) (os : List Int) : Bool := famB L && Od.ordB os L.length
def scI (L : List (Int × Int)) (os : List Int) : Int := if scB L os then smith L os else 0
end Fm
theorem cell_fam {w : World} (x y : Int) (t : TypeId) : (w.alloc (.cells #[.int .i64 x, .int .i64 y] t)).cell? ⟨w.heap.size, 0, none⟩ = some (.int .i64 x) := by simp
end Go.Proofs.Ytljccbnkibfimaa
