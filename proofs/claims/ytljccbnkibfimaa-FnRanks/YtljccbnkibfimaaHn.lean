/-
  What SmithCost answers, the program's and the model's.
-/
import Derived.Test.YtljccbnkibfimaaHm
namespace Go.Proofs.Ytljccbnkibfimaa
open Go.RowKit

theorem fam_step {L : List (Int × Int)} {os : List Int} {n k : Nat} (hx : L.length = n) (h : Fm.famB L = true) (ho : Od.ordB os n = true) (hk : k < n) :
    0 ≤ Fm.befTo L os k ∧ Fm.befTo L os k ≤ 100 ∧ 0 ≤ Fm.smTo L os k ∧ Fm.smTo L os k ≤ 1000000 ∧ 0 ≤ Fm.befTo L os (k + 1) ∧ Fm.befTo L os (k + 1) ≤ 100 ∧ 0 ≤ Fm.smTo L os (k + 1) ∧ Fm.smTo L os (k + 1) ≤ 1000000 ∧ 0 ≤ (L.getD (Od.nth os k) (0, 0)).1 * Fm.befTo L os (k + 1) ∧ (L.getD (Od.nth os k) (0, 0)).1 * Fm.befTo L os (k + 1) ≤ 100000 := by
  subst hx
  have h6 := Fm.famB_len h
  have a1 := Fm.bef_bd h ho k (by omega)
  have a2 := Fm.bef_bd h ho (k + 1) (by omega)
  have a3 := Fm.sm_bd h ho k (by omega)
  have a4 := Fm.sm_bd h ho (k + 1) (by omega)
  have h2 := Fm.okF_yes (Fm.famB_at h (Od.nth_lt ho hk))
  have h4 := Fm.term_bd h2.1 (show 0 ≤ Fm.befTo L os (k + 1) ∧ Fm.befTo L os (k + 1) ≤ 100 by omega)
  omega
end Go.Proofs.Ytljccbnkibfimaa
