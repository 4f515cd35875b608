/-
  Classes and shares, plain: what the law of classes asks of them.
-/
import Derived.Test.YtegonbilomcpkaaPl
import Derived.Test.YtegonbilomcpkaaRc
namespace Go.Proofs.Ytegonbilomcpkaa
open Go.RowKit

theorem cls_bd (x y : Int) : 1 ≤ cls x y ∧ cls x y ≤ 3 := by unfold cls; split <;> (try split) <;> omega
theorem cls_up {x x' y : Int} (h : x ≤ x') : cls x y ≤ cls x' y := by unfold cls; split <;> split <;> (try split) <;> (try split) <;> omega
theorem cls_at {ps : List Int} {j : Nat} (h : j < ps.length) : (clsOf ps).getD ((Rk.rank ps).getD j 0) 0 = cls (Rk.sumV ps ((Rk.rank ps).take j)) ps.sum := by
  have hl := Rk.rank_len ps
  exact (Rk.set_at (d := (0 : Int)) (fun k => cls (pickSum ps ((Rk.rank ps).take k)) ps.sum) (Rk.rank_nodup ps) (n := ps.length) (fun x hx => Rk.rank_mem hx) (clsUp ps) (clsUp_len ps 0) (fun k => rfl) ps.length (by omega)).2 j h
/-- Each class is 1, 2 or 3, and who is asked for more is of no higher class. -/
theorem cls_of {ps : List Int} (hp : ∀ i, 0 ≤ Rk.val ps i) {i k : Nat} (hi : i < ps.length) (hk : k < ps.length) :
    1 ≤ (clsOf ps).getD i 0 ∧ (clsOf ps).getD i 0 ≤ 3 ∧ (ps.getD i 0 > ps.getD k 0 → (clsOf ps).getD i 0 ≤ (clsOf ps).getD k 0) := by
  obtain ⟨j, hj, ej⟩ := Rk.rank_has hi
  obtain ⟨j', hj', ej'⟩ := Rk.rank_has hk
  have hl := Rk.rank_len ps
  rw [← ej, ← ej', cls_at (by omega), cls_at (by omega)]
  refine ⟨(cls_bd _ _).1, (cls_bd _ _).2, fun h => ?_⟩
  exact cls_up (Rk.ahead_le hp (Nat.le_of_lt (Rk.more_ahead hj hj' h)) _)
/-- The first few have no smaller share than any few: what is asked of the share's numerator and denominator. -/
theorem share_ge {ps : List Int} (m : Nat → Bool) (g : Int) (hg : g = ((List.range ps.length).filter m).length) :
    Rk.sumV ps ((List.range ps.length).filter m) ≤ shS ps g := by
  subst hg
  have := Rk.few_le ps m
  simpa [shS, pickSum, Rk.sumV] using this
end Go.Proofs.Ytegonbilomcpkaa
