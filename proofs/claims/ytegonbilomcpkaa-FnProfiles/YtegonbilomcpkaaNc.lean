/-
  What ProfileOf of the program answers where the goods and the lines are good.
-/
import Derived.Test.YtegonbilomcpkaaNb
import Derived.Test.YtegonbilomcpkaaMp
import Derived.Deep.RegionHeld3
namespace Go.Proofs.Ytegonbilomcpkaa
open Go.RowKit Go.Maps Go.Sort

/-- The map behind the first k lines. -/
def lineF (gs : List Gd) (ls : List (Int × Int)) : Nat → Dem
  | 0 => fun _ => none
  | k + 1 => (lineF gs ls k).set (ls.getD k (0, 0)).1.toNat (((lineF gs ls k).get (ls.getD k (0, 0)).1.toNat).1 + 1, ((lineF gs ls k).get (ls.getD k (0, 0)).1.toNat).2 + (gs.getD (ls.getD k (0, 0)).1.toNat gd0).2 * (ls.getD k (0, 0)).2)
theorem line_bd {g : Nat} {gs : List Gd} {ls : List (Int × Int)} (hg : goodsB gs = true) (hn : gs.length = g) (hl : linesB g ls = true) {k : Nat} (hk : k < ls.length) :
    0 ≤ (ls.getD k (0, 0)).1 ∧ (ls.getD k (0, 0)).1 < g ∧ 1 ≤ (ls.getD k (0, 0)).2 ∧ (ls.getD k (0, 0)).2 ≤ 99 ∧ 0 ≤ (gs.getD (ls.getD k (0, 0)).1.toNat gd0).2 * (ls.getD k (0, 0)).2 ∧ (gs.getD (ls.getD k (0, 0)).1.toNat gd0).2 * (ls.getD k (0, 0)).2 ≤ 10000 := by
  have h1 := linesB_at hl hk
  simp only [lineB, Bool.and_eq_true] at h1
  obtain ⟨a0, a1⟩ := Pf.inB_yes h1.1
  obtain ⟨b0, b1⟩ := Pf.inB_yes h1.2
  have h2 := goodsB_at hg (i := (ls.getD k (0, 0)).1.toNat) (by omega)
  simp only [okG, Bool.and_eq_true] at h2
  obtain ⟨c0, c1⟩ := Pf.inB_yes h2.2.1
  refine ⟨a0, by omega, b0, b1, Int.mul_nonneg (by omega) (by omega), ?_⟩
  exact Int.le_trans (Int.mul_le_mul c1 b1 (by omega) (by omega)) (by decide)
theorem lineF_bd {g : Nat} {gs : List Gd} {ls : List (Int × Int)} (hg : goodsB gs = true) (hn : gs.length = g) (hl : linesB g ls = true) : ∀ k, k ≤ ls.length → ∀ i, 0 ≤ ((lineF gs ls k).get i).1 ∧ ((lineF gs ls k).get i).1 ≤ k ∧ 0 ≤ ((lineF gs ls k).get i).2 ∧ ((lineF gs ls k).get i).2 ≤ 10000 * (k : Int) := by
  intro k
  induction k with
  | zero => intro _ i; simp [lineF, Dem.get]
  | succ k ih =>
    intro hk i
    have b := line_bd hg hn hl (k := k) (by omega)
    have h0 := ih (by omega)
    by_cases e : i = (ls.getD k (0, 0)).1.toNat
    · have h1 := h0 i
      have e1 : (lineF gs ls (k + 1)).get i = (((lineF gs ls k).get i).1 + 1, ((lineF gs ls k).get i).2 + (gs.getD i gd0).2 * (ls.getD k (0, 0)).2) := by
        rw [e]; simp only [lineF, Dem.get, Dem.set, if_true, Option.getD_some]
      rw [e1]
      rw [← e] at b
      push_cast
      refine ⟨?_, ?_, ?_, ?_⟩ <;> omega
    · have h1 := h0 i
      have e1 : (lineF gs ls (k + 1)).get i = (lineF gs ls k).get i := by simp only [lineF, Dem.get, Dem.set, if_neg e]
      rw [e1]
      push_cast
      refine ⟨?_, ?_, ?_, ?_⟩ <;> omega
theorem mkmapN (W : World) : (Instr.makeMap 65 none).run Try.prog W = .ok (.map (some W.heap.size)) (W.alloc (.map #[] 0)) := by
  simp [Instr.makeMap, go_sem, Result.andThen]
theorem grown_drewN {w w1 : World} {M : Nat} (h : w.grownBy w1 (some M)) : w.grownBy w1.drew (some M) := ⟨h.os, h.tape, h.output, h.size, h.block⟩
end Go.Proofs.Ytegonbilomcpkaa
