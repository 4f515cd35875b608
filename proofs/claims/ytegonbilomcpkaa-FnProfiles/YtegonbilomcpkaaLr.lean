/-
  Plain facts that the law of classes asks for: a rank's neighbours, the chosen counted one by one.
-/
import Derived.Test.YtegonbilomcpkaaLo
namespace Go.Proofs.Ytegonbilomcpkaa
open Go.RowKit

theorem nats_at {l : List Nat} {i : Nat} (h : i < l.length) : (nats l).getD i 0 = (l.getD i 0 : Nat) := by simp [nats, h]
/-- Neighbours in a rank: the one ahead has more, or as much and came first. -/
theorem rank_next {vs : List Int} {i : Nat} (h : i + 1 < vs.length) :
    vs.getD ((Rk.rank vs).getD i 0) 0 > vs.getD ((Rk.rank vs).getD (i + 1) 0) 0 ∨ (vs.getD ((Rk.rank vs).getD i 0) 0 = vs.getD ((Rk.rank vs).getD (i + 1) 0) 0 ∧ (Rk.rank vs).getD i 0 < (Rk.rank vs).getD (i + 1) 0) := by
  have hl := Rk.rank_len vs
  have hs := List.pairwise_iff_getElem.1 (Rk.rank_stays vs) i (i + 1) (by omega) (by omega) (by omega)
  simpa [Rk.val, List.getD_eq_getElem?_getD, show i < (Rk.rank vs).length by omega, show i + 1 < (Rk.rank vs).length by omega] using hs
theorem rank_new {vs : List Int} {i j : Nat} (h : i < vs.length) (hj : j < i) : (Rk.rank vs).getD j 0 ≠ (Rk.rank vs).getD i 0 := by
  have hl := Rk.rank_len vs
  have hs := List.pairwise_iff_getElem.1 (Rk.rank_nodup vs) j i (by omega) (by omega) hj
  simpa [List.getD_eq_getElem?_getD, show i < (Rk.rank vs).length by omega, show j < (Rk.rank vs).length by omega] using hs
theorem rank_in {vs : List Int} {i : Nat} (h : i < vs.length) : (Rk.rank vs).getD i 0 < vs.length := by
  have hl := Rk.rank_len vs
  refine Rk.rank_mem (vs := vs) ?_
  rw [List.getD_eq_getElem?_getD, List.getElem?_eq_getElem (by omega)]
  exact List.getElem_mem _
/-- How many of the first k are chosen, and what is asked of them. -/
def cnt (m : Nat → Bool) (k : Nat) : Nat := ((List.range k).filter m).length
def smv (ps : List Int) (m : Nat → Bool) (k : Nat) : Int := Rk.sumV ps ((List.range k).filter m)
theorem cnt_step (m : Nat → Bool) (k : Nat) : cnt m (k + 1) = cnt m k + if m k then 1 else 0 := by
  unfold cnt
  rw [Rk.few_step, List.length_append]
  split <;> simp
theorem smv_step (ps : List Int) (m : Nat → Bool) (k : Nat) : smv ps m (k + 1) = smv ps m k + if m k then ps.getD k 0 else 0 := by
  unfold smv
  rw [Rk.few_step, Rk.sumV_app]
  split <;> simp [Rk.sumV, Rk.val]
theorem cnt_le (m : Nat → Bool) (k : Nat) : cnt m k ≤ k := by
  induction k with
  | zero => simp [cnt]
  | succ k ih => rw [cnt_step]; split <;> omega
theorem smv_bd {ps : List Int} (hp : Pf.allB ps 0 10000 = true) (m : Nat → Bool) {k : Nat} (hk : k ≤ ps.length) : 0 ≤ smv ps m k ∧ smv ps m k ≤ 10000 * k := by
  induction k with
  | zero => simp [smv, Rk.sumV]
  | succ k ih =>
    rw [smv_step]
    have := ih (by omega)
    have := Pf.inB_yes (Pf.allB_get hp (i := k) (by omega))
    split <;> omega
theorem few_share {ps : List Int} (m : Nat → Bool) : smv ps m ps.length ≤ shS ps (cnt m ps.length) := share_ge m _ rfl
theorem mul_bdS {x y : Int} (h0 : -120000 ≤ x) (h1 : x ≤ 120000) (h2 : -120000 ≤ y) (h3 : y ≤ 120000) : -14400000000 ≤ x * y ∧ x * y ≤ 14400000000 := by
  have e := Int.natAbs_mul x y
  have := Nat.mul_le_mul (show x.natAbs ≤ 120000 by omega) (show y.natAbs ≤ 120000 by omega)
  omega
/-- What the law of classes asks of the chosen and of the first as many. -/
theorem share_fin {ps fs : List Int} (hg : Pf.goodP ps fs = true) (m : Nat → Bool) :
    shB ps fs (cnt m ps.length : Nat) = true ∧ 0 ≤ ps.sum ∧ ps.sum ≤ 120000 ∧ (-14400000000 ≤ shN ps (cnt m ps.length : Nat) * ps.sum ∧ shN ps (cnt m ps.length : Nat) * ps.sum ≤ 14400000000) ∧ (-14400000000 ≤ smv ps m ps.length * shD ps (cnt m ps.length : Nat) ∧ smv ps m ps.length * shD ps (cnt m ps.length : Nat) ≤ 14400000000) ∧
    (0 < ps.sum → ¬ shN ps (cnt m ps.length : Nat) * ps.sum < smv ps m ps.length * shD ps (cnt m ps.length : Nat)) := by
  obtain ⟨hl, h12⟩ := Pf.goodP_len hg
  have hp := Pf.goodP_picks hg
  have hs := Pf.sum_bd hp
  have hc := cnt_le m ps.length
  have hv := smv_bd hp m (Nat.le_refl ps.length)
  have hq := pickSum_bd hp ((Rk.rank ps).take (cnt m ps.length))
  have hql : ((Rk.rank ps).take (cnt m ps.length)).length ≤ 12 := by simp; omega
  have hS : 0 ≤ shS ps (cnt m ps.length : Nat) ∧ shS ps (cnt m ps.length : Nat) ≤ 120000 := by
    unfold shS
    rw [Int.toNat_natCast]
    omega
  have hN : -120000 ≤ shN ps (cnt m ps.length : Nat) ∧ shN ps (cnt m ps.length : Nat) ≤ 120000 := by
    unfold shN
    split
    · omega
    · have := Fr.mkN_abs (shS ps (cnt m ps.length : Nat)) ps.sum
      omega
  have hD : -120000 ≤ shD ps (cnt m ps.length : Nat) ∧ shD ps (cnt m ps.length : Nat) ≤ 120000 := by
    unfold shD
    split
    · omega
    · have := Fr.mkD_abs (shS ps (cnt m ps.length : Nat)) ps.sum
      omega
  refine ⟨?_, by omega, by omega, mul_bdS hN.1 hN.2 (by omega) (by omega), mul_bdS (by omega) (by omega) hD.1 hD.2, fun h => share_law h (few_share m)⟩
  unfold shB
  rw [hg, Bool.true_and]
  exact Pf.inB_of (by omega) (by omega)
def shV (ps fs : List Int) (g : Int) : Int × Int := if shB ps fs g then (shN ps g, shD ps g) else (0, 0)
theorem so_w {a b : Option Addr} {n m c d : Nat} {g : Int} {ps fs : List Int} {w : World} (hn : ps.length = n) (hm : fs.length = m) (ha : ARow w a ps) (hb : ARow w b fs) :
    Calls Try.prog 25 #[.agg #[.slice a n c, .slice b m d], .int .i64 g] w fun e w' => e = .returned (.tuple #[.agg #[.int .i64 (shV ps fs g).1, .int .i64 (shV ps fs g).2], .bool (shB ps fs g)]) ∧ Below w.heap.size w w' := by
  unfold shV
  cases h : shB ps fs g
  · exact (so_any hn hm ha hb).1 h
  · exact (so_any hn hm ha hb).2 h
theorem sso_w {a b : Option Addr} {n m c d : Nat} {g : Int} {ps fs : List Int} {w : World} (hn : ps.length = n) (hm : fs.length = m) (ha : ARow w a ps) (hb : ARow w b fs) :
    Calls Try.prog 31 #[.agg #[.slice a n c, .slice b m d], .int .i64 g] w fun e w' => e = .returned (.tuple #[.agg #[.int .i64 (shV ps fs g).1, .int .i64 (shV ps fs g).2], .bool (shB ps fs g)]) ∧ Below w.heap.size w w' := by
  unfold shV
  cases h : shB ps fs g
  · exact (sso_any hn hm ha hb).1 h
  · exact (sso_any hn hm ha hb).2 h
theorem coL_facts {ps fs : List Int} : (coL ps fs).length ≤ ps.length ∧ (Pf.goodP ps fs = true → (coL ps fs).length = ps.length ∧ ps.length ≤ 12 ∧ ∀ i k, i < ps.length → k < ps.length → 1 ≤ (coL ps fs).getD i 0 ∧ (coL ps fs).getD i 0 ≤ 3 ∧ (ps.getD i 0 > ps.getD k 0 → (coL ps fs).getD i 0 ≤ (coL ps fs).getD k 0)) := by
  unfold coL
  cases h : Pf.goodP ps fs
  · simp
  · simp only [if_true, clsOf_len]
    refine ⟨Nat.le_refl _, fun _ => ⟨trivial, (Pf.goodP_len h).2, fun i k hi hk => cls_of (fun j => ?_) hi hk⟩⟩
    unfold Rk.val
    by_cases hj : j < ps.length
    · exact (Pf.inB_yes (Pf.allB_get (Pf.goodP_picks h) hj)).1
    · simp [List.getD_eq_getElem?_getD, show ps.length ≤ j by omega]
theorem rbL_facts {vs : List Int} : (rbL vs).length ≤ vs.length ∧ (goodV vs = true → (rbL vs).length = vs.length ∧ ∀ i, i < vs.length → (rbL vs).getD i 0 = ((Rk.rank vs).getD i 0 : Nat)) := by
  unfold rbL
  cases h : goodV vs
  · simp
  · simp only [if_true, nats_len, Rk.rank_len]
    exact ⟨Nat.le_refl _, fun _ => ⟨trivial, fun i hi => nats_at (by rw [Rk.rank_len]; exact hi)⟩⟩
end Go.Proofs.Ytegonbilomcpkaa
