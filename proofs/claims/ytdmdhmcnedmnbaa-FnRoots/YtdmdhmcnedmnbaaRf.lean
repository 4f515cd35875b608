/-
  Heron's steps: they begin with the number, fall, and end with the root.
-/
import Derived.Test.YtdmdhmcnedmnbaaRt
namespace Go.Proofs.Ytdmdhmcnedmnbaa.Rt

theorem mul_gap (r x : Int) : x * (2 * r - x) + (r - x) * (r - x) = r * r := by
  rw [Int.mul_sub, Int.sub_mul, Int.mul_sub, Int.mul_sub, Int.mul_comm r x, ← Int.mul_assoc, Int.mul_comm x 2, Int.mul_assoc]
  omega
theorem next_ge {n x : Int} (hn : 1 ≤ n) (hx : 1 ≤ x) : rt n ≤ next n x := by
  obtain ⟨a0, a1, a2⟩ := rt_spec n (by omega)
  unfold next
  generalize rt n = r at *
  by_cases hc : r ≤ (x + n / x) / 2
  · exact hc
  · have h1 : n / x + 1 ≤ 2 * r - x := by omega
    have h2 : n < (n / x + 1) * x := Int.lt_ediv_add_one_mul_self n (by omega)
    have h3 : (n / x + 1) * x ≤ (2 * r - x) * x := Int.mul_le_mul_of_nonneg_right h1 (by omega)
    have h4 := mul_gap r x
    have h5 : 0 ≤ (r - x) * (r - x) := by
      by_cases h : 0 ≤ r - x
      · exact Int.mul_nonneg h h
      · exact Int.mul_nonneg_of_nonpos_of_nonpos (by omega) (by omega)
    rw [Int.mul_comm x] at h4
    omega
theorem last_rt {n x : Int} (hn : 1 ≤ n) (hx : 1 ≤ x) (hr : rt n ≤ x) (h : ¬ next n x < x) : x = rt n := by
  obtain ⟨a0, a1, a2⟩ := rt_spec n (by omega)
  unfold next at h
  have h1 : x ≤ n / x := by omega
  have h2 : x * x ≤ n / x * x := Int.mul_le_mul_of_nonneg_right h1 (by omega)
  have h3 : n / x * x ≤ n := Int.ediv_mul_le n (by omega)
  have := lt_of_sq (a := x) (b := rt n + 1) (by omega) (by omega)
  omega
theorem heron_facts (n : Int) (hn : 1 ≤ n) : ∀ (k : Nat) (x : Int), 1 ≤ x → x ≤ k → rt n ≤ x →
    (heron n k x).getD 0 0 = x ∧ (∀ i, i + 1 < (heron n k x).length → (heron n k x).getD (i + 1) 0 < (heron n k x).getD i 0 ∧ rt n ≤ (heron n k x).getD (i + 1) 0) ∧ (heron n k x).getD ((heron n k x).length - 1) 0 = rt n
  | 0, x, h1, hk, _ => by omega
  | k + 1, x, h1, hk, hr => by
    simp only [heron]
    by_cases h : next n x < x
    · rw [if_pos h]
      have hp := next_pos hn h1
      have hg := next_ge hn h1
      obtain ⟨i1, i2, i3⟩ := heron_facts n hn k (next n x) hp (by omega) hg
      have hl := (heron_len n k (next n x)).1
      refine ⟨rfl, fun i hi => ?_, ?_⟩
      · match i with
        | 0 => simp only [List.getD_cons_succ, List.getD_cons_zero]; rw [i1]; exact ⟨h, hg⟩
        | i + 1 =>
          simp only [List.getD_cons_succ]
          exact i2 i (by simp at hi; omega)
      · obtain ⟨m, hm⟩ : ∃ m, (heron n k (next n x)).length = m + 1 := ⟨(heron n k (next n x)).length - 1, by omega⟩
        simp only [List.length_cons, hm, Nat.add_sub_cancel, List.getD_cons_succ]
        simpa [hm] using i3
    · rw [if_neg h]
      refine ⟨rfl, fun i hi => by simp at hi, ?_⟩
      simpa using last_rt hn h1 hr h
theorem from_facts {n : Int} (hn : 1 ≤ n) : (from_ n n).getD 0 0 = n ∧ (∀ i, i + 1 < (from_ n n).length → (from_ n n).getD (i + 1) 0 < (from_ n n).getD i 0 ∧ rt n ≤ (from_ n n).getD (i + 1) 0) ∧ (from_ n n).getD ((from_ n n).length - 1) 0 = rt n := by
  unfold from_
  refine heron_facts n hn n.toNat n hn (by omega) ?_
  obtain ⟨a0, a1, a2⟩ := rt_spec n (by omega)
  by_cases h : rt n ≤ n
  · exact h
  · have := sq_le (a := n + 1) (b := rt n) (by omega) (by omega)
    have e : (n + 1) * (n + 1) = n * n + 2 * n + 1 := by rw [Int.add_mul, Int.mul_add, Int.one_mul]; omega
    have := Int.mul_nonneg (show 0 ≤ n by omega) (show 0 ≤ n by omega)
    omega
end Go.Proofs.Ytdmdhmcnedmnbaa.Rt
