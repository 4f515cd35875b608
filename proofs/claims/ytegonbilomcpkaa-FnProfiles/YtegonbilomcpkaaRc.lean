/-
  Ranks, plain: no few have more together than the first few of the rank.
-/
import Derived.Test.YtegonbilomcpkaaBase
namespace Go.Proofs.Ytegonbilomcpkaa.Rk

def sumV (vs : List Int) (l : List Nat) : Int := (l.map (val vs)).sum
theorem sumV_nil (vs : List Int) : sumV vs [] = 0 := rfl
theorem sumV_cons (vs : List Int) (a : Nat) (l : List Nat) : sumV vs (a :: l) = val vs a + sumV vs l := by simp [sumV]
theorem sumV_perm {vs : List Int} {l l' : List Nat} (h : l.Perm l') : sumV vs l = sumV vs l' := by
  induction h with
  | nil => rfl
  | cons x _ ih => rw [sumV_cons, sumV_cons, ih]
  | swap x y l => simp only [sumV_cons]; omega
  | trans _ _ h1 h2 => exact h1.trans h2
theorem take_shift (vs : List Int) : ∀ (l : List Nat) (a : Nat), Down vs (a :: l) → ∀ k, k ≤ l.length → sumV vs (l.take k) ≤ sumV vs ((a :: l).take k)
  | _, _, _, 0, _ => by simp [sumV_nil]
  | [], _, _, k + 1, h => by simp at h
  | b :: l, a, hd, k + 1, h => by
    have hd' : Down vs (b :: l) := by unfold Down at hd ⊢; exact (List.pairwise_cons.1 hd).2
    have hab : val vs a ≥ val vs b := by unfold Down at hd; exact (List.pairwise_cons.1 hd).1 b (by simp)
    have ih := take_shift vs l b hd' k (by simpa using h)
    rw [List.take_succ_cons, List.take_succ_cons, sumV_cons, sumV_cons]
    omega
theorem filter_le (vs : List Int) (m : Nat → Bool) : ∀ l : List Nat, Down vs l → sumV vs (l.filter m) ≤ sumV vs (l.take (l.filter m).length)
  | [], _ => by simp [sumV_nil]
  | a :: l, hd => by
    have hd' : Down vs l := by unfold Down at hd ⊢; exact (List.pairwise_cons.1 hd).2
    have ih := filter_le vs m l hd'
    by_cases h : m a
    · rw [List.filter_cons_of_pos h, List.length_cons, List.take_succ_cons, sumV_cons, sumV_cons]
      omega
    · rw [List.filter_cons_of_neg h]
      exact Int.le_trans ih (take_shift vs l a hd _ (List.length_filter_le _ _))
/-- Any few have no more than the first few of the rank. -/
theorem few_le (vs : List Int) (m : Nat → Bool) : sumV vs ((List.range vs.length).filter m) ≤ sumV vs ((rank vs).take ((List.range vs.length).filter m).length) := by
  have hp := (rank_perm vs).filter m
  rw [← sumV_perm hp, ← hp.length_eq]
  exact filter_le vs m _ (rank_down vs)
theorem rank_nodup (vs : List Int) : (rank vs).Nodup := (rank_perm vs).nodup_iff.2 List.nodup_range
/-- The first k of those chosen: how many, and their sum. -/
theorem few_step (m : Nat → Bool) (k : Nat) : (List.range (k + 1)).filter m = (List.range k).filter m ++ (if m k then [k] else []) := by
  rw [List.range_succ, List.filter_append]
  by_cases h : m k <;> simp [h]
theorem sumV_app (vs : List Int) (l l' : List Nat) : sumV vs (l ++ l') = sumV vs l + sumV vs l' := by simp [sumV]
/-- Who has more stands ahead, and has no more ahead of it. -/
theorem ahead_le {vs : List Int} (hp : ∀ i, 0 ≤ val vs i) {j k : Nat} (hjk : j ≤ k) : ∀ l : List Nat, sumV vs (l.take j) ≤ sumV vs (l.take k) := fun l => by
  have e : l.take k = l.take j ++ (l.take k).drop j := by
    have h := List.take_append_drop j (l.take k)
    rw [List.take_take, Nat.min_eq_left hjk] at h
    exact h.symm
  rw [e, sumV_app]
  have : 0 ≤ sumV vs ((l.take k).drop j) := by
    generalize (l.take k).drop j = q
    induction q with
    | nil => exact Int.le_refl _
    | cons a q ih => rw [sumV_cons]; have := hp a; omega
  omega
theorem more_ahead {vs : List Int} {j k : Nat} (hj : j < (rank vs).length) (hk : k < (rank vs).length) (h : val vs ((rank vs).getD j 0) > val vs ((rank vs).getD k 0)) : j < k := by
  rcases Nat.lt_trichotomy j k with h1 | h1 | h1
  · exact h1
  · subst h1; omega
  · have hd := rank_down vs
    unfold Down at hd
    have := List.pairwise_iff_getElem.1 hd k j hk hj h1
    simp [List.getD_eq_getElem?_getD, hj, hk] at h
    omega
theorem rank_has {vs : List Int} {i : Nat} (h : i < vs.length) : ∃ j, j < (rank vs).length ∧ (rank vs).getD j 0 = i := by
  have hm : i ∈ rank vs := (rank_perm vs).mem_iff.2 (List.mem_range.2 h)
  obtain ⟨j, hj, e⟩ := List.getElem_of_mem hm
  exact ⟨j, hj, by simp [List.getD_eq_getElem?_getD, hj, e]⟩
/-- Each of the rank has its place: what is written at the places in the rank's order. -/
theorem set_at {α : Type} (d : α) (f : Nat → α) {l : List Nat} (hn : l.Nodup) {n : Nat} (hl : ∀ x ∈ l, x < n) (u : Nat → List α) (h0 : (u 0).length = n) (hs : ∀ k, u (k + 1) = (u k).set (l.getD k 0) (f k)) : ∀ k, k ≤ l.length → (u k).length = n ∧ ∀ j, j < k → (u k).getD (l.getD j 0) d = f j
  | 0, _ => ⟨h0, fun j hj => absurd hj (Nat.not_lt_zero _)⟩
  | k + 1, hk => by
    obtain ⟨h1, h2⟩ := set_at d f hn hl u h0 hs k (by omega)
    refine ⟨by rw [hs]; simpa using h1, fun j hj => ?_⟩
    rw [hs]
    have hk' : k < l.length := by omega
    have gk : l.getD k 0 = l[k] := by simp [List.getD_eq_getElem?_getD, hk']
    have bk : l.getD k 0 < n := by rw [gk]; exact hl _ (List.getElem_mem hk')
    by_cases e : j = k
    · subst e
      simp [List.getD_eq_getElem?_getD, List.getElem?_set, h1] at bk ⊢
      simp [bk]
    · have hj' : j < k := by omega
      have hne : l.getD k 0 ≠ l.getD j 0 := by
        have gj : l.getD j 0 = l[j] := by simp [List.getD_eq_getElem?_getD, show j < l.length by omega]
        rw [gk, gj]
        intro he
        have := (List.getElem_inj hn).1 he
        omega
      have := h2 j hj'
      simp only [List.getD_eq_getElem?_getD] at this hne ⊢
      rw [List.getElem?_set_ne hne]
      exact this
end Go.Proofs.Ytegonbilomcpkaa.Rk
