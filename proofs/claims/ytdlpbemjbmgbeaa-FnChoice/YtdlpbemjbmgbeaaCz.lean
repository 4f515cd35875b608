/-
  Plain facts, of no program: the best table starts at nothing, does not fall, does not hang on the order of offers; without an offer there is no more, and no less than by the best of the offer alone.
-/
import Derived.Test.YtdlpbemjbmgbeaaCu
namespace Go.Proofs.Ytdlpbemjbmgbeaa.Of
open Go.Proofs.Ytdlpbemjbmgbeaa.Pf

theorem gain0 (o : List Int) : gain o 0 = 0 := rfl
theorem tab_ups {L : List (List Int)} {P p : Nat} {f : Nat → Nat} (hf : ∀ i, i < L.length → f i ≤ (L.getD i []).length) (hp : p ≤ P) (hs : sm f L.length ≤ p) : vl L f L.length ≤ (tab L P).getD p 0 := by
  have h := up (L := L) (P := P) (f := f) (Nat.le_refl L.length) hf hp hs
  rwa [List.take_length] at h
theorem tab_hits (L : List (List Int)) {P p : Nat} (hp : p ≤ P) : ∃ f : Nat → Nat, (∀ i, i < L.length → f i ≤ (L.getD i []).length) ∧ sm f L.length ≤ p ∧ vl L f L.length = (tab L P).getD p 0 := by
  have h := hit (L := L) (P := P) (Nat.le_refl L.length) hp
  rwa [List.take_length] at h
theorem tab_rise (L : List (List Int)) {P p : Nat} (hp : p + 1 ≤ P) : (tab L P).getD p 0 ≤ (tab L P).getD (p + 1) 0 := by
  obtain ⟨f, h1, h2, h3⟩ := tab_hits L (show p ≤ P by omega)
  rw [← h3]
  exact tab_ups h1 hp (by omega)
theorem vl_zero (L : List (List Int)) (f : Nat → Nat) : ∀ k, sm f k ≤ 0 → vl L f k = 0
  | 0, _ => rfl
  | k + 1, h => by
    rw [sm_succ] at h
    rw [vl_succ, vl_zero L f k (by omega), show f k = 0 by omega, gain0]; rfl
theorem tab_first (L : List (List Int)) (P : Nat) : (tab L P).getD 0 0 = 0 := by
  obtain ⟨f, h1, h2, h3⟩ := tab_hits L (Nat.zero_le P)
  rw [← h3]; exact vl_zero L f _ h2
theorem rev_at (L : List (List Int)) {k : Nat} (hk : k < L.length) : L.reverse.getD k [] = L.getD (L.length - 1 - k) [] := by
  rw [List.getD_eq_getElem?_getD, List.getElem?_reverse hk, List.getD_eq_getElem?_getD]
theorem vl_rev (L : List (List Int)) (f : Nat → Nat) : ∀ k, k ≤ L.length → vl L.reverse (fun i => f (L.length - 1 - i)) k + vl L f (L.length - k) = vl L f L.length ∧ sm (fun i => f (L.length - 1 - i)) k + sm f (L.length - k) = sm f L.length
  | 0, _ => ⟨by show 0 + vl L f L.length = _; omega, by show 0 + sm f L.length = _; omega⟩
  | k + 1, hk => by
    obtain ⟨h1, h2⟩ := vl_rev L f k (by omega)
    have e : L.length - k = (L.length - (k + 1)) + 1 := by omega
    have e2 : L.length - 1 - k = L.length - (k + 1) := by omega
    rw [e, vl_succ] at h1
    rw [e, sm_succ] at h2
    rw [vl_succ, sm_succ, rev_at L (by omega)]
    simp only [e2] at *
    exact ⟨by omega, by omega⟩
theorem tab_rev_le (L : List (List Int)) {P p : Nat} (hp : p ≤ P) : (tab L P).getD p 0 ≤ (tab L.reverse P).getD p 0 := by
  obtain ⟨f, h1, h2, h3⟩ := tab_hits L hp
  obtain ⟨g1, g2⟩ := vl_rev L f L.length (Nat.le_refl _)
  have e0 : vl L f (L.length - L.length) = 0 := by rw [Nat.sub_self]; rfl
  have e1 : sm f (L.length - L.length) = 0 := by rw [Nat.sub_self]; rfl
  have h := tab_ups (L := L.reverse) (P := P) (p := p) (f := fun i => f (L.length - 1 - i)) (fun i hi => by rw [List.length_reverse] at hi; rw [rev_at L hi]; exact h1 _ (by omega)) hp (by rw [List.length_reverse]; omega)
  rw [List.length_reverse] at h
  omega
theorem tab_rev (L : List (List Int)) (P : Nat) : tab L.reverse P = tab L P := by
  refine List.ext_getElem (by rw [tab_len, tab_len]) fun i h1 h2 => ?_
  rw [tab_len] at h1
  have a := tab_rev_le L (P := P) (p := i) (by omega)
  have b := tab_rev_le L.reverse (P := P) (p := i) (by omega)
  rw [List.reverse_reverse] at b
  rw [← getD_lt _ 0 (by rw [tab_len]; omega), ← getD_lt _ 0 (by rw [tab_len]; omega)]
  omega
/-- Without the k-th. -/
theorem drop_at (L : List (List Int)) {k : Nat} (hk : k < L.length) (i : Nat) : (drop L k).getD i [] = L.getD (if i < k then i else i + 1) [] := by
  unfold drop
  rw [List.getD_eq_getElem?_getD, List.getD_eq_getElem?_getD]
  by_cases h : i < k
  · rw [if_pos h, List.getElem?_append_left (by rw [List.length_take]; omega), List.getElem?_take_of_lt h]
  · rw [if_neg h, List.getElem?_append_right (by rw [List.length_take]; omega), List.getElem?_drop, List.length_take, Nat.min_eq_left (by omega), show k + 1 + (i - k) = i + 1 by omega]
theorem dropl (L : List (List Int)) {k : Nat} (hk : k < L.length) : (drop L k).length + 1 = L.length := by
  unfold drop
  rw [List.length_append, List.length_take, List.length_drop]; omega
theorem vl_low (L : List (List Int)) {k : Nat} (hk : k < L.length) (f : Nat → Nat) : ∀ j, j ≤ k → vl (drop L k) (fun i => f (if i < k then i else i + 1)) j = vl L f j ∧ sm (fun i => f (if i < k then i else i + 1)) j = sm f j
  | 0, _ => ⟨rfl, rfl⟩
  | j + 1, h => by
    obtain ⟨h1, h2⟩ := vl_low L hk f j (by omega)
    rw [vl_succ, vl_succ, sm_succ, sm_succ, h1, h2, drop_at L hk, if_pos (by omega)]
    exact ⟨rfl, rfl⟩
theorem vl_high (L : List (List Int)) {k : Nat} (hk : k < L.length) (f : Nat → Nat) : ∀ d, vl (drop L k) (fun i => f (if i < k then i else i + 1)) (k + d) + gain (L.getD k []) (f k) = vl L f (k + d + 1) ∧ sm (fun i => f (if i < k then i else i + 1)) (k + d) + f k = sm f (k + d + 1)
  | 0 => by
    obtain ⟨h1, h2⟩ := vl_low L hk f k (Nat.le_refl _)
    rw [Nat.add_zero, vl_succ, sm_succ, h1, h2]
    exact ⟨rfl, rfl⟩
  | d + 1 => by
    obtain ⟨h1, h2⟩ := vl_high L hk f d
    rw [show k + (d + 1) = k + d + 1 by omega, vl_succ L f (k + d + 1), sm_succ f (k + d + 1), ← h1, ← h2, vl_succ, sm_succ, drop_at L hk, if_neg (by omega)]
    exact ⟨by omega, by omega⟩
theorem vl_without (L : List (List Int)) {k : Nat} (hk : k < L.length) (f : Nat → Nat) : vl (drop L k) (fun i => f (if i < k then i else i + 1)) (drop L k).length + gain (L.getD k []) (f k) = vl L f L.length ∧ sm (fun i => f (if i < k then i else i + 1)) (drop L k).length + f k = sm f L.length := by
  have h := vl_high L hk f ((drop L k).length - k)
  have hd := dropl L hk
  rwa [show k + ((drop L k).length - k) = (drop L k).length by omega, hd] at h
theorem drop_less (L : List (List Int)) {k P : Nat} (hk : k < L.length) : (tab (drop L k) P).getD P 0 ≤ (tab L P).getD P 0 := by
  obtain ⟨g, h1, h2, h3⟩ := tab_hits (drop L k) (Nat.le_refl P)
  have hd := dropl L hk
  have E : ∀ i, (fun i => (fun j => if j < k then g j else if j = k then 0 else g (j - 1)) (if i < k then i else i + 1)) i = g i := fun i => by
    by_cases h : i < k
    · simp [h]
    · simp [h, show ¬ i + 1 < k by omega, show ¬ i + 1 = k by omega]
  obtain ⟨a, b⟩ := vl_without L hk (fun j => if j < k then g j else if j = k then 0 else g (j - 1))
  rw [vl_congr (fun i _ => E i)] at a
  rw [sm_congr (fun i _ => E i)] at b
  simp only [Nat.lt_irrefl, if_false, if_true, gain0] at a b
  have h := tab_ups (L := L) (P := P) (p := P) (f := fun j => if j < k then g j else if j = k then 0 else g (j - 1)) (fun i hi => ?_) (Nat.le_refl P) (by omega)
  · omega
  · by_cases e : i < k
    · have := h1 i (by omega)
      rw [drop_at L hk, if_pos e] at this
      simp only [e, if_true]; exact this
    · by_cases e2 : i = k
      · simp [e2]
      · have := h1 (i - 1) (by omega)
        rw [drop_at L hk, if_neg (by omega), show i - 1 + 1 = i by omega] at this
        simp only [e, e2, if_false]; exact this
theorem drop_more (L : List (List Int)) {k P : Nat} (hk : k < L.length) : (tab L P).getD P 0 - (tab (drop L k) P).getD P 0 ≤ (tab [L.getD k []] P).getD P 0 := by
  obtain ⟨f, h1, h2, h3⟩ := tab_hits L (Nat.le_refl P)
  have hd := dropl L hk
  obtain ⟨a, b⟩ := vl_without L hk f
  have u1 := tab_ups (L := drop L k) (P := P) (p := P) (f := fun i => f (if i < k then i else i + 1)) (fun i hi => by
    rw [drop_at L hk]
    exact h1 _ (by split <;> omega)) (Nat.le_refl P) (by omega)
  have u2 := tab_ups (L := [L.getD k []]) (P := P) (p := P) (f := fun _ => f k) (fun i hi => by
    have : i = 0 := by simp at hi; exact hi
    subst this
    exact h1 k hk) (Nat.le_refl P) (by show 0 + f k ≤ P; omega)
  have e : vl [L.getD k []] (fun _ => f k) [L.getD k []].length = 0 + gain (L.getD k []) (f k) := rfl
  omega
end Go.Proofs.Ytdlpbemjbmgbeaa.Of
