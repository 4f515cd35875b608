/-
  Plain facts, of no program: no counts gain more than the best table says, some gain just that, the best choice among them (Bellman).
-/
import Derived.Test.YtdlpbemjbmgbeaaCa
namespace Go.Proofs.Ytdlpbemjbmgbeaa.Of
open Go.Proofs.Ytdlpbemjbmgbeaa.Pf

/-- What counts gain, and how many places they take. -/
def vl (L : List (List Int)) (f : Nat → Nat) : Nat → Int
  | 0 => 0
  | k + 1 => vl L f k + gain (L.getD k []) (f k)
def sm (f : Nat → Nat) : Nat → Nat
  | 0 => 0
  | k + 1 => sm f k + f k
theorem vl_succ (L : List (List Int)) (f : Nat → Nat) (k : Nat) : vl L f (k + 1) = vl L f k + gain (L.getD k []) (f k) := rfl
theorem sm_succ (f : Nat → Nat) (k : Nat) : sm f (k + 1) = sm f k + f k := rfl
theorem vl_congr {L : List (List Int)} {f g : Nat → Nat} : ∀ {k : Nat}, (∀ i, i < k → f i = g i) → vl L f k = vl L g k
  | 0, _ => rfl
  | k + 1, h => by rw [vl_succ, vl_succ, vl_congr (fun i hi => h i (by omega)), h k (by omega)]
theorem sm_congr {f g : Nat → Nat} : ∀ {k : Nat}, (∀ i, i < k → f i = g i) → sm f k = sm g k
  | 0, _ => rfl
  | k + 1, h => by rw [sm_succ, sm_succ, sm_congr (fun i hi => h i (by omega)), h k (by omega)]
theorem tab0 (P p : Nat) : (tab [] P).getD p 0 = 0 := by
  rw [tab_nil]
  simp only [List.getD_eq_getElem?_getD, List.getElem?_replicate]
  split <;> simp
/-- No counts with as few places gain more. -/
theorem up {L : List (List Int)} {P : Nat} {f : Nat → Nat} : ∀ {k p : Nat}, k ≤ L.length → (∀ i, i < k → f i ≤ (L.getD i []).length) → p ≤ P → sm f k ≤ p → vl L f k ≤ (tab (L.take k) P).getD p 0
  | 0, p, _, _, _, _ => by rw [List.take_zero, tab0]; exact Int.le_refl _
  | k + 1, p, hk, hf, hp, hs => by
    rw [sm_succ] at hs
    have h1 := up (k := k) (p := p - f k) (by omega) (fun i hi => hf i (by omega)) (show p - f k ≤ P by omega) (by omega)
    have h2 := hf k (by omega)
    rw [tab_take L P (by omega), step_at _ _ (by rw [tab_len]; omega), vl_succ]
    have h3 := bst_ge (L.getD k []) (tab (L.take k) P) p (n := min (L.getD k []).length p) (k := f k) (by omega)
    unfold best
    omega
/-- Some counts gain just that. -/
theorem hit {L : List (List Int)} {P : Nat} : ∀ {k p : Nat}, k ≤ L.length → p ≤ P → ∃ f : Nat → Nat, (∀ i, i < k → f i ≤ (L.getD i []).length) ∧ sm f k ≤ p ∧ vl L f k = (tab (L.take k) P).getD p 0
  | 0, p, _, _ => ⟨fun _ => 0, fun i hi => absurd hi (Nat.not_lt_zero _), Nat.zero_le _, by rw [List.take_zero, tab0]; rfl⟩
  | k + 1, p, hk, hp => by
    obtain ⟨c, hc, he⟩ := bst_hit (L.getD k []) (tab (L.take k) P) p (min (L.getD k []).length p)
    obtain ⟨f, h1, h2, h3⟩ := hit (L := L) (P := P) (k := k) (p := p - c) (by omega) (by omega)
    have e1 : ∀ i, i < k → (fun i => if i = k then c else f i) i = f i := fun i hi => if_neg (by omega)
    refine ⟨fun i => if i = k then c else f i, fun i hi => ?_, ?_, ?_⟩
    · by_cases e : i = k
      · subst e; show (if i = i then c else f i) ≤ _; rw [if_pos rfl]; omega
      · simp only [e, if_false]; exact h1 i (by omega)
    · rw [sm_succ, sm_congr e1]; simp; omega
    · rw [vl_succ, vl_congr e1, tab_take L P (by omega), step_at _ _ (by rw [tab_len]; omega), h3]
      simp only [if_true]
      unfold best
      omega
/-- The best choice gains the most, with no more places than there are. -/
theorem choice_back (L : List (List Int)) (P : Nat) : ∀ j : Nat, j ≤ L.length → vl L (cn L P) L.length + (tab (L.take (L.length - j)) P).getD (lf L P j) 0 = (tab L P).getD P 0 + vl L (cn L P) (L.length - j) ∧ sm (cn L P) L.length + lf L P j = P + sm (cn L P) (L.length - j)
  | 0, _ => by
    rw [Nat.sub_zero, List.take_length]
    exact ⟨by show vl L (cn L P) L.length + (tab L P).getD P 0 = _; omega, by show sm (cn L P) L.length + P = _; omega⟩
  | j + 1, hj => by
    obtain ⟨h1, h2⟩ := choice_back L P j (by omega)
    obtain ⟨k, hk⟩ : ∃ k, L.length - (j + 1) = k := ⟨_, rfl⟩
    have e1 : L.length - j = k + 1 := by omega
    have e2 : L.length - 1 - k = j := by omega
    have e3 : L.length - k = j + 1 := by omega
    have hkl : k < L.length := by omega
    obtain ⟨l1, l2⟩ := lf_cn L P hkl
    rw [e2, e3] at l1
    rw [e2] at l2
    have hlf := lf_le L P j
    rw [e1, vl_succ, tab_take L P hkl, step_at _ _ (by rw [tab_len]; omega)] at h1
    rw [e1, sm_succ] at h2
    have hh := cnt_hit (L.getD k []) (tab (L.take k) P) (lf L P j)
    have hcn : cn L P k = cnt (L.getD k []) (tab (L.take k) P) (lf L P j) := by unfold cn; rw [e2]
    rw [← hcn, ← l1] at hh
    rw [hk]
    omega
theorem vl_choice (L : List (List Int)) (P : Nat) : vl L (cn L P) L.length = (tab L P).getD P 0 ∧ sm (cn L P) L.length ≤ P := by
  have h := choice_back L P L.length (Nat.le_refl _)
  rw [Nat.sub_self, List.take_zero, tab0] at h
  have e0 : vl L (cn L P) 0 = 0 := rfl
  have e1 : sm (cn L P) 0 = 0 := rfl
  omega
theorem valS_vl (L : List (List Int)) (cs : List Int) : ∀ k, valS L cs k = vl L (fun i => (cs.getD i 0).toNat) k
  | 0 => rfl
  | k + 1 => by rw [vl_succ, ← valS_vl L cs k]; rfl
theorem valS_choice (L : List (List Int)) (P : Nat) : valS L (choice L P) L.length = (tab L P).getD P 0 := by
  rw [valS_vl, ← (vl_choice L P).1]
  exact vl_congr fun i hi => by rw [choice_at L P hi]; simp
theorem valB_choice {L : List (List Int)} (h : offersB L = true) (P : Nat) : valB L (choice L P) = true :=
  valB_of h (choice_len L P) fun i hi => by
    rw [choice_at L P hi]
    have := cnt_le (L.getD i []) (tab (L.take i) P) (lf L P (L.length - 1 - i))
    exact inB_of (by omega) (by unfold cn; omega)
theorem sum_sm (f : Nat → Nat) : ∀ n : Nat, ((List.range n).map fun k => (f k : Int)).sum = (sm f n : Nat)
  | 0 => rfl
  | n + 1 => by rw [List.range_succ, List.map_append, List.sum_append, sum_sm f n, sm_succ]; simp
theorem sum_choice (L : List (List Int)) (P : Nat) : (choice L P).sum ≤ P := by
  unfold choice
  rw [sum_sm]
  have := (vl_choice L P).2
  omega
/-- Counts of a list. -/
theorem take_sm (cs : List Int) (h : ∀ i, i < cs.length → 0 ≤ cs.getD i 0) : ∀ {k : Nat}, k ≤ cs.length → (cs.take k).sum = (sm (fun i => (cs.getD i 0).toNat) k : Nat)
  | 0, _ => rfl
  | k + 1, hk => by
    rw [take_sum_succ cs k (by omega), take_sm cs h (by omega), sm_succ]
    have := h k (by omega)
    omega
theorem val_le {L : List (List Int)} {cs : List Int} {P : Nat} (h : valB L cs = true) (hs : cs.sum ≤ P) : valS L cs L.length ≤ (tab L P).getD P 0 := by
  obtain ⟨_, h2, h3⟩ := valB_yes h
  have e := take_sm cs (fun i hi => (h3 i (by omega)).1) (Nat.le_refl cs.length)
  rw [List.take_length] at e
  rw [valS_vl]
  have := up (L := L) (P := P) (f := fun i => (cs.getD i 0).toNat) (Nat.le_refl L.length) (fun i hi => by have := h3 i hi; show (cs.getD i 0).toNat ≤ _; omega) (Nat.le_refl P) (by rw [← h2]; omega)
  rwa [List.take_length] at this
theorem fold_max_ge : ∀ (o : List Int) (x : Int), x ≤ o.foldl max x ∧ ∀ y ∈ o, y ≤ o.foldl max x
  | [], x => ⟨Int.le_refl _, fun y hy => by cases hy⟩
  | z :: o, x => by
    obtain ⟨h1, h2⟩ := fold_max_ge o (max x z)
    rw [List.foldl_cons]
    refine ⟨by omega, fun y hy => ?_⟩
    rcases List.mem_cons.1 hy with e | e
    · omega
    · exact h2 y e
theorem gain_top (o : List Int) (c : Nat) : gain o c ≤ top o := by
  obtain ⟨h1, h2⟩ := fold_max_ge (0 :: o) 0
  have e : top o = (0 :: o).foldl max 0 := rfl
  unfold gain
  by_cases hc : c < (0 :: o).length
  · rw [getD_lt _ _ hc, e]; exact h2 _ (List.getElem_mem _)
  · rw [List.getD_eq_getElem?_getD, List.getElem?_eq_none (by omega), e]; exact h1
theorem vl_top (L : List (List Int)) (f : Nat → Nat) : ∀ k, vl L f k ≤ topS L k
  | 0 => Int.le_refl _
  | k + 1 => by
    have h1 := vl_top L f k
    have h2 := gain_top (L.getD k []) (f k)
    rw [vl_succ]
    show _ ≤ topS L k + top (L.getD k [])
    omega
theorem tab_top (L : List (List Int)) (P : Nat) : (tab L P).getD P 0 ≤ topS L L.length := by
  rw [← (vl_choice L P).1]; exact vl_top L _ _
end Go.Proofs.Ytdlpbemjbmgbeaa.Of
