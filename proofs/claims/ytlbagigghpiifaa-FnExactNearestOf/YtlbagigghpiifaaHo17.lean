/-
  Plain facts, of no program: the first slot of a good, from the nearest one on, is the nearest one.
-/
import Derived.Test.YtlbagigghpiifaaHa17
namespace Go.Proofs.Ytlbagigghpiifaa.Hs
open Go.Proofs.Ytlbagigghpiifaa

/-- The nearest slot of a good among the first k, for the model: -1 where there is none. -/
def best (ws os : List Int) (g : Int) : Nat → Int
  | 0 => -1
  | k + 1 => if os.getD k 0 = g ∧ (best ws os g k < 0 ∨ ws.getD k 0 < ws.getD (best ws os g k).toNat 0) then (k : Int) else best ws os g k
/-- Slot s is the nearest of its good among the first k, of as near ones the first one. -/
structure IsBest (ws os : List Int) (g : Int) (k s : Nat) : Prop where
  lt : s < k
  own : os.getD s 0 = g
  le : ∀ i, i < k → os.getD i 0 = g → ws.getD s 0 ≤ ws.getD i 0
  first : ∀ i, i < s → os.getD i 0 = g → ws.getD s 0 < ws.getD i 0
theorem best_spec (ws os : List Int) (g : Int) : ∀ k, (best ws os g k = -1 ∧ ∀ i, i < k → os.getD i 0 ≠ g) ∨ ∃ s, best ws os g k = ((s : Nat) : Int) ∧ IsBest ws os g k s
  | 0 => Or.inl ⟨rfl, fun i hi => absurd hi (Nat.not_lt_zero _)⟩
  | k + 1 => by
    rw [best]
    rcases best_spec ws os g k with ⟨e, h⟩ | ⟨s, e, h⟩
    · rw [e]
      by_cases ho : os.getD k 0 = g
      · rw [if_pos ⟨ho, Or.inl (by omega)⟩]
        refine Or.inr ⟨k, rfl, by omega, ho, fun i hi hg => ?_, fun i hi hg => absurd hg (h i hi)⟩
        by_cases e2 : i = k
        · subst e2; omega
        · exact absurd hg (h i (by omega))
      · rw [if_neg (fun hh => ho hh.1)]
        refine Or.inl ⟨rfl, fun i hi => ?_⟩
        by_cases e2 : i = k
        · subst e2; exact ho
        · exact h i (by omega)
    · rw [e]
      by_cases hc : os.getD k 0 = g ∧ ws.getD k 0 < ws.getD s 0
      · rw [if_pos ⟨hc.1, Or.inr (by rw [Int.toNat_natCast]; exact hc.2)⟩]
        refine Or.inr ⟨k, rfl, by omega, hc.1, fun i hi hg => ?_, fun i hi hg => ?_⟩
        · by_cases e2 : i = k
          · subst e2; omega
          · have := h.le i (by omega) hg; omega
        · have := h.le i hi hg; omega
      · rw [if_neg (fun hh => hc ⟨hh.1, by
          rcases hh.2 with h2 | h2
          · omega
          · rwa [Int.toNat_natCast] at h2⟩)]
        refine Or.inr ⟨s, rfl, by have := h.lt; omega, h.own, fun i hi hg => ?_, h.first⟩
        by_cases e2 : i = k
        · subst e2
          rcases Int.lt_or_le (ws.getD i 0) (ws.getD s 0) with h2 | h2
          · exact absurd ⟨hg, h2⟩ hc
          · exact h2
        · exact h.le i (by omega) hg
theorem best_uniq {ws os : List Int} {g : Int} {k s t : Nat} (h : IsBest ws os g k s) (h' : IsBest ws os g k t) : s = t := by
  rcases Nat.lt_trichotomy s t with e | e | e
  · have := h'.first s e h.own; have := h.le t h'.lt h'.own; omega
  · exact e
  · have := h.first t e h'.own; have := h'.le s h.lt h.own; omega
/-- Where a good is told for the first time, going from the nearest slot on. -/
theorem near_best {ws os : List Int} {g : Int} {j : Nat} (hj : j < ws.length) (ho : os.getD ((Rk.rank (negs ws)).getD j 0) 0 = g) (hf : ∀ i, i < j → os.getD ((Rk.rank (negs ws)).getD i 0) 0 ≠ g) : IsBest ws os g ws.length ((Rk.rank (negs ws)).getD j 0) := by
  have hlen : (Rk.rank (negs ws)).length = ws.length := by rw [Rk.rank_len, negs_len]
  have hst := Rk.rank_stays (negs ws)
  have hpos : ∀ s, s < ws.length → ∃ i, i < ws.length ∧ (Rk.rank (negs ws)).getD i 0 = s := fun s hs => by
    have hm : s ∈ Rk.rank (negs ws) := by rw [(Rk.rank_perm (negs ws)).mem_iff]; simpa [negs_len] using hs
    obtain ⟨i, hi, e⟩ := List.getElem_of_mem hm
    exact ⟨i, by omega, by rw [Pf.getD_lt _ 0 hi]; exact e⟩
  have hord : ∀ i k, i < k → k < ws.length → Rk.val (negs ws) ((Rk.rank (negs ws)).getD i 0) > Rk.val (negs ws) ((Rk.rank (negs ws)).getD k 0) ∨ (Rk.val (negs ws) ((Rk.rank (negs ws)).getD i 0) = Rk.val (negs ws) ((Rk.rank (negs ws)).getD k 0) ∧ (Rk.rank (negs ws)).getD i 0 < (Rk.rank (negs ws)).getD k 0) := fun i k hik hk => by
    have := List.pairwise_iff_getElem.1 hst i k (by omega) (by omega) hik
    rw [Pf.getD_lt _ 0 (show i < (Rk.rank (negs ws)).length by omega), Pf.getD_lt _ 0 (show k < (Rk.rank (negs ws)).length by omega)]
    exact this
  refine ⟨?_, ho, fun s hs hg => ?_, fun s hs hg => ?_⟩
  · have := rk_nth_lt (vs := negs ws) (k := j) (by rw [negs_len]; exact hj)
    rwa [negs_len] at this
  · obtain ⟨i, hi, e⟩ := hpos s hs
    rcases Nat.lt_trichotomy i j with h | h | h
    · exact absurd (by rw [e]; exact hg) (hf i h)
    · subst h; rw [e]; omega
    · have := hord j i h hi
      rw [e, negs_val, negs_val] at this
      omega
  · have hs' : s < ws.length := by
      have := rk_nth_lt (vs := negs ws) (k := j) (by rw [negs_len]; exact hj)
      rw [negs_len] at this; omega
    obtain ⟨i, hi, e⟩ := hpos s hs'
    rcases Nat.lt_trichotomy i j with h | h | h
    · exact absurd (by rw [e]; exact hg) (hf i h)
    · subst h; omega
    · have := hord j i h hi
      rw [e, negs_val, negs_val] at this
      omega
theorem some_first {P : Nat → Prop} [DecidablePred P] : ∀ n, (∃ i, i < n ∧ P i) → ∃ j, j < n ∧ P j ∧ ∀ i, i < j → ¬ P i
  | 0, ⟨i, h, _⟩ => absurd h (Nat.not_lt_zero _)
  | n + 1, h => by
    by_cases hh : ∃ i, i < n ∧ P i
    · obtain ⟨j, h1, h2, h3⟩ := some_first n hh
      exact ⟨j, by omega, h2, h3⟩
    · obtain ⟨i, h1, h2⟩ := h
      have : i = n := by
        rcases Nat.lt_or_ge i n with e | e
        · exact absurd ⟨i, e, h2⟩ hh
        · omega
      subst this
      exact ⟨i, by omega, h2, fun k hk hp => hh ⟨k, hk, hp⟩⟩
/-- A good that owns nothing is not counted. -/
theorem ownN_none {m : Nat} {os : List Int} {g : Nat} : ∀ k, (∀ i, i < k → 0 ≤ os.getD i 0 ∧ os.getD i 0 ≠ (g : Int)) → (ownN m os k).getD g 0 = 0
  | 0, _ => by
    simp only [ownN, List.getD_eq_getElem?_getD, List.getElem?_replicate]
    split <;> simp
  | k + 1, h => by
    have ih := ownN_none (m := m) k (fun i hi => h i (by omega))
    have hk := h k (by omega)
    have hne : ¬ (os.getD k 0).toNat = g := by omega
    simp only [ownN]
    rw [List.getD_eq_getElem?_getD, List.getElem?_set_ne hne, ← List.getD_eq_getElem?_getD]
    exact ih
theorem fit_some {cs os : List Int} (h : fitB cs os = true) (hc : ∀ i, i < cs.length → 1 ≤ cs.getD i 0) {g : Nat} (hg : g < cs.length) : ∃ s, s < os.length ∧ os.getD s 0 = (g : Int) := by
  by_cases hh : ∃ s, s < os.length ∧ os.getD s 0 = (g : Int)
  · exact hh
  · have := ownN_none (m := cs.length) (os := os) (g := g) os.length (fun i hi => ⟨(fit_at h hi).1, fun e => hh ⟨i, hi, e⟩⟩)
    rw [(fitB_yes h).2] at this
    have := hc g hg
    omega
def nearB (ws cs os : List Int) (k : Int) : Bool := houseB ws cs os && Pf.inB k 0 ((cs.length : Int) - 1)
def nearI (ws cs os : List Int) (k : Int) : Int := if nearB ws cs os k = true then best ws os k ws.length else 0
end Go.Proofs.Ytlbagigghpiifaa.Hs
