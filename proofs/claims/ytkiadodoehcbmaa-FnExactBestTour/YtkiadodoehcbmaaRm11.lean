/-
  The tree's round, plain: the stops as the tree goes; each one once at most.
-/
import Derived.Test.YtkiadodoehcbmaaRg11
namespace Go.Proofs.Ytkiadodoehcbmaa.Rt

/-- A stop and all behind it, as deep as told. -/
def wk (up : List Int) : Nat → Nat → List Nat
  | 0, k => [k]
  | f + 1, k => k :: ((List.range up.length).flatMap fun i => if up.getD i 0 = (k : Int) then wk up f i else [])
def wkTo (up : List Int) (f k i : Nat) : List Nat := k :: ((List.range i).flatMap fun i => if up.getD i 0 = (k : Int) then wk up f i else [])
theorem wkTo_succ (up : List Int) (f k i : Nat) : wkTo up f k (i + 1) = if up.getD i 0 = (k : Int) then wkTo up f k i ++ wk up f i else wkTo up f k i := by
  unfold wkTo
  rw [List.range_succ, List.flatMap_append]
  by_cases h : up.getD i 0 = (k : Int)
  · rw [if_pos h]
    simp only [List.flatMap_cons, List.flatMap_nil, List.append_nil, if_pos h, List.cons_append]
  · rw [if_neg h]
    simp only [List.flatMap_cons, List.flatMap_nil, List.append_nil, if_neg h]
/-- A rank that grows from a stop to those joined by it. -/
structure Rnk (n : Nat) (up : List Int) (r : Nat → Nat) : Prop where
  len : up.length = n
  up1 : ∀ i, i < n → ∀ k : Nat, up.getD i 0 = (k : Int) → k < n ∧ r k < r i
  bd : ∀ i, i < n → r i < n
def par (up : List Int) (x : Nat) : Option Nat := if 0 ≤ up.getD x (-1) then some (up.getD x (-1)).toNat else none
def pit (up : List Int) : Nat → Nat → Option Nat
  | 0, x => some x
  | t + 1, x => (pit up t x).bind (par up)
theorem getD_in {up : List Int} {i : Nat} (hi : i < up.length) (d e : Int) : up.getD i d = up.getD i e := by
  simp [List.getD_eq_getElem?_getD, hi]
theorem par_of {up : List Int} {n i k : Nat} (hl : up.length = n) (hi : i < n) (h : up.getD i 0 = (k : Int)) : par up i = some k := by
  unfold par
  rw [getD_in (by omega) (-1) 0, h]
  simp
theorem of_par {up : List Int} {n i k : Nat} (hl : up.length = n) (h : par up i = some k) : i < n ∧ up.getD i 0 = (k : Int) := by
  unfold par at h
  split at h
  · rename_i h0
    have hi : i < up.length := Classical.byContradiction fun e => by
      rw [List.getD_eq_getElem?_getD, List.getElem?_eq_none (by omega)] at h0
      simp at h0
    rw [getD_in hi (-1) 0] at h h0
    refine ⟨by omega, ?_⟩
    have := Option.some.inj h
    omega
  · cases h
theorem wk_pit {n : Nat} {up : List Int} (hl : up.length = n) : ∀ (f k : Nat) {x : Nat}, x ∈ wk up f k → ∃ t, pit up t x = some k
  | 0, k, x, h => by simp [wk] at h; exact ⟨0, by rw [h]; rfl⟩
  | f + 1, k, x, h => by
    rcases List.mem_cons.1 h with h | h
    · exact ⟨0, by rw [h]; rfl⟩
    · obtain ⟨i, hi, hx⟩ := List.mem_flatMap.1 h
      split at hx
      · rename_i e
        obtain ⟨t, ht⟩ := wk_pit hl f i hx
        exact ⟨t + 1, by show (pit up t x).bind (par up) = _; rw [ht]; exact par_of hl (by have := List.mem_range.1 hi; omega) e⟩
      · cases hx
theorem pit_add (up : List Int) (a x : Nat) : ∀ b, pit up (a + b) x = (pit up a x).bind (pit up b)
  | 0 => by cases pit up a x <;> simp [pit]
  | b + 1 => by
    show (pit up (a + b) x).bind (par up) = _
    rw [pit_add up a x b]
    cases pit up a x <;> simp [pit]
theorem pit_rank {n : Nat} {up : List Int} {r : Nat → Nat} (h : Rnk n up r) : ∀ (t : Nat) {x k : Nat}, pit up t x = some k → r k + t ≤ r x
  | 0, x, k, e => by simp [pit] at e; subst e; omega
  | t + 1, x, k, e => by
    have e' : (pit up t x).bind (par up) = some k := e
    cases hp : pit up t x with
    | none => rw [hp] at e'; cases e'
    | some j =>
      rw [hp] at e'
      have h1 := pit_rank h t hp
      obtain ⟨hj, hu⟩ := of_par h.len (show par up j = some k from e')
      have := (h.up1 j hj k hu).2
      omega
theorem same_child {n : Nat} {up : List Int} {r : Nat → Nat} (h : Rnk n up r) {x i j k a b : Nat} (ha : pit up a x = some i) (hb : pit up b x = some j) (hi : par up i = some k) (hj : par up j = some k) : i = j := by
  have key : ∀ {x i j k a b : Nat}, pit up a x = some i → pit up b x = some j → par up i = some k → par up j = some k → a < b → False := by
    intro x i j k a b ha hb hi hj hab
    have h1 : pit up (a + 1) x = some k := by show (pit up a x).bind (par up) = _; rw [ha]; exact hi
    have h2 : pit up ((a + 1) + (b - (a + 1))) x = some j := by rw [show (a + 1) + (b - (a + 1)) = b by omega]; exact hb
    rw [pit_add, h1] at h2
    have h3 := pit_rank h _ (show pit up (b - (a + 1)) k = some j from h2)
    obtain ⟨hjn, hu⟩ := of_par h.len hj
    have := (h.up1 j hjn k hu).2
    omega
  rcases Nat.lt_trichotomy a b with hl | hl | hl
  · exact (key ha hb hi hj hl).elim
  · subst hl; rw [ha] at hb; exact Option.some.inj hb
  · exact (key hb ha hj hi hl).elim
theorem wk_nodup {n : Nat} {up : List Int} {r : Nat → Nat} (h : Rnk n up r) : ∀ (f k : Nat), (wk up f k).Nodup
  | 0, k => by simp [wk]
  | f + 1, k => by
    show (k :: _).Nodup
    rw [List.nodup_cons]
    constructor
    · intro hm
      obtain ⟨i, hi, hx⟩ := List.mem_flatMap.1 hm
      split at hx
      · rename_i e
        obtain ⟨t, ht⟩ := wk_pit h.len f i hx
        have h1 := pit_rank h t ht
        have h2 := (h.up1 i (by have := List.mem_range.1 hi; have := h.len; omega) k e).2
        omega
      · cases hx
    · refine List.pairwise_flatMap.2 ⟨fun i _ => ?_, ?_⟩
      · split
        · exact wk_nodup h f i
        · exact List.Pairwise.nil
      · refine List.Pairwise.imp_of_mem (R := (· ≠ ·)) (fun {i j} hi hj hne x hx y hy exy => ?_) List.nodup_range
        split at hx
        · rename_i e1
          split at hy
          · rename_i e2
            subst exy
            obtain ⟨a, ha⟩ := wk_pit h.len f i hx
            obtain ⟨b, hb⟩ := wk_pit h.len f j hy
            have li : i < n := by have := List.mem_range.1 hi; have := h.len; omega
            have lj : j < n := by have := List.mem_range.1 hj; have := h.len; omega
            exact hne (same_child h ha hb (par_of h.len li e1) (par_of h.len lj e2))
          · cases hy
        · cases hx
theorem wk_lt {n : Nat} {up : List Int} (hl : up.length = n) : ∀ (f k : Nat), k < n → ∀ x ∈ wk up f k, x < n
  | 0, k, hk, x, h => by simp [wk] at h; omega
  | f + 1, k, hk, x, h => by
    rcases List.mem_cons.1 h with h | h
    · omega
    · obtain ⟨i, hi, hx⟩ := List.mem_flatMap.1 h
      split at hx
      · exact wk_lt hl f i (by have := List.mem_range.1 hi; omega) x hx
      · cases hx
theorem wk_len {n : Nat} {up : List Int} {r : Nat → Nat} (h : Rnk n up r) (f k : Nat) (hk : k < n) : 1 ≤ (wk up f k).length ∧ (wk up f k).length ≤ n := by
  constructor
  · cases f <;> simp [wk]
  · have := (wk_nodup h f k).length_le_of_subset (l₂ := List.range n) (fun x hx => List.mem_range.2 (wk_lt h.len f k hk x hx))
    rwa [List.length_range] at this
theorem wkTo_end (up : List Int) (f k n : Nat) (hl : up.length = n) : wkTo up f k n = wk up (f + 1) k := by subst hl; rfl
/-- What the tree is like: each is joined by one that was joined ahead of it. -/
def Tr (n : Nat) (I : List Nat) (up : List Int) : Prop := up.length = n ∧ ∀ i, i < n → up.getD i 0 = -1 ∨ ∃ j : Nat, up.getD i 0 = (j : Int) ∧ j ∈ I ∧ i ∈ I ∧ I.idxOf j < I.idxOf i
theorem tree_tr {L : List (Int × Int)} {n : Nat} (hn : L.length = n) (h1 : 1 ≤ n) : ∀ m, m < n → Tr n (tree L m).1 (tree L m).2.1
  | 0, _ => ⟨by simp [tree, hn], fun i hi => Or.inl (by simp [tree, hn, hi])⟩
  | m + 1, hm => by
    obtain ⟨j1, j2, j3⟩ := tree_jn hn h1 m (by omega)
    obtain ⟨_, ih⟩ := tree_tr hn h1 m (by omega)
    obtain ⟨k, i, hb, hk, hki, hi, hii⟩ := best_some L j1 (by omega)
    simp only [tree, hn, hb]
    refine ⟨by simpa using j3, fun x hx => ?_⟩
    by_cases e : x = k
    · subst e
      right
      refine ⟨i, by simp [j3, hx], List.mem_append.2 (Or.inl hii), List.mem_append.2 (Or.inr (by simp)), ?_⟩
      rw [List.idxOf_append, if_pos hii, List.idxOf_append, if_neg hki]
      have := List.idxOf_lt_length_of_mem hii
      omega
    · have eg : ((tree L m).2.1.set k (i : Int)).getD x 0 = (tree L m).2.1.getD x 0 := by
        simp only [List.getD_eq_getElem?_getD]; rw [List.getElem?_set_ne (Ne.symm e)]
      rw [eg]
      rcases ih x hx with h | ⟨j, h2, h3, h4, h5⟩
      · exact Or.inl h
      · right
        exact ⟨j, h2, List.mem_append.2 (Or.inl h3), List.mem_append.2 (Or.inl h4), by rw [List.idxOf_append, if_pos h3, List.idxOf_append, if_pos h4]; exact h5⟩
theorem tree_rnk {L : List (Int × Int)} {n : Nat} {I : List Nat} {up : List Int} {s : Int} (hn : L.length = n) (h1 : 1 ≤ n) (ht : tree L (n - 1) = (I, up, s)) : Rnk n up I.idxOf := by
  obtain ⟨j1, j2, j3⟩ := tree_jn hn h1 (n - 1) (by omega)
  have tr := tree_tr hn h1 (n - 1) (by omega)
  rw [ht] at j1 j2 j3 tr
  simp only at j1 j2 j3 tr
  refine ⟨j3, fun i hi k hk => ?_, fun i hi => ?_⟩
  · rcases tr.2 i hi with h | ⟨j, e, hj, _, hlt⟩
    · omega
    · have : j = k := by omega
      subst this
      exact ⟨j1.lt j hj, hlt⟩
  · have := List.idxOf_lt_length_of_mem (j1.full (by omega) hi)
    omega
/-- The tree's round. -/
def ttL (L : List (Int × Int)) : List Int := if stopsB L then (wk (tree L (L.length - 1)).2.1 L.length 0).map fun x : Nat => (x : Int) else []
def ttI (L : List (Int × Int)) : Int := if stopsB L then tour L (ttL L) else 0
end Go.Proofs.Ytkiadodoehcbmaa.Rt
