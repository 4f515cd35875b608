/-
  Plain facts, of no program: goods that change places one at a time: as many moves are needed as goods are elsewhere and as there are rings (Knuth).
-/
import Derived.Test.YtdigcbjkobjdmaaPf
namespace Go.Proofs.Ytdigcbjkobjdmaa.Mv

/-- Where one goes on to, or nowhere. -/
abbrev PF := Nat → Option Nat
def it (s : PF) : Nat → Nat → Option Nat
  | 0, i => some i
  | k + 1, i => (it s k i).bind s
def Inj (s : PF) : Prop := ∀ i j x, s i = some x → s j = some x → i = j
def Ring (s : PF) (i : Nat) : Prop := ∃ k, 0 < k ∧ it s k i = some i
def Rea (s : PF) (i j : Nat) : Prop := ∃ k, it s k i = some j
def Lead (s : PF) (i : Nat) : Prop := Ring s i ∧ ∀ j, Rea s i j → i ≤ j
theorem it_add (s : PF) (a : Nat) (i : Nat) : ∀ b, it s (a + b) i = (it s a i).bind (it s b)
  | 0 => by cases h : it s a i <;> simp [it]
  | b + 1 => by
    have e : a + (b + 1) = (a + b) + 1 := rfl
    rw [e, it, it_add s a i b]
    cases it s a i <;> simp [it]
theorem it_one (s : PF) (i : Nat) : it s 1 i = s i := by simp [it]
theorem it_head (s : PF) (k i : Nat) : it s (k + 1) i = (s i).bind (it s k) := by
  rw [Nat.add_comm, it_add, it_one]
theorem Rea.refl (s : PF) (i : Nat) : Rea s i i := ⟨0, rfl⟩
theorem Rea.trans {s : PF} {i j k : Nat} (h1 : Rea s i j) (h2 : Rea s j k) : Rea s i k := by
  obtain ⟨a, ha⟩ := h1
  obtain ⟨b, hb⟩ := h2
  exact ⟨a + b, by rw [it_add, ha]; exact hb⟩
theorem ring_many {s : PF} {i k : Nat} (h : it s k i = some i) : ∀ q, it s (k * q) i = some i
  | 0 => rfl
  | q + 1 => by rw [Nat.mul_succ, it_add, ring_many h q]; exact h
theorem Ring.all {s : PF} {i : Nat} (h : Ring s i) (m : Nat) : ∃ j, it s m i = some j ∧ Ring s j ∧ Rea s j i := by
  obtain ⟨k, hk, e⟩ := h
  have hq := ring_many e (m + 1)
  have hle : m + 1 ≤ k * (m + 1) := Nat.le_mul_of_pos_left _ hk
  obtain ⟨r, hr⟩ : ∃ r, k * (m + 1) = m + r := ⟨k * (m + 1) - m, by omega⟩
  rw [hr, it_add] at hq
  cases hj : it s m i with
  | none => rw [hj] at hq; cases hq
  | some j =>
    rw [hj] at hq
    have hq' : it s r j = some i := hq
    refine ⟨j, rfl, ⟨r + m, by omega, by rw [it_add, hq']; exact hj⟩, ⟨r, hq'⟩⟩
theorem Ring.back {s : PF} {i j : Nat} (h : Ring s i) (hr : Rea s i j) : Ring s j ∧ Rea s j i := by
  obtain ⟨m, hm⟩ := hr
  obtain ⟨j', e, h1, h2⟩ := h.all m
  rw [hm] at e; cases e
  exact ⟨h1, h2⟩
theorem Ring.some {s : PF} {i : Nat} (h : Ring s i) : ∃ j, s i = some j := by
  obtain ⟨j, e, _⟩ := h.all 1
  rw [it_one] at e
  exact ⟨j, e⟩
theorem Lead.one {s : PF} {i j x : Nat} (hi : Lead s i) (hj : Lead s j) (h1 : Rea s i x) (h2 : Rea s j x) : i = j := by
  have a := hi.2 j (h1.trans (hj.1.back h2).2)
  have b := hj.2 i (h2.trans (hi.1.back h1).2)
  omega
theorem least_of {P : Nat → Prop} : ∀ k, P k → ∃ m, P m ∧ ∀ j, P j → m ≤ j := by
  intro k
  induction k using Nat.strongRecOn with
  | _ k ih =>
    intro hk
    by_cases h : ∃ j, j < k ∧ P j
    · obtain ⟨j, hj, hp⟩ := h
      exact ih j hj hp
    · exact ⟨k, hk, fun j hj => by
        apply Classical.byContradiction
        intro hn
        exact h ⟨j, by omega, hj⟩⟩
theorem Ring.lead {s : PF} {i : Nat} (h : Ring s i) : ∃ m, Lead s m ∧ Rea s m i := by
  obtain ⟨m, hm, hmin⟩ := least_of (P := Rea s i) i (Rea.refl s i)
  obtain ⟨h1, h2⟩ := h.back hm
  exact ⟨m, ⟨h1, fun j hj => hmin j (hm.trans hj)⟩, h2⟩

/-- Rings that don't meet F stay, where only F and T changed and T was an end. -/
theorem same_it {s s' : PF} {F T : Nat} (hs : ∀ x, x ≠ F → x ≠ T → s' x = s x) (hT : s T = none) {i : Nat} (hr : Ring s i) (ha : ¬ Rea s i F) : ∀ k, it s' k i = it s k i
  | 0 => rfl
  | k + 1 => by
    rw [it, it, same_it hs hT hr ha k]
    obtain ⟨j, e, h1, h2⟩ := hr.all k
    rw [e]
    show s' j = s j
    refine hs j (fun e' => ha ⟨k, by rw [e, e']⟩) (fun e' => ?_)
    obtain ⟨x, hx⟩ := h1.some
    rw [e', hT] at hx; cases hx
theorem same_lead {s s' : PF} {F T : Nat} (hs : ∀ x, x ≠ F → x ≠ T → s' x = s x) (hT : s T = none) {i : Nat} (h : Lead s i) (ha : ¬ Rea s i F) : Lead s' i := by
  have e := same_it hs hT h.1 ha
  refine ⟨?_, fun j hj => ?_⟩
  · obtain ⟨k, hk, h1⟩ := h.1
    exact ⟨k, hk, by rw [e k]; exact h1⟩
  · obtain ⟨k, hk⟩ := hj
    exact h.2 j ⟨k, by rw [← e k]; exact hk⟩
theorem same_rea {s s' : PF} {F T : Nat} (hs : ∀ x, x ≠ F → x ≠ T → s' x = s x) (hT : s T = none) : ∀ k i, it s k i = some F → Rea s' i F
  | 0, i, h => by cases h; exact Rea.refl _ _
  | k + 1, i, h => by
    by_cases hF : i = F
    · subst hF; exact Rea.refl _ _
    · rw [it_head] at h
      cases hi : s i with
      | none => rw [hi] at h; cases h
      | some j =>
        rw [hi] at h
        have hTi : i ≠ T := fun e => by rw [e, hT] at hi; cases hi
        have h1 : s' i = some j := by rw [hs i hF hTi]; exact hi
        exact Rea.trans ⟨1, by rw [it_one]; exact h1⟩ (same_rea hs hT k j h)

open Classical in
/-- How many below n. -/
def cnt (n : Nat) (P : Nat → Prop) [DecidablePred P] : Nat := ((List.range n).filter fun i => decide (P i)).length
theorem cnt_zero (P : Nat → Prop) [DecidablePred P] : cnt 0 P = 0 := by simp [cnt]
theorem cnt_succ (n : Nat) (P : Nat → Prop) [DecidablePred P] : cnt (n + 1) P = cnt n P + if P n then 1 else 0 := by
  simp only [cnt, List.range_succ, List.filter_append, List.length_append]
  by_cases h : P n <;> simp [h]
theorem cnt_le {P Q : Nat → Prop} [DecidablePred P] [DecidablePred Q] : ∀ n, (∀ i, i < n → P i → Q i) → cnt n P ≤ cnt n Q
  | 0, _ => by simp [cnt_zero]
  | n + 1, h => by
    have h1 := cnt_le n (fun i hi => h i (by omega))
    have h2 := h n (by omega)
    rw [cnt_succ, cnt_succ]
    by_cases hp : P n
    · simp [hp, h2 hp]; exact h1
    · simp [hp]; omega
theorem cnt_eq {P Q : Nat → Prop} [DecidablePred P] [DecidablePred Q] (n : Nat) (h : ∀ i, i < n → (P i ↔ Q i)) : cnt n P = cnt n Q :=
  Nat.le_antisymm (cnt_le n fun i hi => (h i hi).1) (cnt_le n fun i hi => (h i hi).2)
/-- One more. -/
theorem cnt_more {P Q : Nat → Prop} [DecidablePred P] [DecidablePred Q] {x : Nat} (hx : ¬ Q x) : ∀ n, x < n → (∀ i, i < n → (P i ↔ Q i ∨ i = x)) → cnt n P = cnt n Q + 1
  | 0, h, _ => by omega
  | n + 1, h, hi => by
    rw [cnt_succ, cnt_succ]
    by_cases e : x = n
    · subst e
      have h1 : P x := (hi x (by omega)).2 (Or.inr rfl)
      have h2 : cnt x P = cnt x Q := cnt_eq x fun i hlt => by
        rw [hi i (by omega)]
        constructor
        · rintro (h | h)
          · exact h
          · omega
        · exact Or.inl
      simp [h1, hx, h2]
    · have h1 := cnt_more hx n (by omega) (fun i hlt => hi i (by omega))
      have h2 : P n ↔ Q n := by
        rw [hi n (by omega)]
        constructor
        · rintro (h | h)
          · exact h
          · omega
        · exact Or.inl
      by_cases hp : P n
      · simp [hp, h2.1 hp, h1]
      · have : ¬ Q n := fun h => hp (h2.2 h)
        simp [hp, this, h1]
/-- One more at most. -/
theorem cnt_one {P Q : Nat → Prop} [DecidablePred P] [DecidablePred Q] (n : Nat) (h : ∀ i j, i < n → j < n → P i → ¬ Q i → P j → ¬ Q j → i = j) : cnt n P ≤ cnt n Q + 1 := by
  by_cases he : ∃ x, x < n ∧ P x ∧ ¬ Q x
  · obtain ⟨x, hx, hp, hq⟩ := he
    have h1 : cnt n (fun i => Q i ∨ i = x) = cnt n Q + 1 := cnt_more hq n hx fun i _ => Iff.rfl
    rw [← h1]
    refine cnt_le n fun i hi hpi => ?_
    by_cases hqi : Q i
    · exact Or.inl hqi
    · exact Or.inr (h i x hi hx hpi hqi hp hq)
  · have := cnt_le (P := P) (Q := Q) n fun i hi hp => Classical.byContradiction fun hq => he ⟨i, hi, hp, hq⟩
    omega
theorem cnt_all (n : Nat) (P : Nat → Prop) [DecidablePred P] : cnt n P ≤ n := by
  have := List.length_filter_le (fun i => decide (P i)) (List.range n)
  rwa [List.length_range] at this
/-- How many rings there are. -/
def rings (n : Nat) (s : PF) [DecidablePred (Lead s)] : Nat := cnt n (Lead s)
open Classical in
theorem rings_drop {n : Nat} {s s' : PF} {F T : Nat} (hs : ∀ x, x ≠ F → x ≠ T → s' x = s x) (hT : s T = none) : rings n s ≤ rings n s' + 1 := by
  refine cnt_one n fun i j _ _ hi hni hj hnj => ?_
  have h1 : Rea s i F := Classical.byContradiction fun h => hni (same_lead hs hT hi h)
  have h2 : Rea s j F := Classical.byContradiction fun h => hnj (same_lead hs hT hj h)
  exact hi.one hj h1 h2
open Classical in
theorem rings_keep {n : Nat} {s s' : PF} {F T : Nat} (hs : ∀ x, x ≠ F → x ≠ T → s' x = s x) (hT : s T = none) (hF : ¬ Ring s F) : rings n s ≤ rings n s' :=
  cnt_le n fun _ _ hi => same_lead hs hT hi fun h => hF (hi.1.back h).1
open Classical in
/-- A ring is broken, and none is made. -/
theorem rings_break {n : Nat} {s s' : PF} {F T : Nat} (hs : ∀ x, x ≠ F → x ≠ T → s' x = s x) (hT : s T = none) (hF' : s' F = none) (hF : Ring s F) (hT' : s' T = s F) (hn : ∀ i x, s i = some x → i < n) : rings n s = rings n s' + 1 := by
  obtain ⟨m, hm, hmF⟩ := hF.lead
  have hmn : m < n := by
    obtain ⟨x, hx⟩ := hm.1.some
    exact hn m x hx
  have noF : ∀ i, Ring s' i → ¬ Rea s' i F := fun i hi hr => by
    obtain ⟨x, hx⟩ := (hi.back hr).1.some
    rw [hF'] at hx; cases hx
  have noT : ∀ i, Ring s' i → ¬ Rea s' i T := fun i hi hr => by
    have hrT := (hi.back hr).1
    obtain ⟨t, ht⟩ := hF.some
    obtain ⟨k, hk⟩ := (hF.back ⟨1, by rw [it_one]; exact ht⟩).2
    have h1 := same_rea hs hT k t hk
    have h2 : Rea s' T F := Rea.trans ⟨1, by rw [it_one, hT']; exact ht⟩ h1
    exact noF T hrT h2
  have hq : ∀ i, Lead s' i → Lead s i ∧ ¬ Rea s i F := fun i hi => by
    have hs2 : ∀ x, x ≠ T → x ≠ F → s x = s' x := fun x h1 h2 => (hs x h2 h1).symm
    have h1 := same_lead (s := s') (s' := s) (F := T) (T := F) hs2 hF' hi (noT i hi.1)
    refine ⟨h1, fun hr => ?_⟩
    obtain ⟨k, hk⟩ := hr
    have := same_it (s := s') (s' := s) (F := T) (T := F) hs2 hF' hi.1 (noT i hi.1) k
    rw [hk] at this
    exact noF i hi.1 ⟨k, this.symm⟩
  refine cnt_more (x := m) (fun h => (hq m h).2 hmF) n hmn fun i _ => ⟨fun h => ?_, fun h => ?_⟩
  · by_cases hr : Rea s i F
    · exact Or.inr (h.one hm hr hmF)
    · exact Or.inl (same_lead hs hT h hr)
  · rcases h with h | rfl
    · exact (hq i h).1
    · exact hm
open Classical in
/-- An end of a way is cut off: rings stay. -/
theorem rings_same {n : Nat} {s s' : PF} {F T : Nat} (hs : ∀ x, x ≠ F → x ≠ T → s' x = s x) (hT : s T = none) (hF' : s' F = none) (hT' : s' T = none) (hF : ¬ Ring s F) : rings n s = rings n s' := by
  refine Nat.le_antisymm (rings_keep hs hT hF) ?_
  have hs2 : ∀ x, x ≠ T → x ≠ F → s x = s' x := fun x h1 h2 => (hs x h2 h1).symm
  refine rings_keep (F := T) (T := F) hs2 hF' fun h => ?_
  obtain ⟨x, hx⟩ := h.some
  rw [hT'] at hx; cases hx
/-- One that always goes on below n comes back. -/
theorem ring_of {n : Nat} {s : PF} (hi : Inj s) {P : Nat → Prop} (hP : ∀ i, P i → i < n ∧ ∃ j, s i = some j ∧ P j) {F : Nat} (hF : P F) : Ring s F := by
  have hall : ∀ k, ∃ j, it s k F = some j ∧ P j := by
    intro k
    induction k with
    | zero => exact ⟨F, rfl, hF⟩
    | succ k ih =>
      obtain ⟨j, e, hj⟩ := ih
      obtain ⟨_, x, hx, hpx⟩ := hP j hj
      exact ⟨x, by rw [it, e]; exact hx, hpx⟩
  have pull : ∀ p q, p < q → it s p F = it s q F → it s (q - p) F = some F := by
    intro p
    induction p with
    | zero => intro q _ e; rw [Nat.sub_zero, ← e]; rfl
    | succ p ih =>
      intro q hq e
      obtain ⟨q', rfl⟩ : ∃ q', q = q' + 1 := ⟨q - 1, by omega⟩
      obtain ⟨a, ea, _⟩ := hall p
      obtain ⟨b, eb, _⟩ := hall q'
      obtain ⟨x, ex, _⟩ := hall (p + 1)
      have e1 : s a = some x := by rw [it, ea] at ex; exact ex
      have e2 : s b = some x := by rw [e, it, eb] at ex; exact ex
      have := hi a b x e1 e2
      subst this
      have := ih q' (by omega) (by rw [ea, eb])
      rwa [show q' + 1 - (p + 1) = q' - p by omega]
  -- two of n + 1 are alike
  have : ∃ p q, p < q ∧ it s p F = it s q F := by
    apply Classical.byContradiction
    intro hn
    have hd : ((List.range (n + 1)).map fun k => (it s k F).getD 0).Nodup := by
      rw [List.nodup_iff_pairwise_ne, List.pairwise_map]
      refine List.Pairwise.imp_of_mem ?_ (List.pairwise_lt_range (n := n + 1))
      intro a b _ _ hab e
      obtain ⟨x, ex, _⟩ := hall a
      obtain ⟨y, ey, _⟩ := hall b
      rw [ex, ey] at e
      exact hn ⟨a, b, hab, by rw [ex, ey]; simpa using e⟩
    have := hd.length_le_of_subset (l₂ := List.range n) (fun x hx => by
      obtain ⟨k, _, rfl⟩ := List.mem_map.1 hx
      obtain ⟨y, ey, hy⟩ := hall k
      rw [ey]
      exact List.mem_range.2 (hP y hy).1)
    simp at this
    omega
  obtain ⟨p, q, hpq, e⟩ := this
  exact ⟨q - p, by omega, pull p q hpq e⟩
end Go.Proofs.Ytdigcbjkobjdmaa.Mv
