/-
  Plain facts, of no program: lots over days: no lots cost less than the table tells (Wagner and Whitin).
-/
import Derived.Test.YticekgjgknfloaaKg
namespace Go.Proofs.Yticekgjgknfloaa.Lt
open Bx (sumTo sum_add sum_eq sum_le sum_const sum_only sum_pos sum_ge_one)

abbrev Fn := Nat → Int
def seg (nd : Fn) (d t : Nat) : Int := sumTo nd t - sumTo nd d
/-- What is kept of one lot on d for the days up to t. -/
def kp (nd : Fn) (d t : Nat) : Int := sumTo (fun k => if d ≤ k then nd k * ((k : Int) - (d : Int)) else 0) t
def one (S K : Int) (nd : Fn) (d t : Nat) : Int := K * kp nd d t + if 0 < seg nd d t then S else 0
def left (nd lots : Fn) (j : Nat) : Int := sumTo lots j - sumTo nd j
def cst (S K : Int) (nd lots : Fn) (t : Nat) : Int := sumTo (fun i => (if 0 < lots i then S else 0) + K * left nd lots (i + 1)) t
def minTo (g : Fn) : Nat → Int
  | 0 => g 0
  | k + 1 => if g (k + 1) < minTo g k then g (k + 1) else minTo g k
theorem minTo_le (g : Fn) : ∀ k d, d ≤ k → minTo g k ≤ g d
  | 0, d, h => by
    have : d = 0 := by omega
    subst this; exact Int.le_refl _
  | k + 1, d, h => by
    rw [minTo]
    by_cases e : d = k + 1
    · subst e; split <;> omega
    · have := minTo_le g k d (by omega)
      split <;> omega
theorem minTo_is (g : Fn) : ∀ k, ∃ d, d ≤ k ∧ minTo g k = g d
  | 0 => ⟨0, Nat.le_refl _, rfl⟩
  | k + 1 => by
    rw [minTo]
    split
    · exact ⟨k + 1, Nat.le_refl _, rfl⟩
    · obtain ⟨d, h1, h2⟩ := minTo_is g k
      exact ⟨d, by omega, h2⟩
/-- The table, day by day. -/
def tab (S K : Int) (nd : Fn) : Nat → List Int
  | 0 => [0]
  | t + 1 => tab S K nd t ++ [minTo (fun d => (tab S K nd t).getD d 0 + one S K nd d (t + 1)) t]
theorem tab_len (S K : Int) (nd : Fn) : ∀ t, (tab S K nd t).length = t + 1
  | 0 => rfl
  | t + 1 => by simp [tab, tab_len S K nd t]
def T (S K : Int) (nd : Fn) (t : Nat) : Int := (tab S K nd t).getD t 0
theorem tab_get (S K : Int) (nd : Fn) : ∀ m t, t ≤ m → (tab S K nd m).getD t 0 = T S K nd t
  | 0, t, h => by
    have : t = 0 := by omega
    subst this; rfl
  | m + 1, t, h => by
    by_cases e : t = m + 1
    · subst e; rfl
    · have h1 : t < (tab S K nd m).length := by rw [tab_len]; omega
      rw [← tab_get S K nd m t (by omega)]
      simp [tab, List.getD_eq_getElem?_getD, List.getElem?_append_left h1]
theorem T_zero (S K : Int) (nd : Fn) : T S K nd 0 = 0 := rfl
theorem T_succ (S K : Int) (nd : Fn) (t : Nat) : T S K nd (t + 1) = minTo (fun d => (tab S K nd t).getD d 0 + one S K nd d (t + 1)) t := by
  have h := tab_len S K nd t
  rw [T, tab, List.getD_eq_getElem?_getD, List.getElem?_append_right (by omega), h]
  simp
theorem T_le (S K : Int) (nd : Fn) {d t : Nat} (h : d < t) : T S K nd t ≤ T S K nd d + one S K nd d t := by
  obtain ⟨m, rfl⟩ : ∃ m, t = m + 1 := ⟨t - 1, by omega⟩
  rw [T_succ]
  have := minTo_le (fun d => (tab S K nd m).getD d 0 + one S K nd d (m + 1)) m d (by omega)
  have e := tab_get S K nd m d (by omega)
  simp only [e] at this
  exact this
theorem T_is (S K : Int) (nd : Fn) {t : Nat} (h : 0 < t) : ∃ d, d < t ∧ T S K nd t = T S K nd d + one S K nd d t := by
  obtain ⟨m, rfl⟩ : ∃ m, t = m + 1 := ⟨t - 1, by omega⟩
  obtain ⟨d, h1, h2⟩ := minTo_is (fun d => (tab S K nd m).getD d 0 + one S K nd d (m + 1)) m
  refine ⟨d, by omega, ?_⟩
  rw [T_succ, h2]
  have e := tab_get S K nd m d h1
  simp only [e]
theorem sum_from (c : Int) (d : Nat) : ∀ t, sumTo (fun i => if d ≤ i then c else 0) t = if d ≤ t then c * ((t : Int) - (d : Int)) else 0
  | 0 => by
    by_cases h : d = 0
    · subst h; simp [sumTo]
    · simp [sumTo, h]
  | t + 1 => by
    simp only [sumTo]
    rw [sum_from c d t]
    by_cases h1 : d ≤ t
    · rw [if_pos h1, if_pos h1, if_pos (by omega)]
      have : ((t + 1 : Nat) : Int) - (d : Int) = ((t : Int) - (d : Int)) + 1 := by omega
      rw [this, Int.mul_add]; omega
    · rw [if_neg h1, if_neg h1]
      by_cases h2 : d ≤ t + 1
      · rw [if_pos h2]
        have : d = t + 1 := by omega
        subst this; simp
      · rw [if_neg h2]; rfl
/-- What is kept, counted by evenings. -/
theorem kp_left (nd : Fn) (d : Nat) : ∀ t, sumTo (fun i => if d ≤ i then seg nd (i + 1) t else 0) t = kp nd d t
  | 0 => rfl
  | t + 1 => by
    have e : kp nd d (t + 1) = kp nd d t + if d ≤ t then nd t * ((t : Int) - (d : Int)) else 0 := rfl
    rw [e, ← kp_left nd d t, ← sum_from (nd t) d t, ← sum_add]
    simp only [sumTo]
    have e2 : (if d ≤ t then seg nd (t + 1) (t + 1) else 0) = 0 := by
      split
      · unfold seg; omega
      · rfl
    rw [e2, Int.add_zero]
    refine sum_eq t fun i _ => ?_
    by_cases h : d ≤ i
    · simp only [if_pos h]; unfold seg; simp only [sumTo]; omega
    · simp only [if_neg h]; omega
/-- Lots that are enough. -/
structure Ok (nd lots : Fn) (n : Nat) : Prop where
  nn : ∀ i, i < n → 0 ≤ nd i
  ll : ∀ i, i < n → 0 ≤ lots i
  le : ∀ j, j ≤ n → 0 ≤ left nd lots j
theorem Ok.less {nd lots : Fn} {n m : Nat} (h : Ok nd lots n) (hm : m ≤ n) : Ok nd lots m := ⟨fun i hi => h.nn i (by omega), fun i hi => h.ll i (by omega), fun j hj => h.le j (by omega)⟩
theorem last_at {P : Nat → Prop} : ∀ t, (∃ d, d < t ∧ P d ∧ ∀ j, d < j → j < t → ¬ P j) ∨ ∀ j, j < t → ¬ P j
  | 0 => Or.inr fun j hj => by omega
  | t + 1 => by
    by_cases h : P t
    · exact Or.inl ⟨t, by omega, h, fun j h1 h2 => by omega⟩
    · rcases last_at (P := P) t with ⟨d, h1, h2, h3⟩ | h0
      · refine Or.inl ⟨d, by omega, h2, fun j h4 h5 => ?_⟩
        by_cases e : j = t
        · subst e; exact h
        · exact h3 j h4 (by omega)
      · refine Or.inr fun j hj => ?_
        by_cases e : j = t
        · subst e; exact h
        · exact h0 j (by omega)
theorem sum_stay {f : Fn} {d : Nat} : ∀ t, d ≤ t → (∀ j, d ≤ j → j < t → f j = 0) → sumTo f t = sumTo f d
  | 0, h, _ => by
    have : d = 0 := by omega
    subst this; rfl
  | t + 1, h, hz => by
    by_cases e : d = t + 1
    · subst e; rfl
    · simp only [sumTo]
      rw [sum_stay (f := f) (d := d) t (by omega) (fun j h1 h2 => hz j h1 (by omega)), hz t (by omega) (by omega)]; omega
/-- No lots cost less than the table tells. -/
theorem ww {S K : Int} (hS : 0 ≤ S) (hK : 0 ≤ K) {nd lots : Fn} : ∀ t, Ok nd lots t → T S K nd t ≤ cst S K nd lots t := by
  intro t
  induction t using Nat.strongRecOn with
  | _ t ih =>
    intro h
    by_cases ht : t = 0
    · subst ht; exact Int.le_refl _
    rcases last_at (P := fun i => 0 < lots i) t with ⟨d, h1, h2, h3⟩ | h0
    · have hd := ih d h1 (h.less (by omega))
      have hT := T_le S K nd h1
      -- what is kept
      have hev : ∀ i, d ≤ i → i < t → seg nd (i + 1) t ≤ left nd lots (i + 1) := by
        intro i hdi hit
        have e : sumTo lots t = sumTo lots (i + 1) := sum_stay t (by omega) fun j h4 h5 => by
          have := h.ll j h5
          have := h3 j (by omega) h5
          omega
        have := h.le t (Nat.le_refl _)
        unfold left at this ⊢
        unfold seg
        omega
      have hk : kp nd d t ≤ sumTo (fun i => if d ≤ i then left nd lots (i + 1) else 0) t := by
        rw [← kp_left nd d t]
        refine sum_le t fun i hi => ?_
        by_cases e : d ≤ i
        · simp only [if_pos e]; exact hev i e hi
        · simp only [if_neg e]; exact Int.le_refl _
      have hc : ∀ m, d < m → m ≤ t → cst S K nd lots d + S + K * sumTo (fun i => if d ≤ i then left nd lots (i + 1) else 0) m ≤ cst S K nd lots m := by
        intro m
        induction m with
        | zero => intro h4; omega
        | succ m ihm =>
          intro h4 h5
          have hp : 0 ≤ K * left nd lots (m + 1) := Int.mul_nonneg hK (h.le (m + 1) h5)
          have e1 : cst S K nd lots (m + 1) = cst S K nd lots m + ((if 0 < lots m then S else 0) + K * left nd lots (m + 1)) := rfl
          have e2 : sumTo (fun i => if d ≤ i then left nd lots (i + 1) else 0) (m + 1) = sumTo (fun i => if d ≤ i then left nd lots (i + 1) else 0) m + left nd lots (m + 1) := by
            simp only [sumTo]; rw [if_pos (show d ≤ m by omega)]
          rw [e1, e2, Int.mul_add]
          by_cases e : m = d
          · subst e
            rw [if_pos h2]
            have e3 : sumTo (fun i => if m ≤ i then left nd lots (i + 1) else 0) m = 0 := by
              have : sumTo (fun i => if m ≤ i then left nd lots (i + 1) else 0) m = sumTo (fun _ => 0) m := sum_eq m fun i hi => by rw [if_neg (by omega)]
              rw [this, sum_const]; omega
            rw [e3]; omega
          · have := ihm (by omega) (by omega)
            split <;> omega
      have hfin := hc t h1 (Nat.le_refl _)
      have hm := Int.mul_le_mul_of_nonneg_left hk hK
      have ho : one S K nd d t ≤ K * kp nd d t + S := by unfold one; split <;> omega
      omega
    · -- nothing comes: nothing is needed
      have e1 : sumTo lots t = 0 := by
        have : sumTo lots t = sumTo (fun _ => 0) t := sum_eq t fun i hi => by
          have := h.ll i hi
          have := h0 i hi
          omega
        rw [this, sum_const]; omega
      have e2 := h.le t (Nat.le_refl _)
      have e3 : ∀ i, i < t → nd i = 0 := fun i hi => by
        have h1 := sum_ge_one (f := nd) hi h.nn
        have h2 := h.nn i hi
        unfold left at e2
        omega
      have e4 : kp nd 0 t = 0 := by
        have : kp nd 0 t = sumTo (fun _ => 0) t := sum_eq t fun i hi => by simp [e3 i hi]
        rw [this, sum_const]; omega
      have e5 : one S K nd 0 t = 0 := by
        unfold one seg
        rw [e4, if_neg]
        · omega
        · unfold left at e2
          simp only [sumTo]
          omega
      have h1 := T_le S K nd (show 0 < t by omega)
      rw [e5, T_zero] at h1
      have h2 : 0 ≤ cst S K nd lots t := sum_pos t fun i hi => by
        have hp : 0 ≤ K * left nd lots (i + 1) := Int.mul_nonneg hK (h.le (i + 1) (by omega))
        split <;> omega
      omega
theorem kp_mono {nd : Fn} {d t : Nat} (h : 0 ≤ nd t) : kp nd d t ≤ kp nd d (t + 1) := by
  have e : kp nd d (t + 1) = kp nd d t + if d ≤ t then nd t * ((t : Int) - (d : Int)) else 0 := rfl
  rw [e]
  by_cases hd : d ≤ t
  · have : 0 ≤ nd t * ((t : Int) - (d : Int)) := Int.mul_nonneg h (by omega)
    rw [if_pos hd]; omega
  · rw [if_neg hd]; omega
/-- More days cost no less. -/
theorem T_mono {S K : Int} (hS : 0 ≤ S) (hK : 0 ≤ K) {nd : Fn} {t : Nat} (hn : ∀ i, i ≤ t → 0 ≤ nd i) : T S K nd t ≤ T S K nd (t + 1) := by
  obtain ⟨d, h1, h2⟩ := T_is S K nd (t := t + 1) (by omega)
  have hk := Int.mul_le_mul_of_nonneg_left (kp_mono (d := d) (hn t (Nat.le_refl _))) hK
  have hs : seg nd d t ≤ seg nd d (t + 1) := by
    have := hn t (Nat.le_refl _)
    unfold seg; simp only [sumTo]; omega
  by_cases e : d = t
  · subst e
    have hz : kp nd d d = 0 := by
      have : kp nd d d = sumTo (fun _ => 0) d := sum_eq d fun i hi => by rw [if_neg (by omega)]
      rw [this, sum_const]; omega
    rw [hz] at hk
    have : 0 ≤ one S K nd d (d + 1) := by unfold one; split <;> omega
    omega
  · have h3 := T_le S K nd (show d < t by omega)
    have : one S K nd d t ≤ one S K nd d (t + 1) := by
      unfold one
      split <;> split <;> omega
    omega
end Go.Proofs.Yticekgjgknfloaa.Lt
