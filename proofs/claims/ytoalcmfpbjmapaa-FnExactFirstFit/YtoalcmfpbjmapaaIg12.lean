/-
  Fitting items into rooms, plain: by a search, and by what is put where.
-/
import Derived.Test.YtoalcmfpbjmapaaIc12
namespace Go.Proofs.Ytoalcmfpbjmapaa.It

/-- What is put into room b. -/
def ld : List (Int × Nat) → Nat → Int
  | [], _ => 0
  | z :: Z, b => (if z.2 = b then z.1 else 0) + ld Z b
theorem ld_perm {Z Z' : List (Int × Nat)} (p : Z.Perm Z') (b : Nat) : ld Z b = ld Z' b := by
  induction p with
  | nil => rfl
  | cons x _ ih => simp only [ld, ih]
  | swap x y l => simp only [ld]; omega
  | trans _ _ ih1 ih2 => exact ih1.trans ih2
theorem ld_nonneg {Z : List (Int × Nat)} (h : ∀ z ∈ Z, 0 ≤ z.1) (b : Nat) : 0 ≤ ld Z b := by
  induction Z with
  | nil => simp [ld]
  | cons z Z ih =>
    have h1 := h z (by simp)
    have h2 := ih (fun y hy => h y (by simp [hy]))
    simp only [ld]
    split <;> omega
/-- Items of the sizes S go into rooms R. -/
def Fit (S R : List Int) : Prop := ∃ Z : List (Int × Nat), (Z.map Prod.fst).Perm S ∧ (∀ z ∈ Z, z.2 < R.length) ∧ ∀ b, b < R.length → ld Z b ≤ R.getD b 0
theorem Fit.perm {S S' R : List Int} (p : S.Perm S') (h : Fit S R) : Fit S' R := by
  obtain ⟨Z, h1, h2⟩ := h
  exact ⟨Z, h1.trans p, h2⟩
theorem fit_nil {R : List Int} (hR : ∀ b, b < R.length → 0 ≤ R.getD b 0) : Fit [] R := ⟨[], by simp, by simp, fun b hb => by simpa [ld] using hR b hb⟩
theorem getD_set {l : List Int} {i b : Nat} {x : Int} (hi : i < l.length) : (l.set i x).getD b 0 = if b = i then x else l.getD b 0 := by
  by_cases e : b = i
  · subst e; simp [hi]
  · rw [if_neg e]; simp [Ne.symm e]
theorem fit_step {s : Int} {t R : List Int} (hs : 0 ≤ s) (ht : ∀ x ∈ t, 0 ≤ x) : Fit (s :: t) R ↔ ∃ i, i < R.length ∧ s ≤ R.getD i 0 ∧ Fit t (R.set i (R.getD i 0 - s)) := by
  constructor
  · rintro ⟨Z, h1, h2, h3⟩
    have hm : s ∈ Z.map Prod.fst := h1.symm.subset (by simp)
    obtain ⟨z, hz, rfl⟩ := List.mem_map.1 hm
    have p : Z.Perm (z :: Z.erase z) := List.perm_cons_erase hz
    have h4 : ((Z.erase z).map Prod.fst).Perm t := by
      have := (p.map Prod.fst).symm.trans h1
      simpa using this
    have hlt := h2 z hz
    have hnn : ∀ y ∈ Z.erase z, 0 ≤ y.1 := fun y hy => ht _ (h4.subset (List.mem_map.2 ⟨y, hy, rfl⟩))
    have h5 : ∀ b, ld Z b = (if z.2 = b then z.1 else 0) + ld (Z.erase z) b := fun b => by rw [ld_perm p b]; rfl
    refine ⟨z.2, hlt, ?_, Z.erase z, h4, fun y hy => by rw [List.length_set]; exact h2 y (List.mem_of_mem_erase hy), fun b hb => ?_⟩
    · have := h3 z.2 hlt
      have h6 := h5 z.2
      have h7 := ld_nonneg hnn z.2
      rw [if_pos rfl] at h6
      omega
    · rw [List.length_set] at hb
      have h6 := h3 b hb
      rw [h5 b] at h6
      rw [getD_set hlt]
      by_cases e : b = z.2
      · subst e; rw [if_pos rfl] at h6 ⊢; omega
      · rw [if_neg e]; rw [if_neg (Ne.symm e)] at h6; omega
  · rintro ⟨i, hi, hs', Z, h1, h2, h3⟩
    refine ⟨(s, i) :: Z, by simpa using h1, fun z hz => ?_, fun b hb => ?_⟩
    · rcases List.mem_cons.1 hz with rfl | hz
      · exact hi
      · have := h2 z hz; rwa [List.length_set] at this
    · have h4 := h3 b (by rw [List.length_set]; exact hb)
      rw [getD_set hi] at h4
      simp only [ld]
      by_cases e : b = i
      · subst e; rw [if_pos rfl] at h4 ⊢; omega
      · rw [if_neg e] at h4; rw [if_neg (Ne.symm e)]; omega
/-- Rooms called otherwise. -/
theorem ld_map (σ : Nat → Nat) {N : Nat} (h1 : ∀ b, b < N → σ (σ b) = b) : ∀ (Z : List (Int × Nat)), (∀ z ∈ Z, z.2 < N) → ∀ b, b < N → ld (Z.map fun z => (z.1, σ z.2)) b = ld Z (σ b)
  | [], _, b, _ => rfl
  | z :: Z, h, b, hb => by
    have ih := ld_map σ h1 Z (fun y hy => h y (by simp [hy])) b hb
    simp only [List.map_cons, ld, ih]
    have : (σ z.2 = b) ↔ (z.2 = σ b) := ⟨fun e => by rw [← e, h1 _ (h z (by simp))], fun e => by rw [e, h1 _ hb]⟩
    by_cases e : z.2 = σ b
    · rw [if_pos e, if_pos (this.2 e)]
    · rw [if_neg e, if_neg (fun e' => e (this.1 e'))]
theorem Fit.turn {S R R' : List Int} (σ : Nat → Nat) (hl : R'.length = R.length) (h0 : ∀ b, b < R.length → σ b < R.length) (h1 : ∀ b, b < R.length → σ (σ b) = b) (h2 : ∀ b, b < R.length → R.getD (σ b) 0 ≤ R'.getD b 0) (h : Fit S R) : Fit S R' := by
  obtain ⟨Z, p, hz, hb⟩ := h
  refine ⟨Z.map fun z => (z.1, σ z.2), by simpa [Function.comp_def] using p, fun z hz' => ?_, fun b hb' => ?_⟩
  · obtain ⟨y, hy, rfl⟩ := List.mem_map.1 hz'
    rw [hl]; exact h0 _ (hz y hy)
  · rw [hl] at hb'
    rw [ld_map σ h1 Z hz b hb']
    have := hb _ (h0 b hb')
    have := h2 b hb'
    omega
/-- Rooms with as much in them are as good. -/
theorem fit_same {t R : List Int} {i j : Nat} {x : Int} (hi : i < R.length) (hj : j < R.length) (e : R.getD i 0 = R.getD j 0) (h : Fit t (R.set i x)) : Fit t (R.set j x) := by
  refine h.turn (fun b => if b = i then j else if b = j then i else b) (by simp) (fun b hb => ?_) (fun b _ => ?_) (fun b hb => ?_)
  · rw [List.length_set] at hb ⊢
    split
    · exact hj
    · split
      · exact hi
      · exact hb
  · by_cases e1 : b = i
    · subst e1
      rw [if_pos rfl]
      by_cases e2 : j = b
      · simp [e2]
      · rw [if_neg e2, if_pos rfl]
    · rw [if_neg e1]
      by_cases e2 : b = j
      · subst e2; rw [if_pos rfl, if_pos rfl]
      · rw [if_neg e2, if_neg e1, if_neg e2]
  · rw [getD_set hi, getD_set hj]
    by_cases e1 : b = i
    · subst e1
      rw [if_pos rfl]
      by_cases e2 : j = b
      · subst e2; simp
      · rw [if_neg e2, if_neg (Ne.symm e2), e]; exact Int.le_refl _
    · rw [if_neg e1]
      by_cases e2 : b = j
      · subst e2; rw [if_pos rfl, if_pos rfl, if_pos rfl]; exact Int.le_refl _
      · rw [if_neg e2, if_neg e1, if_neg e2]; exact Int.le_refl _
/-- The search. -/
def canB : List Int → List Int → Bool
  | [], _ => true
  | s :: t, R => (List.range R.length).any fun i => decide (s ≤ R.getD i 0) && canB t (R.set i (R.getD i 0 - s))
def PosL (R : List Int) : Prop := ∀ b, b < R.length → 0 ≤ R.getD b 0
theorem PosL.set {R : List Int} {i : Nat} {s : Int} (h : PosL R) (hi : i < R.length) (hs : s ≤ R.getD i 0) : PosL (R.set i (R.getD i 0 - s)) := fun b hb => by
  rw [List.length_set] at hb
  rw [getD_set hi]
  split
  · omega
  · exact h b hb
theorem can_iff : ∀ {S R : List Int}, (∀ x ∈ S, 0 ≤ x) → PosL R → (canB S R = true ↔ Fit S R)
  | [], R, _, hR => ⟨fun _ => fit_nil hR, fun _ => rfl⟩
  | s :: t, R, hS, hR => by
    have ht : ∀ x ∈ t, 0 ≤ x := fun x hx => hS x (by simp [hx])
    rw [fit_step (hS s (by simp)) ht]
    simp only [canB, List.any_eq_true, List.mem_range, Bool.and_eq_true, decide_eq_true_eq]
    constructor
    · rintro ⟨i, hi, h1, h2⟩
      exact ⟨i, hi, h1, (can_iff ht (hR.set hi h1)).1 h2⟩
    · rintro ⟨i, hi, h1, h2⟩
      exact ⟨i, hi, h1, (can_iff ht (hR.set hi h1)).2 h2⟩
/-- What the search keeps: of the rooms before k none serves, and those that are great enough were tried. -/
structure CS (s : Int) (t R : List Int) (k : Nat) (tr : List Int) : Prop where
  no : ∀ i, i < k → s ≤ R.getD i 0 → canB t (R.set i (R.getD i 0 - s)) = false
  tried : ∀ x ∈ tr, ∃ i, i < k ∧ s ≤ R.getD i 0 ∧ R.getD i 0 = x
  few : tr.length ≤ k
theorem cs_start (s : Int) (t R : List Int) : CS s t R 0 [] := ⟨fun i hi => absurd hi (Nat.not_lt_zero _), fun x hx => by simp at hx, by simp⟩
theorem CS.small {s : Int} {t R tr : List Int} {k : Nat} (h : CS s t R k tr) (hk : ¬ s ≤ R.getD k 0) : CS s t R (k + 1) tr := by
  refine ⟨fun i hi hs => ?_, fun x hx => ?_, by have := h.few; omega⟩
  · by_cases e : i = k
    · subst e; exact absurd hs hk
    · exact h.no i (by omega) hs
  · obtain ⟨i, h1, h2⟩ := h.tried x hx
    exact ⟨i, by omega, h2⟩
theorem CS.again {s : Int} {t R tr : List Int} {k : Nat} (ht : ∀ x ∈ t, 0 ≤ x) (hR : PosL R) (hkl : k < R.length) (h : CS s t R k tr) (hs : s ≤ R.getD k 0) (hm : tr.contains (R.getD k 0) = true) : CS s t R (k + 1) tr := by
  obtain ⟨i, h1, h2, h3⟩ := h.tried (R.getD k 0) (by simpa using hm)
  refine ⟨fun j hj hs' => ?_, fun x hx => ?_, by have := h.few; omega⟩
  · by_cases e : j = k
    · subst e
      cases hc : canB t (R.set j (R.getD j 0 - s))
      · rfl
      · have h4 := (can_iff ht (hR.set hkl hs)).1 hc
        have h5 := fit_same (i := j) (j := i) hkl (by omega) h3.symm h4
        have h6 := h.no i h1 h2
        rw [← h3] at h5
        rw [(can_iff ht (hR.set (i := i) (by omega) h2)).2 h5] at h6
        cases h6
    · exact h.no j (by omega) hs'
  · obtain ⟨i, h1, h2⟩ := h.tried x hx
    exact ⟨i, by omega, h2⟩
theorem CS.next {s : Int} {t R tr : List Int} {k : Nat} (h : CS s t R k tr) (hs : s ≤ R.getD k 0) (hn : canB t (R.set k (R.getD k 0 - s)) = false) : CS s t R (k + 1) (tr ++ [R.getD k 0]) := by
  refine ⟨fun i hi hs' => ?_, fun x hx => ?_, by have := h.few; rw [List.length_append]; simp only [List.length_cons, List.length_nil]; omega⟩
  · by_cases e : i = k
    · subst e; exact hn
    · exact h.no i (by omega) hs'
  · rcases List.mem_append.1 hx with hx | hx
    · obtain ⟨i, h1, h2⟩ := h.tried x hx
      exact ⟨i, by omega, h2⟩
    · simp at hx; exact ⟨k, by omega, hs, hx.symm⟩
theorem CS.yes {s : Int} {t R : List Int} {k : Nat} (hk : k < R.length) (hs : s ≤ R.getD k 0) (hn : canB t (R.set k (R.getD k 0 - s)) = true) : canB (s :: t) R = true := by
  simp only [canB, List.any_eq_true, List.mem_range, Bool.and_eq_true, decide_eq_true_eq]
  exact ⟨k, hk, hs, hn⟩
theorem CS.none {s : Int} {t R tr : List Int} {k : Nat} (h : CS s t R k tr) (hk : R.length ≤ k) : canB (s :: t) R = false := by
  cases e : canB (s :: t) R
  · rfl
  · simp only [canB, List.any_eq_true, List.mem_range, Bool.and_eq_true, decide_eq_true_eq] at e
    obtain ⟨i, hi, h1, h2⟩ := e
    rw [h.no i (by omega) h1] at h2; cases h2
/-- So many boxes of twenty. -/
def twenty (m : Nat) : List Int := List.replicate m 20
theorem twenty_len (m : Nat) : (twenty m).length = m := by simp [twenty]
theorem twenty_at {m b : Nat} (h : b < m) : (twenty m).getD b 0 = 20 := by simp [twenty, h]
theorem twenty_pos (m : Nat) : PosL (twenty m) := fun b hb => by rw [twenty_len] at hb; rw [twenty_at hb]; omega
theorem ld_sum {N : Nat} : ∀ (Z : List (Int × Nat)), (∀ z ∈ Z, z.2 < N) → ((List.range N).map (ld Z)).sum = (Z.map Prod.fst).sum
  | [], _ => by
    have : (List.range N).map (ld []) = List.replicate N 0 := by
      rw [List.eq_replicate_iff]; simp [ld]
    rw [this]; simp
  | z :: Z, h => by
    have ih := ld_sum Z (fun y hy => h y (by simp [hy]))
    have hz := h z (by simp)
    have e : ∀ M, ((List.range M).map (ld (z :: Z))).sum = (if z.2 < M then z.1 else 0) + ((List.range M).map (ld Z)).sum := by
      intro M
      induction M with
      | zero => simp
      | succ M ihM =>
        rw [List.range_succ, List.map_append, List.map_append, List.sum_append, List.sum_append, ihM]
        simp only [List.map_cons, List.map_nil, List.sum_cons, List.sum_nil, ld]
        by_cases e1 : z.2 = M
        · rw [if_pos e1, if_neg (by omega), if_pos (by omega)]; omega
        · rw [if_neg e1]
          by_cases e2 : z.2 < M
          · rw [if_pos e2, if_pos (by omega)]; omega
          · rw [if_neg e2, if_neg (by omega)]; omega
    rw [e, if_pos hz, ih]; simp
theorem sum_perm' {A B : List Int} (p : A.Perm B) : A.sum = B.sum := by
  induction p with
  | nil => rfl
  | cons x _ ih => simp only [List.sum_cons, ih]
  | swap x y l => simp only [List.sum_cons]; omega
  | trans _ _ ih1 ih2 => exact ih1.trans ih2
/-- What fits into boxes is no more than they hold. -/
theorem fit_sum {S : List Int} {m : Nat} (h : Fit S (twenty m)) : S.sum ≤ 20 * (m : Int) := by
  obtain ⟨Z, p, hz, hb⟩ := h
  rw [twenty_len] at hz hb
  rw [← sum_perm' p, ← ld_sum Z hz]
  have : ∀ M, M ≤ m → ((List.range M).map (ld Z)).sum ≤ 20 * (M : Int) := by
    intro M
    induction M with
    | zero => simp
    | succ M ih =>
      intro hM
      have h1 := ih (by omega)
      have h2 := hb M (by omega)
      rw [twenty_at (by omega)] at h2
      rw [List.range_succ, List.map_append, List.sum_append]
      simp only [List.map_cons, List.map_nil, List.sum_cons, List.sum_nil]
      omega
  exact this m (Nat.le_refl _)
/-- A box for each. -/
theorem fit_all : ∀ (S : List Int), (∀ x ∈ S, 0 ≤ x ∧ x ≤ 20) → Fit S (twenty S.length)
  | S, h => by
    refine ⟨S.zipIdx, by simp, fun z hz => ?_, fun b hb => ?_⟩
    · rw [twenty_len]
      have := List.snd_lt_of_mem_zipIdx hz
      omega
    · rw [twenty_len] at hb
      rw [twenty_at hb]
      have : ∀ (S : List Int) (o : Nat), (∀ x ∈ S, 0 ≤ x ∧ x ≤ 20) → ld (S.zipIdx o) b ≤ (if o ≤ b then 20 else 0) := by
        intro S
        induction S with
        | nil => intro o _; simp [ld]; split <;> omega
        | cons x S ih =>
          intro o hx
          have h1 := ih (o + 1) (fun y hy => hx y (by simp [hy]))
          have h2 := hx x (by simp)
          simp only [List.zipIdx_cons, ld]
          by_cases e : o = b
          · subst e
            rw [if_neg (by omega)] at h1
            rw [if_pos rfl, if_pos (Nat.le_refl _)]; omega
          · rw [if_neg e]
            by_cases e2 : o ≤ b
            · rw [if_pos e2]; rw [if_pos (by omega)] at h1; omega
            · rw [if_neg e2]; rw [if_neg (by omega)] at h1; omega
      have := this S 0 h
      rw [if_pos (Nat.zero_le _)] at this
      exact this
/-- The fewest boxes. -/
def Fewest (S : List Int) (n : Nat) : Prop := Fit S (twenty n) ∧ ∀ m, Fit S (twenty m) → n ≤ m
theorem Fewest.one {S : List Int} {n m : Nat} (h : Fewest S n) (h' : Fewest S m) : n = m := by
  have := h.2 m h'.1
  have := h'.2 n h.1
  omega
end Go.Proofs.Ytoalcmfpbjmapaa.It
