/-
  The fewest boxes, plain: from the least on, and by what is begun.
-/
import Derived.Test.YtoalcmfpbjmapaaIg12
import Derived.Test.YtoalcmfpbjmapaaRk
namespace Go.Proofs.Ytoalcmfpbjmapaa.It

def fewN (S : List Int) : Nat := ((List.range (S.length + 1)).find? fun m => canB S (twenty m)).getD 0
def fbI (l : List Int) : Int := if goodB l then (fewN l : Nat) else 0
theorem good_mem {l : List Int} (h : goodB l = true) {x : Int} (hx : x ∈ l) : 1 ≤ x ∧ x ≤ 20 := by
  obtain ⟨i, hi, rfl⟩ := List.mem_iff_getElem.1 hx
  have := good_at h hi
  simpa [hi] using this
theorem good_pos {l : List Int} (h : goodB l = true) : ∀ x ∈ l, 0 ≤ x := fun _ hx => by have := good_mem h hx; omega
theorem few_is {S : List Int} (h : ∀ x ∈ S, 0 ≤ x ∧ x ≤ 20) : Fewest S (fewN S) := by
  have hp : ∀ x ∈ S, 0 ≤ x := fun x hx => (h x hx).1
  have hall := (can_iff hp (twenty_pos S.length)).2 (fit_all S h)
  cases e : (List.range (S.length + 1)).find? fun m => canB S (twenty m) with
  | none =>
    have := List.find?_eq_none.1 e S.length (by simp)
    rw [hall] at this; simp at this
  | some m =>
    have hm : fewN S = m := by unfold fewN; rw [e]; rfl
    rw [hm]
    obtain ⟨h1, aL, bs, h2, h3⟩ := List.find?_eq_some_iff_append.1 e
    refine ⟨(can_iff hp (twenty_pos m)).1 h1, fun q hq => ?_⟩
    by_cases hlt : q < m
    · exfalso
      have hlen : aL.length = m := by
        have h4 : (List.range (S.length + 1))[aL.length]? = some m := by rw [h2]; simp
        obtain ⟨h5, h6⟩ := List.getElem?_eq_some_iff.1 h4
        simpa using h6
      have hmem : q ∈ aL := by
        have h4 : (List.range (S.length + 1))[q]? = aL[q]? := by rw [h2, List.getElem?_append_left (by omega)]
        have hl2 : aL.length < S.length + 1 := by
          have := congrArg List.length h2
          simp at this; omega
        rw [List.getElem?_range (by omega)] at h4
        exact List.mem_of_getElem? h4.symm
      have := h3 q hmem
      rw [(can_iff hp (twenty_pos q)).2 hq] at this
      simp at this
    · omega
theorem few_of {S : List Int} {n : Nat} (h : ∀ x ∈ S, 0 ≤ x ∧ x ≤ 20) (hf : Fewest S n) : fewN S = n := (few_is h).one hf
theorem good_all20 {l : List Int} (h : goodB l = true) : ∀ x ∈ l, 0 ≤ x ∧ x ≤ 20 := fun x hx => by have := good_mem h hx; omega
/-- The least is no more than what fits. -/
theorem lb_le {l : List Int} {m : Nat} (hg : goodB l = true) (h : Fit l (twenty m)) : lbI l ≤ (m : Int) := by
  have := fit_sum h
  unfold lbI
  rw [if_pos hg]
  omega
theorem lb_nonneg {l : List Int} (hg : goodB l = true) : 0 ≤ lbI l := by
  have := good_sum hg
  unfold lbI
  rw [if_pos hg]
  omega
theorem rank_sizes (l : List Int) : ((Rk.rank l).map fun i => l.getD i 0).Perm l := by
  have h := (Rk.rank_perm l).map fun i => l.getD i 0
  refine h.trans (List.Perm.of_eq ?_)
  apply List.ext_getElem
  · simp
  · intro j h1 h2; simp at h1; simp [h1]
/-- Items L, where boxes with the rooms R are begun, go into q boxes in all. -/
def Op (S R : List Int) (q : Nat) : Prop := R.length ≤ q ∧ Fit S (R ++ twenty (q - R.length))
theorem op_step {s : Int} {t R : List Int} {q : Nat} (hs : 0 ≤ s) (hs2 : s ≤ 20) (ht : ∀ x ∈ t, 0 ≤ x) :
    Op (s :: t) R q ↔ (∃ b, b < R.length ∧ s ≤ R.getD b 0 ∧ Op t (R.set b (R.getD b 0 - s)) q) ∨ (R.length < q ∧ Op t (R ++ [20 - s]) q) := by
  have g1 : ∀ b, b < R.length → (R ++ twenty (q - R.length)).getD b 0 = R.getD b 0 := fun b hb => by simp [List.getElem?_append_left hb]
  have g2 : ∀ b, R.length ≤ b → b < R.length + (q - R.length) → (R ++ twenty (q - R.length)).getD b 0 = 20 := fun b hb hb2 => by
    have : b - R.length < q - R.length := by omega
    simp [List.getElem?_append_right hb, twenty, this]
  have g3 : ∀ (b : Nat) (x : Int), b < R.length → (R ++ twenty (q - R.length)).set b x = R.set b x ++ twenty (q - R.length) := fun b x hb => List.set_append_left b x hb
  have g4 : R.length < q → ∀ x : Int, (R ++ twenty (q - R.length)).set R.length x = R ++ [x] ++ twenty (q - (R ++ [x]).length) := fun hlt x => by
    rw [List.set_append_right _ _ (Nat.le_refl _), Nat.sub_self]
    obtain ⟨d, hd⟩ : ∃ d, q - R.length = d + 1 := ⟨q - R.length - 1, by omega⟩
    have h2 : q - (R ++ [x]).length = d := by simp; omega
    rw [hd, h2]
    simp [twenty, List.replicate_succ]
  have hlen : (R ++ twenty (q - R.length)).length = R.length + (q - R.length) := by simp [twenty]
  constructor
  · rintro ⟨h1, h2⟩
    obtain ⟨i, hi, hsi, hf⟩ := (fit_step hs ht).1 h2
    rw [hlen] at hi
    by_cases e : i < R.length
    · rw [g1 i e] at hsi hf
      rw [g3 i _ e] at hf
      exact Or.inl ⟨i, e, hsi, by simpa using h1, by simpa using hf⟩
    · rw [g2 i (by omega) hi] at hf
      have hlt : R.length < q := by omega
      have hf2 := fit_same (i := i) (j := R.length) (by rw [hlen]; exact hi) (by rw [hlen]; omega) (by rw [g2 i (by omega) hi, g2 R.length (Nat.le_refl _) (by omega)]) hf
      rw [g4 hlt] at hf2
      exact Or.inr ⟨hlt, by simp; omega, hf2⟩
  · rintro (⟨b, hb, hsb, h1, h2⟩ | ⟨hlt, h1, h2⟩)
    · rw [List.length_set] at h1 h2
      refine ⟨h1, (fit_step hs ht).2 ⟨b, by rw [hlen]; omega, by rw [g1 b hb]; exact hsb, ?_⟩⟩
      rw [g1 b hb, g3 b _ hb]; exact h2
    · refine ⟨by omega, (fit_step hs ht).2 ⟨R.length, by rw [hlen]; omega, by rw [g2 _ (Nat.le_refl _) (by omega)]; exact hs2, ?_⟩⟩
      rw [g2 _ (Nat.le_refl _) (by omega), g4 hlt]; exact h2
/-- What the model's search answers. -/
structure FewR (S R : List Int) (best r : Nat) : Prop where
  le : r ≤ best
  is : r = best ∨ Op S R r
  no : ∀ q, Op S R q → r ≤ q
theorem few_full {S R : List Int} {best : Nat} (h : best ≤ R.length) : FewR S R best best := ⟨Nat.le_refl _, Or.inl rfl, fun _ hq => Nat.le_trans h hq.1⟩
theorem few_none {R : List Int} {best : Nat} (hR : PosL R) (h : R.length < best) : FewR [] R best R.length :=
  ⟨by omega, Or.inr ⟨Nat.le_refl _, by rw [Nat.sub_self]; simpa [twenty] using fit_nil hR⟩, fun _ hq => hq.1⟩
/-- What its loop keeps. -/
structure FewK (s : Int) (t R : List Int) (best k r : Nat) : Prop where
  le : r ≤ best
  is : r = best ∨ Op (s :: t) R r
  no : ∀ b, b < k → s ≤ R.getD b 0 → ∀ q, Op t (R.set b (R.getD b 0 - s)) q → r ≤ q
theorem fk_start (s : Int) (t R : List Int) (best : Nat) : FewK s t R best 0 best := ⟨Nat.le_refl _, Or.inl rfl, fun _ hb => absurd hb (Nat.not_lt_zero _)⟩
theorem FewK.small {s : Int} {t R : List Int} {best k r : Nat} (h : FewK s t R best k r) (hk : ¬ s ≤ R.getD k 0) : FewK s t R best (k + 1) r := ⟨h.le, h.is, fun b hb hs => by
  by_cases e : b = k
  · subst e; exact absurd hs hk
  · exact h.no b (by omega) hs⟩
theorem FewK.next {s : Int} {t R : List Int} {best k r r' : Nat} (hs : 0 ≤ s) (hs2 : s ≤ 20) (ht : ∀ x ∈ t, 0 ≤ x) (h : FewK s t R best k r) (hkl : k < R.length) (hk : s ≤ R.getD k 0) (hr : FewR t (R.set k (R.getD k 0 - s)) r r') : FewK s t R best (k + 1) r' := by
  refine ⟨Nat.le_trans hr.le h.le, ?_, fun b hb hsb q hq => ?_⟩
  · rcases hr.is with e | e
    · rw [e]; exact h.is
    · exact Or.inr ((op_step hs hs2 ht).2 (Or.inl ⟨k, hkl, hk, e⟩))
  · by_cases e : b = k
    · subst e; exact hr.no q hq
    · exact Nat.le_trans hr.le (h.no b (by omega) hsb q hq)
theorem FewK.last {s : Int} {t R : List Int} {best k r r' : Nat} (hs : 0 ≤ s) (hs2 : s ≤ 20) (ht : ∀ x ∈ t, 0 ≤ x) (h : FewK s t R best k r) (hk : R.length ≤ k) (hr : FewR t (R ++ [20 - s]) r r') : FewR (s :: t) R best r' := by
  refine ⟨Nat.le_trans hr.le h.le, ?_, fun q hq => ?_⟩
  · rcases hr.is with e | e
    · rw [e]; exact h.is
    · exact Or.inr ((op_step hs hs2 ht).2 (Or.inr ⟨by have := e.1; simp at this; omega, e⟩))
  · rcases (op_step hs hs2 ht).1 hq with ⟨b, hb, hsb, hop⟩ | ⟨_, hop⟩
    · exact Nat.le_trans hr.le (h.no b (by omega) hsb q hop)
    · exact hr.no q hop
theorem few_end {l : List Int} {r : Nat} (h : ∀ x ∈ l, 0 ≤ x ∧ x ≤ 20) (hr : FewR l [] (l.length + 1) r) : fewN l = r := by
  have hop : Op l [] l.length := ⟨Nat.zero_le _, by simpa using fit_all l h⟩
  have h1 := hr.no _ hop
  refine few_of h ⟨?_, fun m hm => hr.no m ⟨Nat.zero_le _, by simpa using hm⟩⟩
  rcases hr.is with e | e
  · omega
  · simpa using e.2
end Go.Proofs.Ytoalcmfpbjmapaa.It
