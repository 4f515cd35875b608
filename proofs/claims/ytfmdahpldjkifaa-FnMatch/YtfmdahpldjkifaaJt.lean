/-
  Plain facts, of no program: Konig's and Hall's: how many are matched, covered, and lack a bin.
-/
import Derived.Test.YtfmdahpldjkifaaJp
namespace Go.Proofs.Ytfmdahpldjkifaa.Ma

theorem matB_at {F : List (List Bool)} {m : List Int} (h : matB F m = true) : m.length = F.length ∧ ∀ i, i < F.length → m.getD i 0 = -1 ∨ ∃ b : Nat, b < bins F ∧ m.getD i 0 = (b : Int) ∧ fit F i b = true ∧ ∀ j, j < i → m.getD j 0 ≠ (b : Int) := by
  simp only [matB, Bool.and_eq_true, decide_eq_true_eq] at h
  obtain ⟨h1, h2⟩ := h
  refine ⟨h1, fun i hi => ?_⟩
  have := all_yes h2 hi
  simp only [matAt, Bool.or_eq_true, beq_iff_eq, Bool.and_eq_true, Bool.not_eq_true'] at this
  rcases this with h | ⟨h, h3, h4⟩
  · exact Or.inl h
  · have hb := Pf.inB_yes h
    refine Or.inr ⟨(m.getD i 0).toNat, by omega, by omega, h3, fun j hj e => ?_⟩
    rw [List.contains_eq_mem, decide_eq_false_iff_not] at h4
    apply h4
    have hj' : j < m.length := by omega
    have e2 : m.getD i 0 = m[j] := by rw [Pf.getD_lt m 0 hj'] at e; omega
    rw [e2]
    exact List.mem_take_iff_getElem.2 ⟨j, by omega, rfl⟩
/-- The loads with a bin. -/
def had (m : List Int) (k : Nat) : List Nat := (List.range k).filter fun i => !(m.getD i 0 == -1)
theorem had_len (m : List Int) : ∀ k, k ≤ m.length → (had m k).length = cntTo m k
  | 0, _ => by simp [had, cntTo, cnt]
  | k + 1, h => by
    have ih := had_len m k (by omega)
    rw [cntTo_step (by omega), ← ih]
    unfold had
    rw [List.range_succ, List.filter_append, List.length_append]
    cases hx : (m.getD k 0 == -1) <;> simp only [List.filter_cons, hx] <;> simp
theorem ul_cnt (m : List Int) : ∀ k, k ≤ m.length → (ul m k).length + cntTo m k = k
  | 0, _ => by simp [ul, cntTo, cnt]
  | k + 1, h => by
    have ih := ul_cnt m k (by omega)
    rw [cntTo_step (by omega), ul_step]
    cases hx : (m.getD k 0 == -1) <;> simp <;> omega
theorem filter_two {α : Type} (p : α → Bool) : ∀ l : List α, (l.filter p).length + (l.filter fun x => !p x).length = l.length
  | [] => rfl
  | x :: l => by
    have := filter_two p l
    cases hx : p x <;> simp [hx] <;> omega
/-- No matching has more than a cover. -/
theorem weak {F : List (List Bool)} {m ls bs : List Int} (hm : matB F m = true) (hc : covB F ls bs = true) : cnt m ≤ ls.length + bs.length := by
  obtain ⟨hl, hat⟩ := matB_at hm
  have e1 : cnt m = (had m m.length).length := by rw [had_len m _ (Nat.le_refl _), cntTo_all]
  have e2 := filter_two (fun l : Nat => ls.contains (l : Int)) (had m m.length)
  have hin : ∀ l ∈ had m m.length, l < F.length ∧ m.getD l 0 ≠ -1 := fun l h => by
    simp only [had, List.mem_filter, List.mem_range, Bool.not_eq_true', beq_eq_false_iff_ne] at h
    exact ⟨by omega, h.2⟩
  have hnd : (had m m.length).Nodup := List.Pairwise.filter _ List.nodup_range
  have n1 : ((had m m.length).filter fun l : Nat => ls.contains (l : Int)).length ≤ ls.length := by
    have := List.Nodup.length_le_of_subset (l₁ := cast8 ((had m m.length).filter fun l : Nat => ls.contains (l : Int))) (l₂ := ls) (cast8_nodup (List.Pairwise.filter _ hnd)) fun x hx => by
      obtain ⟨l, h1, rfl⟩ := List.mem_map.1 hx
      have := (List.mem_filter.1 h1).2
      simpa using this
    simpa [cast8] using this
  have n2 : ((had m m.length).filter fun l : Nat => !ls.contains (l : Int)).length ≤ bs.length := by
    have := List.Nodup.length_le_of_subset (l₁ := ((had m m.length).filter fun l : Nat => !ls.contains (l : Int)).map fun l => m.getD l 0) (l₂ := bs) (List.pairwise_map.2 (List.Pairwise.imp_of_mem (R := (· ≠ ·)) (fun {i j} hi hj hne e => ?_) (List.Pairwise.filter _ hnd))) fun x hx => ?_
    · simpa using this
    · obtain ⟨a1, a2⟩ := hin i (List.mem_filter.1 hi).1
      obtain ⟨b1, b2⟩ := hin j (List.mem_filter.1 hj).1
      rcases Nat.lt_or_gt_of_ne hne with hlt | hlt
      · rcases hat j b1 with h | ⟨b, _, h2, _, h4⟩
        · exact b2 h
        · exact h4 i hlt (by rw [e]; exact h2)
      · rcases hat i a1 with h | ⟨b, _, h2, _, h4⟩
        · exact a2 h
        · exact h4 j hlt (by rw [← e]; exact h2)
    · obtain ⟨l, h1, rfl⟩ := List.mem_map.1 hx
      obtain ⟨h2, h3⟩ := List.mem_filter.1 h1
      obtain ⟨a1, a2⟩ := hin l h2
      rcases hat l a1 with h | ⟨b, hb, e, hf, _⟩
      · exact absurd h a2
      · have := all_yes (all_yes hc a1) hb
        simp only [covAt, hf, Bool.not_true, Bool.false_or, Bool.or_eq_true] at this
        simp only [Bool.not_eq_true'] at h3
        rcases this with h | h
        · rw [h3] at h; cases h
        · show m.getD l 0 ∈ bs
          rw [e]; simpa using h
  omega
theorem mat_is {F : List (List Bool)} (h : goodB F = true) : matB F (mat F) = true := by
  have hM := (inv_mat h).mo
  simp only [matB, Bool.and_eq_true, decide_eq_true_eq]
  refine ⟨hM.lm, all_of fun i hi => ?_⟩
  have hi' : i < (mat F).length := by rw [hM.lm]; exact hi
  have g : (mat F).getD i 0 = (mat F).getD i (-1) := by simp [hi']
  unfold matAt
  rw [g]
  rcases hM.mm i hi with e | ⟨b, hb, e⟩
  · rw [e]; rfl
  · have ho := hM.mo i b hi hb e
    have hf := (hM.own_bin hb ho).2.2
    rw [e]
    simp only [Bool.or_eq_true, Bool.and_eq_true, Bool.not_eq_true', Int.toNat_natCast]
    refine Or.inr ⟨Pf.inB_of (by omega) (by omega), hf, ?_⟩
    rw [List.contains_eq_mem, decide_eq_false_iff_not]
    intro hmem
    obtain ⟨j, hj, ej⟩ := List.mem_take_iff_getElem.1 hmem
    have hjl : j < (mat F).length := by omega
    have e2 : (mat F).getD j (-1) = (b : Int) := by simp [hjl, ej]
    have := hM.mo j b (by rw [← hM.lm]; exact hjl) hb e2
    omega
theorem mat_cntB {F : List (List Bool)} (hg : goodB F = true) {m : List Int} (h : matB F m = true) : cntB m = true := by
  obtain ⟨h1, h2⟩ := matB_at h
  have := goodB_len hg
  have hb := goodB_bins hg
  simp only [cntB, Bool.and_eq_true, decide_eq_true_eq]
  refine ⟨by omega, Pf.allB_of fun i hi => ?_⟩
  rcases h2 i (by omega) with e | ⟨b, hb', e, _⟩
  · rw [e]; exact Pf.inB_of (by omega) (by omega)
  · rw [e]; exact Pf.inB_of (by omega) (by omega)
/-- As many are come to as have no bin, and as bins are come to. -/
theorem come_len {F : List (List Bool)} (h : goodB F = true) : (those (rL F (mat F)) true).length = (ul (mat F) F.length).length + (those (rB F (mat F)) true).length := by
  have hI := inv_mat h
  obtain ⟨Bl, hBl⟩ : ∃ Bl : List Nat, Bl = (List.range (bins F)).filter fun b => (rB F (mat F)).getD b false := ⟨_, rfl⟩
  have hB : Bf F (mat F) (own F) (ul (mat F) F.length ++ Bl.map fun b => (own F).getD b (-1)) Bl := ⟨rfl, by rw [hBl]; exact List.Pairwise.filter _ List.nodup_range, fun b hb => by
    rw [hBl] at hb
    simpa using hb⟩
  obtain ⟨f1, f2⟩ := hB.fin hI fun q hq b hb hf => by
    obtain ⟨l, h1, h2, h3⟩ := hB.nat hI hq
    have : q = l := by omega
    subst this
    rw [hBl]
    simpa [hb] using ((shut_r F (mat F) q h1).2 b hb).1 h3 hf
  have p1 := ((List.perm_ext_iff_of_nodup (hB.nodup hI) (those_nodup _ _)).2 f1).length_eq
  have p2 := ((List.perm_ext_iff_of_nodup (cast8_nodup hB.nd) (those_nodup _ _)).2 f2).length_eq
  rw [← p1, ← p2]
  simp [cast8]
theorem those_two (l : List Bool) : (those l true).length + (those l false).length = l.length := by
  unfold those
  rw [List.length_map, List.length_map]
  have h2 := filter_two (fun i => l.getD i false == true) (List.range l.length)
  rw [List.length_range] at h2
  have h3 : ((List.range l.length).filter fun i => l.getD i false == false) = (List.range l.length).filter fun i => !(l.getD i false == true) := List.filter_congr fun x _ => by cases l.getD x false <;> rfl
  rw [h3]; exact h2
/-- Konig: a cover as small as the matching is great. -/
theorem strong {F : List (List Bool)} (h : goodB F = true) : cnt (mat F) = (those (rL F (mat F)) false).length + (those (rB F (mat F)) true).length := by
  have e1 := come_len h
  have e2 := those_two (rL F (mat F))
  rw [rL_len] at e2
  have hl := (inv_mat h).mo.lm
  have e3 := ul_cnt (mat F) F.length (by omega)
  rw [← hl, cntTo_all, hl] at e3
  omega
theorem rise_those (l : List Bool) (so : Bool) : riseB (those l so) l.length = true := by
  refine all_of fun i hi => ?_
  have hp := List.pairwise_iff_getElem.1 (those_rise l so)
  have hm : ∀ j (hj : j < (those l so).length), ∃ k : Nat, k < l.length ∧ (those l so).getD j 0 = (k : Int) := fun j hj => by
    have : (those l so).getD j 0 ∈ those l so := by rw [Pf.getD_lt _ 0 hj]; exact List.getElem_mem hj
    obtain ⟨k, h1, _, h2⟩ := mem_those.1 this
    exact ⟨k, h1, h2⟩
  obtain ⟨k, h1, h2⟩ := hm i hi
  unfold riseAt
  rw [h2]
  refine Pf.inB_of ?_ (by omega)
  unfold least
  by_cases e : i = 0
  · rw [if_pos e]; omega
  · rw [if_neg e]
    have := hp (i - 1) i (by omega) hi (by omega)
    rw [← Pf.getD_lt (those l so) 0 (by omega), ← Pf.getD_lt (those l so) 0 hi, h2] at this
    omega
theorem cover_is {F : List (List Bool)} (h : goodB F = true) : icB F (those (rL F (mat F)) false) (those (rB F (mat F)) true) = true ∧ covB F (those (rL F (mat F)) false) (those (rB F (mat F)) true) = true := by
  constructor
  · simp only [icB, Bool.and_eq_true]
    refine ⟨h, ?_, ?_⟩
    · have := rise_those (rL F (mat F)) false; rwa [rL_len] at this
    · have := rise_those (rB F (mat F)) true; rwa [rB_len] at this
  · refine all_of fun l hl => all_of fun b hb => ?_
    unfold covAt
    rw [those_has (by rw [rL_len]; exact hl), those_has (by rw [rB_len]; exact hb)]
    cases hf : fit F l b
    · rfl
    · cases hr : (rL F (mat F)).getD l false
      · rfl
      · rw [((shut_r F (mat F) l hl).2 b hb).1 hr hf]; rfl
end Go.Proofs.Ytfmdahpldjkifaa.Ma
