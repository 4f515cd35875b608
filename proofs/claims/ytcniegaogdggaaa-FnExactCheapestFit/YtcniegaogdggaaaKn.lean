/-
  Plain facts, of no program: the way back, by the bins of loads.
-/
import Derived.Test.YtcniegaogdggaaaKm
namespace Go.Proofs.Ytcniegaogdggaaa.Hu

/-- The way back in so many steps: the load from which a bin was seen gets it, and leaves the one that it had. -/
inductive BkR (n : Nat) (ys : List Int) : Nat → List Int → Int → List Int → Prop
  | done (fit : List Int) : BkR n ys 0 fit (-1) fit
  | step {k : Nat} {fit fit' : List Int} {b i : Nat} (hb : b < n) (hi : i < n) (hy : ys.getD b 0 = (i : Int)) (h : BkR n ys k (fit.set i (b : Int)) (fit.getD i 0) fit') : BkR n ys (k + 1) fit (b : Int) fit'
theorem bk_end {n : Nat} {o0 : Fn} {L : Nat} {fr : Fn} {ys : List Int} (ho : Ow n o0 L) (hL : L < n) (hys : ∀ b, b < n → ys.getD b 0 = ((ld o0 L (fr b) : Nat) : Int)) : ∀ (k : Nat) {o : Fn} {h : Nat} {r : List Nat} {fit : List Int},
    (∀ b, b ∈ h :: r → b < n) → (h :: r).Nodup → (∀ b, b ∈ r → o b = o0 b ∧ 0 ≤ o0 b) → (∀ i, i < L → ∃ b, b < n ∧ b ≠ h ∧ o b = (i : Int) ∧ fit.getD i 0 = (b : Int)) →
    (∀ b, b < n → ∀ d, d < n → b ≠ h → d ≠ h → 0 ≤ o b → o b = o d → b = d) → (∀ i, L ≤ i → i < n → fit.getD i 0 = -1) → fit.length = n →
    (∀ b s, (b :: s) <:+ (h :: r) → PR s (fr b)) → r.length + 2 ≤ k →
    ∃ K fit', BkR n ys K fit (h : Int) fit' ∧ fit'.length = n ∧ (∀ i, i < L + 1 → ∃ b, b < n ∧ back fr L k o (h : Int) b = (i : Int) ∧ fit'.getD i 0 = (b : Int)) ∧ ∀ i, L + 1 ≤ i → i < n → fit'.getD i 0 = -1
  | 0, _, _, _, _, _, _, _, _, _, _, _, _, hk => by omega
  | 1, _, _, _, _, _, _, _, _, _, _, _, _, hk => by omega
  | k + 2, o, h, r, fit, hb, hnd, hr, hf, hinj, hz, hfl, hch, hk => by
    have hn0 : ¬ ((h : Int) < 0) := by omega
    have hhn := hb h List.mem_cons_self
    have hp := hch h r (List.suffix_refl _)
    have hyh := hys h hhn
    rw [back, if_neg hn0]
    simp only [Int.toNat_natCast]
    rcases hp with e | ⟨f, hfm, e⟩
    · rw [e, if_pos (by omega), back, if_pos (by omega)]
      have hld : ld o0 L (fr h) = L := by rw [e]; simp [ld]
      rw [hld] at hyh
      refine ⟨1, fit.set L (h : Int), .step hhn hL hyh (by rw [hz L (Nat.le_refl _) hL]; exact .done _), by simpa using hfl, fun i hi => ?_, fun i hi hin => ?_⟩
      · by_cases hiL : i = L
        · subst hiL
          exact ⟨h, hhn, upd_same _ _ _, by rw [set_get9 _ _ _ _ (by omega), if_pos rfl]⟩
        · obtain ⟨b, h1, h2, h3, h4⟩ := hf i (by omega)
          exact ⟨b, h1, by rw [upd_else _ _ h2]; exact h3, by rw [set_get9 _ _ _ _ (by omega), if_neg hiL]; exact h4⟩
      · rw [set_get9 _ _ _ _ (by omega), if_neg (by omega)]
        exact hz i (by omega) hin
    · have hf0 : ¬ ((f : Int) < 0) := by omega
      rw [e, if_neg hf0, Int.toNat_natCast]
      have hfn := hb f (List.mem_cons_of_mem _ hfm)
      have hfh : f ≠ h := fun e => by subst e; exact (List.nodup_cons.1 hnd).1 hfm
      obtain ⟨s, t, hst⟩ := List.append_of_mem hfm
      have hsuf : (f :: t) <:+ r := ⟨s, hst.symm⟩
      have hld : ld o0 L (fr h) = (o0 f).toNat := by rw [e]; simp only [ld, if_neg hf0, Int.toNat_natCast]
      rw [hld] at hyh
      obtain ⟨hof, hof0⟩ := hr f hfm
      have hoL : (o0 f).toNat < L := by
        rcases ho.is f hfn with e | e <;> omega
      have htr : ∀ b, b ∈ t → b ∈ r := fun b hb' => hsuf.subset (List.mem_cons_of_mem _ hb')
      have hlen : t.length < r.length := by rw [hst]; simp; omega
      obtain ⟨b1, h1, h2, h3, h4⟩ := hf (o0 f).toNat hoL
      have hb1 : b1 = f := hinj b1 h1 f hfn h2 hfh (by omega) (by rw [h3, hof]; omega)
      subst hb1
      have hiL : (o0 b1).toNat < n := by omega
      obtain ⟨K, fit', k1, k2, k3, k4⟩ := bk_end ho hL hys (k + 1) (o := upd o h (o b1)) (h := b1) (r := t) (fit := fit.set (o0 b1).toNat (h : Int)) (fun b hb' => hb b (List.mem_cons_of_mem _ (hsuf.subset hb'))) (((List.nodup_cons.1 hnd).2).sublist hsuf.sublist)
        (fun b hb' => by
          have hbr := htr b hb'
          have : b ≠ h := fun e => by subst e; exact (List.nodup_cons.1 hnd).1 hbr
          rw [upd_else _ _ this]
          exact hr b hbr)
        (fun i hi => by
          by_cases hit : i = (o0 b1).toNat
          · exact ⟨h, hhn, Ne.symm h2, by rw [upd_same, hof]; omega, by rw [hit, set_get9 _ _ _ _ (by omega), if_pos rfl]⟩
          · obtain ⟨b, g1, g2, g3, g4⟩ := hf i hi
            refine ⟨b, g1, fun e => ?_, by rw [upd_else _ _ g2]; exact g3, by rw [set_get9 _ _ _ _ (by omega), if_neg hit]; exact g4⟩
            subst e
            rw [hof] at g3
            omega)
        (fun b hb' d hd hbf hdf hob heq => by
          by_cases hbh : b = h
          · by_cases hdh : d = h
            · omega
            · subst hbh
              rw [upd_same, upd_else _ _ hdh] at heq
              rw [upd_same] at hob
              exact absurd (hinj b1 hfn d hd hfh hdh hob heq).symm hdf
          · by_cases hdh : d = h
            · subst hdh
              rw [upd_same, upd_else _ _ hbh] at heq
              rw [upd_else _ _ hbh] at hob
              exact absurd (hinj b hb' b1 hfn hbh hfh hob heq) hbf
            · rw [upd_else _ _ hbh, upd_else _ _ hdh] at heq
              rw [upd_else _ _ hbh] at hob
              exact hinj b hb' d hd hbh hdh hob heq)
        (fun i hi hin => by rw [set_get9 _ _ _ _ (by omega), if_neg (by omega)]; exact hz i hi hin)
        (by simpa using hfl)
        (fun b q hq => hch b q (List.IsSuffix.trans (List.IsSuffix.trans hq hsuf) (List.suffix_cons _ _)))
        (by omega)
      exact ⟨K + 1, fit', .step hhn hiL (by rw [hyh]) (by rw [h4]; exact k1), k2, k3, k4⟩
/-- What the program keeps of a fit: for each load its bin, or -1. -/
def fitR (n : Nat) (o : Fn) (L : Nat) : List Int := tab n fun i => if i < L then ((binOf o n i : Nat) : Int) else -1
theorem fitR_len (n : Nat) (o : Fn) (L : Nat) : (fitR n o L).length = n := tab_len _ _
theorem fitR_lt {n : Nat} {o : Fn} {L i : Nat} (hi : i < n) (h : i < L) : (fitR n o L).getD i 0 = ((binOf o n i : Nat) : Int) := by rw [fitR, tab_get _ hi, if_pos h]
theorem fitR_ge {n : Nat} {o : Fn} {L i : Nat} (hi : i < n) (h : ¬ i < L) : (fitR n o L).getD i 0 = -1 := by rw [fitR, tab_get _ hi, if_neg h]
theorem fit_back {c : List (List Int)} {n L : Nat} {T : Tri} {S : Sk} {d : Nat} {r : List Nat} {ys : List Int} (hc : Good c n) (hL : L < n) (hT : Ou c n L T) (hS : run c n T.o L n (start T.u T.v) = S) (hg : In c n T.o L S (d :: r)) (hx : T.o d < 0) (hys : ∀ b, b < n → ys.getD b 0 = ((ld T.o L (S.fr b) : Nat) : Int)) :
    ∃ K, BkR n ys K (fitR n T.o L) (d : Int) (fitR n (seek c n L T).o (L + 1)) := by
  have hlen : (d :: r).length ≤ n := by
    have := hg.nd.length_le_of_subset (l₂ := List.range n) (fun x hx => List.mem_range.2 (hg.gb x hx))
    simpa using this
  have hla : S.la = (d : Int) := hg.la
  obtain ⟨K, fit', h1, h2, h3, h4⟩ := bk_end (fr := S.fr) (ys := ys) hT.ow hL hys (n + 1) (o := T.o) (h := d) (r := r) (fit := fitR n T.o L) hg.gb hg.nd (fun b hb => ⟨rfl, hg.own b hb⟩)
    (fun i hi => by
      have hb := binOf_is hT.ow hi
      exact ⟨_, hb.1, fun e => by rw [e] at hb; omega, hb.2, fitR_lt (by omega) hi⟩)
    (fun b hb e he _ _ hob heq => hT.ow.inj b hb e he hob heq) (fun i hi hin => fitR_ge hin (by omega)) (fitR_len _ _ _) (fun b s hs => (hg.ch b s hs).1) (by simp at hlen; omega)
  have hs := hT.seek hc hL
  have eo : (seek c n L T).o = back S.fr L (n + 1) T.o (d : Int) := by rw [seek, hS, hla]
  refine ⟨K, ?_⟩
  have : fit' = fitR n (seek c n L T).o (L + 1) := by
    refine tab_ext h2 fun i hi => ?_
    by_cases hiL : i < L + 1
    · obtain ⟨b, b1, b2, b3⟩ := h3 i hiL
      rw [if_pos hiL, binOf_eq hs.ow b1 (by rw [eo]; exact b2), b3]
    · rw [if_neg hiL]; exact h4 i (by omega) hi
  rw [← this]
  exact h1
/-- The load that has a bin, by the fit. -/
theorem fit_index {n : Nat} {o : Fn} {L b : Nat} (ho : Ow n o L) (hL : L ≤ n) (hb : b < n) : (o b = -1 ∧ ∀ i, i < n → (fitR n o L).getD i 0 ≠ (b : Int)) ∨ ∃ i, i < n ∧ o b = (i : Int) ∧ (fitR n o L).getD i 0 = (b : Int) ∧ ∀ j, j < i → (fitR n o L).getD j 0 ≠ (b : Int) := by
  rcases ho.is b hb with e | e
  · refine Or.inl ⟨e, fun i hi h => ?_⟩
    by_cases hiL : i < L
    · rw [fitR_lt hi hiL] at h
      have := binOf_is ho hiL
      have e' : binOf o n i = b := by omega
      rw [e'] at this
      omega
    · rw [fitR_ge hi hiL] at h; omega
  · refine Or.inr ⟨(o b).toNat, by omega, by omega, ?_, fun j hj h => ?_⟩
    · rw [fitR_lt (by omega) (by omega), binOf_eq ho hb (by omega)]
    · rw [fitR_lt (by omega) (by omega)] at h
      have := binOf_is ho (show j < L by omega)
      have e' : binOf o n j = b := by omega
      rw [e'] at this
      omega
end Go.Proofs.Ytcniegaogdggaaa.Hu
