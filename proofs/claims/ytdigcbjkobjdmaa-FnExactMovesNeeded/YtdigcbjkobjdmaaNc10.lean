/-
  Plain facts, of no program: rings as they are counted: by a walk from each place, or by marks.
-/
import Derived.Test.YtdigcbjkobjdmaaMk10
namespace Go.Proofs.Ytdigcbjkobjdmaa.Mv

theorem it_prev {s : PF} {k i x : Nat} (h : it s (k + 1) i = some x) : ∃ a, it s k i = some a ∧ s a = some x := by
  rw [it] at h
  cases e : it s k i with
  | none => rw [e] at h; cases h
  | some a => rw [e] at h; exact ⟨a, rfl, h⟩
theorem it_next {s : PF} {k i a x : Nat} (h : it s k i = some a) (e : s a = some x) : it s (k + 1) i = some x := by
  rw [it, h]; exact e
theorem it_part {s : PF} {F i : Nat} : ∀ {t j : Nat}, it s t F = some i → j ≤ t → ∃ x, it s j F = some x
  | 0, j, h, hj => by obtain rfl : j = 0 := by omega
                      exact ⟨_, h⟩
  | t + 1, j, h, hj => by
    by_cases e : j = t + 1
    · subst e; exact ⟨_, h⟩
    · obtain ⟨a, ha, _⟩ := it_prev h
      exact it_part ha (by omega)
theorem inj_pull {s : PF} (hi : Inj s) : ∀ (p q : Nat) {F x : Nat}, p ≤ q → it s p F = some x → it s q F = some x → it s (q - p) F = some F
  | 0, q, F, x, _, h1, h2 => by cases h1; exact h2
  | p + 1, q, F, x, h, h1, h2 => by
    obtain ⟨q', rfl⟩ : ∃ q', q = q' + 1 := ⟨q - 1, by omega⟩
    obtain ⟨a, ha, ha'⟩ := it_prev h1
    obtain ⟨b, hb, hb'⟩ := it_prev h2
    have := hi a b x ha' hb'
    subst this
    rw [show q' + 1 - (p + 1) = q' - p by omega]
    exact inj_pull hi p q' (by omega) ha hb
theorem ring_into {s : PF} (hi : Inj s) {j k : Nat} (hk : Ring s k) (hr : Rea s j k) : Ring s j := by
  obtain ⟨m, hm⟩ := hr
  obtain ⟨q, hq, e⟩ := hk
  have h2 : it s (m + q) j = some k := by rw [it_add, hm]; exact e
  have := inj_pull hi m (m + q) (by omega) hm h2
  rw [show m + q - m = q by omega] at this
  exact ⟨q, hq, this⟩
/-- A walk by one-to-one steps below n comes back to its start, or to an end. -/
theorem stop_of {n : Nat} {s : PF} (hi : Inj s) (hn : ∀ i x, s i = some x → i < n) (F : Nat) : ∃ K, ∀ x, it s K F = some x → (0 < K ∧ x = F) ∨ s x = none := by
  apply Classical.byContradiction
  intro hno
  have hgo : ∀ K, ∃ x, it s K F = some x ∧ ¬ (0 < K ∧ x = F) ∧ s x ≠ none := fun K => by
    apply Classical.byContradiction
    intro h
    refine hno ⟨K, fun x hx => Classical.byContradiction fun hc => h ⟨x, hx, fun e => hc (Or.inl e), fun e => hc (Or.inr e)⟩⟩
  have hr : Ring s F := ring_of (n := n) hi (P := fun i => ∃ k, it s k F = some i) (fun i ⟨k, hk⟩ => by
    obtain ⟨x, hx, _, hs⟩ := hgo k
    rw [hk] at hx; cases hx
    cases e : s i with
    | none => exact absurd e hs
    | some j => exact ⟨hn i j e, j, rfl, k + 1, it_next hk e⟩) ⟨0, rfl⟩
  obtain ⟨k, hk, e⟩ := hr
  obtain ⟨x, hx, h1, _⟩ := hgo k
  rw [e] at hx; cases hx
  exact h1 ⟨hk, rfl⟩
/-- All that is reached is reached on the first way around. -/
theorem ring_round {s : PF} {F k : Nat} (hk : 0 < k) (e : it s k F = some F) : ∀ m x, it s m F = some x → ∃ r, r < k ∧ it s r F = some x
  | 0, x, h => ⟨0, hk, h⟩
  | m + 1, x, h => by
    obtain ⟨a, ha, hs⟩ := it_prev h
    obtain ⟨r, hr, er⟩ := ring_round hk e m a ha
    have h1 := it_next er hs
    by_cases e1 : r + 1 = k
    · rw [e1, e] at h1; cases h1
      exact ⟨0, hk, rfl⟩
    · exact ⟨r + 1, by omega, h1⟩
/-- The walk from a place, as long as it stays above. -/
structure Bw (s : PF) (F k p : Nat) : Prop where
  pos : 0 < k
  now : it s k F = some p
  mid : ∀ j x, 0 < j → j < k → it s j F = some x → F < x
theorem Bw.start {s : PF} {F p : Nat} (e : s F = some p) : Bw s F 1 p := ⟨by omega, by rw [it_one]; exact e, fun j x h1 h2 => by omega⟩
theorem Bw.step {s : PF} {F k p q : Nat} (h : Bw s F k p) (hp : F < p) (e : s p = some q) : Bw s F (k + 1) q := by
  refine ⟨by omega, it_next h.now e, fun j x h1 h2 hx => ?_⟩
  by_cases e1 : j = k
  · subst e1; rw [h.now] at hx; cases hx; exact hp
  · exact h.mid j x h1 (by omega) hx
theorem Bw.yes {s : PF} {F k : Nat} (h : Bw s F k F) : Lead s F := by
  refine ⟨⟨k, h.pos, h.now⟩, fun j ⟨m, hm⟩ => ?_⟩
  obtain ⟨r, hr, er⟩ := ring_round h.pos h.now m j hm
  by_cases e : r = 0
  · subst e; cases er; exact Nat.le_refl _
  · exact Nat.le_of_lt (h.mid r j (by omega) hr er)
theorem Bw.low {s : PF} {F k p : Nat} (h : Bw s F k p) (hp : p < F) : ¬ Lead s F := fun hl => by
  have := hl.2 p ⟨k, h.now⟩
  omega
theorem Bw.out {s : PF} {F k p : Nat} (h : Bw s F k p) (e : s p = none) : ¬ Lead s F := fun hl => by
  obtain ⟨x, hx⟩ := (hl.1.back ⟨k, h.now⟩).1.some
  rw [e] at hx; cases hx
/-- What is marked by the walks from the places before k. -/
def Mk (n : Nat) (s : PF) (k : Nat) (m : List Bool) : Prop := ∀ x, x < n → (m.getD x true = true ↔ (s x ≠ none ∧ ∃ j, j < k ∧ Rea s j x))
/-- The walk from F that marks. -/
structure Sw (n : Nat) (s : PF) (F t i : Nat) (m l : List Bool) : Prop where
  len : l.length = n
  now : it s t F = some i
  marks : ∀ x, x < n → (l.getD x true = true ↔ (m.getD x true = true ∨ ∃ j, j < t ∧ it s j F = some x))
  old : 0 < t → m.getD F true = false
  mid : ∀ j, 0 < j → j < t → it s j F ≠ some F
theorem Sw.start {n F : Nat} {s : PF} {m : List Bool} (hm : m.length = n) : Sw n s F 0 F m m :=
  ⟨hm, rfl, fun x _ => ⟨Or.inl, fun h => h.elim id fun ⟨j, hj, _⟩ => by omega⟩, fun h => by omega, fun j h1 h2 => by omega⟩
theorem Sw.step {n F t i q : Nat} {s : PF} {m l : List Bool} (h : Sw n s F t i m l) (hi : i < n) (hl : l.getD i true = false) (e : s i = some q) : Sw n s F (t + 1) q m (l.set i true) := by
  have hiF : i = F → 0 < t → False := fun e1 h0 => by
    subst e1
    have := (h.marks i hi).2 (Or.inr ⟨0, h0, rfl⟩)
    rw [hl] at this; cases this
  refine ⟨by rw [List.length_set]; exact h.len, it_next h.now e, fun x hx => ?_, fun _ => ?_, fun j h1 h2 hj => ?_⟩
  · by_cases ex : x = i
    · subst ex
      refine ⟨fun _ => Or.inr ⟨t, by omega, h.now⟩, fun _ => ?_⟩
      simp [h.len, hx]
    · have e1 : (l.set i true).getD x true = l.getD x true := by
        simp only [List.getD_eq_getElem?_getD]; rw [List.getElem?_set_ne (Ne.symm ex)]
      rw [e1, h.marks x hx]
      refine ⟨fun h => h.elim Or.inl fun ⟨j, hj, ej⟩ => Or.inr ⟨j, by omega, ej⟩, fun h' => h'.elim Or.inl fun ⟨j, hj, ej⟩ => ?_⟩
      by_cases ejt : j = t
      · subst ejt; rw [h.now] at ej; cases ej; exact absurd rfl ex
      · exact Or.inr ⟨j, by omega, ej⟩
  · by_cases ht : 0 < t
    · exact h.old ht
    · obtain rfl : t = 0 := by omega
      have e1 : i = F := by have := h.now; cases this; rfl
      subst e1
      cases hm : m.getD i true
      · rfl
      · have := (h.marks i hi).2 (Or.inl hm)
        rw [hl] at this; cases this
  · by_cases ejt : j = t
    · subst ejt; rw [h.now] at hj; cases hj; exact hiF rfl h1
    · exact h.mid j h1 (by omega) hj
theorem Sw.fin {n F t i : Nat} {s : PF} {m l : List Bool} (hinj : Inj s) (hF : F < n) (hi : i < n) (hm : Mk n s F m) (h : Sw n s F t i m l) (hs : l.getD i true = true ∨ s i = none) : Mk n s (F + 1) l ∧ (Lead s F ↔ (0 < t ∧ i = F)) := by
  have hpull : ∀ j, j < t → it s j F = some i → i = F := fun j hj e => by
    have h1 := inj_pull hinj j t (by omega) e h.now
    by_cases h0 : j = 0
    · subst h0; cases e; rfl
    · exact absurd h1 (h.mid (t - j) (by omega) (by omega))
  have hno : ∀ j, j < F → Rea s j F → ¬ Lead s F := fun j hj hr hl => by
    have h1 := ring_into hinj hl.1 hr
    have h2 := hl.2 j (h1.back hr).2
    omega
  refine ⟨fun x hx => ⟨fun hlx => ?_, fun ⟨hsx, j, hj, hr⟩ => ?_⟩, fun hl => ?_, fun ⟨ht, e⟩ => ?_⟩
  · rcases (h.marks x hx).1 hlx with h1 | ⟨j, hj, ej⟩
    · obtain ⟨h2, j, hj, hr⟩ := (hm x hx).1 h1
      exact ⟨h2, j, by omega, hr⟩
    · refine ⟨fun e => ?_, F, by omega, j, ej⟩
      obtain ⟨y, hy⟩ := it_part h.now (show j + 1 ≤ t by omega)
      rw [it, ej] at hy
      have hy' : s x = some y := hy
      rw [e] at hy'; cases hy'
  · by_cases hjF : j < F
    · exact (h.marks x hx).2 (Or.inl ((hm x hx).2 ⟨hsx, j, hjF, hr⟩))
    · obtain rfl : j = F := by omega
      obtain ⟨r, hr⟩ := hr
      by_cases hrt : r < t
      · exact (h.marks x hx).2 (Or.inr ⟨r, hrt, hr⟩)
      · have hix : it s (r - t) i = some x := by
          have := hr
          rw [show r = t + (r - t) by omega, it_add, h.now] at this
          exact this
        rcases hs with hs | hs
        · rcases (h.marks i hi).1 hs with h1 | ⟨j', hj', ej'⟩
          · obtain ⟨_, j2, hj2, hr2⟩ := (hm i hi).1 h1
            exact (h.marks x hx).2 (Or.inl ((hm x hx).2 ⟨hsx, j2, hj2, hr2.trans ⟨_, hix⟩⟩))
          · have e := hpull j' hj' ej'
            have hnow := h.now
            rw [e] at hnow
            obtain ⟨r', hr', er'⟩ := ring_round (by omega) hnow r x hr
            exact (h.marks x hx).2 (Or.inr ⟨r', hr', er'⟩)
        · by_cases e0 : r - t = 0
          · rw [e0] at hix; cases hix; exact absurd hs hsx
          · rw [show r - t = (r - t - 1) + 1 by omega, it_head, hs] at hix; cases hix
  · have hmF : m.getD F true = true → False := fun e => by
      obtain ⟨_, j, hj, hr⟩ := (hm F hF).1 e
      exact hno j hj hr hl
    have hring := hl.1.back ⟨t, h.now⟩
    have hsi : s i ≠ none := fun e => by
      obtain ⟨x, hx⟩ := hring.1.some
      rw [e] at hx; cases hx
    rcases hs with hs | hs
    · rcases (h.marks i hi).1 hs with h1 | ⟨j, hj, ej⟩
      · obtain ⟨_, j, hj, hr⟩ := (hm i hi).1 h1
        exact absurd hl (hno j hj (hr.trans hring.2))
      · exact ⟨by omega, hpull j hj ej⟩
    · exact absurd hs hsi
  · subst e
    have hr : Ring s i := ⟨t, ht, h.now⟩
    refine ⟨hr, fun j hj => ?_⟩
    apply Classical.byContradiction
    intro hlt
    obtain ⟨x, hx⟩ := hr.some
    have h1 := (hm i hF).2 ⟨by rw [hx]; simp, j, by omega, (hr.back hj).2⟩
    rw [h.old ht] at h1; cases h1
theorem nxt_lt {n : Nat} {a b : Fn} (h : Two n a b) {i x : Nat} (e : nxt n a b i = some x) : x < n ∧ b x = a i := by
  obtain ⟨h1, h2, h3⟩ := nxt_some e
  obtain ⟨p, hp, ep⟩ := h.ab i h1 h2.1
  have := spot_is hp ep
  rw [h3] at this
  exact this
theorem away_to {n : Nat} {a b : Fn} (h : Two n a b) {i x : Nat} (e : nxt n a b i = some x) (h0 : a x ≠ 0) : Away a b x := by
  obtain ⟨h1, h2, h3⟩ := nxt_some e
  obtain ⟨h4, h5⟩ := nxt_lt h e
  have h6 := h.sa.ge x h4
  refine ⟨by omega, fun e' => ?_⟩
  have : x = i := h.sa.inj x i h4 h1 (by omega) (by rw [← e', h5])
  subst this
  exact h2.2 e'
theorem lead_away {n : Nat} {a b : Fn} {i : Nat} (h : Lead (nxt n a b) i) : Away a b i := by
  obtain ⟨x, hx⟩ := h.1.some
  exact (nxt_some hx).2.1
theorem spot_uniq {n : Nat} {b : Fn} (h : Sp n b) {g : Int} {j : Nat} (hj : j < n) (hg : 0 < g) (e : b j = g) : spot n b g = j := by
  obtain ⟨h1, h2⟩ := spot_is hj e
  exact h.inj _ _ h1 hj (by omega) (by omega)
open Classical in
/-- So many. -/
def Is (n : Nat) (P : Nat → Prop) (r : Nat) : Prop := cnt n P = r
open Classical in
theorem Is.zero (P : Nat → Prop) : Is 0 P 0 := cnt_zero P
theorem Is.yes {n r : Nat} {P : Nat → Prop} (h : Is n P r) (hp : P n) : Is (n + 1) P (r + 1) := by
  unfold Is at *; rw [cnt_succ, h, if_pos hp]
theorem Is.no {n r : Nat} {P : Nat → Prop} (h : Is n P r) (hp : ¬ P n) : Is (n + 1) P r := by
  unfold Is at *; rw [cnt_succ, h, if_neg hp, Nat.add_zero]
theorem Is.one {n r q : Nat} {P : Nat → Prop} (h : Is n P r) (h2 : Is n P q) : r = q := by
  unfold Is at *; rw [← h, ← h2]
theorem Is.some (n : Nat) (P : Nat → Prop) : ∃ r, Is n P r := ⟨_, rfl⟩
open Classical in
theorem Is.le {n r : Nat} {P : Nat → Prop} (h : Is n P r) : r ≤ n := by
  unfold Is at h; rw [← h]; exact cnt_all n P
end Go.Proofs.Ytdigcbjkobjdmaa.Mv
