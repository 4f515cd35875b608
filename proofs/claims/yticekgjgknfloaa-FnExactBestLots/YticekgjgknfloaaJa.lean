/-
  Plain facts, of no program: fits, the search for a bin, matchings and the bins that they leave.
-/
import Derived.Test.YticekgjgknfloaaPf
namespace Go.Proofs.Yticekgjgknfloaa.Ma
/-- The bins that each load is told of. -/
def bins (F : List (List Bool)) : Nat := (F.getD 0 []).length
def goodB (F : List (List Bool)) : Bool := decide (F.length ≤ 8) && F.all fun r => decide (r.length = bins F) && decide (r.length ≤ 8)
theorem goodB_len {F : List (List Bool)} (h : goodB F = true) : F.length ≤ 8 := by simp [goodB] at h; exact h.1
theorem goodB_row {F : List (List Bool)} (h : goodB F = true) {l : Nat} (hl : l < F.length) : (F.getD l []).length = bins F := by
  simp [goodB] at h
  have := h.2 F[l] (List.getElem_mem hl)
  simp [hl, this]
theorem goodB_bins {F : List (List Bool)} (h : goodB F = true) : bins F ≤ 8 := by
  by_cases e : F.length = 0
  · have : F = [] := List.length_eq_zero_iff.1 e
    subst this; simp [bins]
  · simp [goodB] at h
    have h0 : 0 < F.length := by omega
    have := h.2 F[0] (List.getElem_mem h0)
    omega
theorem goodB_many {F : List (List Bool)} (h : 8 < F.length) : goodB F = false := by simp [goodB, show ¬ F.length ≤ 8 by omega]
theorem goodB_wide {F : List (List Bool)} (h : 8 < bins F) : goodB F = false := by
  cases e : goodB F
  · rfl
  · have := goodB_bins e; omega
theorem goodB_not {F : List (List Bool)} {l : Nat} (hl : l < F.length) (h : (F.getD l []).length ≠ bins F ∨ 8 < (F.getD l []).length) : goodB F = false := by
  cases e : goodB F
  · rfl
  · have h1 := goodB_row e hl; have h2 := goodB_bins e; omega
theorem goodB_of {F : List (List Bool)} (h : F.length ≤ 8) (h2 : ∀ l, l < F.length → (F.getD l []).length = bins F ∧ (F.getD l []).length ≤ 8) : goodB F = true := by
  simp only [goodB, Bool.and_eq_true, decide_eq_true_eq, List.all_eq_true]
  refine ⟨h, fun r hr => ?_⟩
  obtain ⟨i, hi, rfl⟩ := List.getElem_of_mem hr
  have := h2 i hi
  simpa [hi] using this
/-- Whether load l fits bin b. -/
def fit (F : List (List Bool)) (l b : Nat) : Bool := (F.getD l []).getD b false

/-- A search through the bins from b on, k of them, for load l; rc: the search for the load that has a bin. -/
def scan (F : List (List Bool)) (own : List Int) (rc : Nat → List Bool → Option (List (Nat × Nat)) × List Bool) (l : Nat) : Nat → Nat → List Bool → Option (List (Nat × Nat)) × List Bool
  | _, 0, t => (none, t)
  | b, k + 1, t =>
    if fit F l b && !t.getD b false then
      if own.getD b (-1) < 0 then (some [(l, b)], t.set b true)
      else match rc (own.getD b (-1)).toNat (t.set b true) with
        | (some w, t') => (some ((l, b) :: w), t')
        | (none, t') => scan F own rc l (b + 1) k t'
    else scan F own rc l (b + 1) k t
def srch (F : List (List Bool)) (own : List Int) : Nat → Nat → List Bool → Option (List (Nat × Nat)) × List Bool
  | 0, _, t => (none, t)
  | f + 1, l, t => scan F own (srch F own f) l 0 (bins F) t

/-- How many bins are not tried yet. -/
def left (t : List Bool) : Nat := t.count false
theorem left_set {t : List Bool} {b : Nat} (hb : b < t.length) (h : t.getD b false = false) : left (t.set b true) + 1 = left t := by
  have e : t[b] = false := by simpa [hb] using h
  have hp : 0 < List.count false t := List.count_pos_iff.2 (e ▸ List.getElem_mem hb)
  unfold left
  rw [List.count_set hb]
  simp [e]; omega
theorem left_mono : ∀ {t t' : List Bool}, t'.length = t.length → (∀ b, t.getD b false = true → t'.getD b false = true) → left t' ≤ left t
  | [], t', h, _ => by
    have : t' = [] := List.length_eq_zero_iff.1 h
    subst this; exact Nat.le_refl _
  | x :: t, [], h, _ => by simp at h
  | x :: t, y :: t', h, hm => by
    have ih := left_mono (t := t) (t' := t') (by simpa using h) (fun b hb => by have := hm (b + 1); simp at this; simpa using this (by simpa using hb))
    have h0 := hm 0
    simp at h0
    unfold left at *
    cases x <;> cases y <;> simp_all <;> omega
theorem get_set (t : List Bool) (b c : Nat) (hb : b < t.length) : (t.set b true).getD c false = if c = b then true else t.getD c false := by
  by_cases e : c = b
  · subst e; simp [hb]
  · simp [e, Ne.symm e]

/-- A way: each load takes a bin that it fits, which the next one leaves; the last one is free; no bin twice. -/
inductive Chain (F : List (List Bool)) (own : List Int) : Nat → List (Nat × Nat) → Prop
  | last {l b : Nat} : b < bins F → fit F l b = true → own.getD b (-1) < 0 → Chain F own l [(l, b)]
  | step {l b l' : Nat} {w : List (Nat × Nat)} : b < bins F → fit F l b = true → own.getD b (-1) = (l' : Int) → (∀ q ∈ w, q.2 ≠ b) → Chain F own l' w → Chain F own l ((l, b) :: w)

structure Res (F : List (List Bool)) (own : List Int) (l : Nat) (f : Nat) (b0 : Nat) (t : List Bool) (r : Option (List (Nat × Nat)) × List Bool) : Prop where
  len : r.2.length = t.length
  mono : ∀ b, t.getD b false = true → r.2.getD b false = true
  way : ∀ w, r.1 = some w → Chain F own l w ∧ ∀ p ∈ w, t.getD p.2 false = false
  fail : r.1 = none → left t < f → (∀ b, b0 ≤ b → b < bins F → fit F l b = true → r.2.getD b false = true) ∧ ∀ b, b < bins F → r.2.getD b false = true → t.getD b false = false → 0 ≤ own.getD b (-1) ∧ ∀ b', b' < bins F → fit F (own.getD b (-1)).toNat b' = true → r.2.getD b' false = true

theorem scan_res {F : List (List Bool)} {own : List Int} {f : Nat} {rc : Nat → List Bool → Option (List (Nat × Nat)) × List Bool} (hrc : ∀ l t, t.length = bins F → Res F own l f 0 t (rc l t)) (l : Nat) :
    ∀ (k b : Nat) (t : List Bool), b + k = bins F → t.length = bins F → Res F own l (f + 1) b t (scan F own rc l b k t)
  | 0, b, t, hk, ht => ⟨rfl, fun _ h => h, fun w hw => by simp [scan] at hw, fun _ _ => ⟨fun b' h1 h2 => by omega, fun b' _ h1 h2 => by simp [scan] at h1; simp [h1] at h2⟩⟩
  | k + 1, b, t, hk, ht => by
    unfold scan
    by_cases hc : (fit F l b && !t.getD b false) = true
    · rw [if_pos hc]
      simp only [Bool.and_eq_true, Bool.not_eq_true'] at hc
      obtain ⟨hf, hn⟩ := hc
      have hb : b < t.length := by omega
      have hset : ∀ c, (t.set b true).getD c false = if c = b then true else t.getD c false := fun c => get_set t b c hb
      by_cases ho : own.getD b (-1) < 0
      · rw [if_pos ho]
        refine ⟨by simp, fun c hc => ?_, fun w hw => ?_, fun h => by simp at h⟩
        · simp only [hset]; split <;> simp_all
        · simp at hw; subst hw
          exact ⟨.last (by omega) hf ho, fun p hp => by simp at hp; subst hp; exact hn⟩
      · rw [if_neg ho]
        have R := hrc (own.getD b (-1)).toNat (t.set b true) (by simpa using ht)
        generalize rc (own.getD b (-1)).toNat (t.set b true) = r at R
        obtain ⟨o, t'⟩ := r
        have hm : ∀ c, t.getD c false = true → t'.getD c false = true := fun c h => R.mono c (by rw [hset]; split <;> simp_all)
        have hb' : t'.getD b false = true := R.mono b (by rw [hset]; simp)
        cases o with
        | some w =>
          refine ⟨by have := R.len; simpa using this, hm, fun w' hw' => ?_, fun h => by simp at h⟩
          simp at hw'; subst hw'
          obtain ⟨hc1, hc2⟩ := R.way w rfl
          have hne : ∀ q ∈ w, q.2 ≠ b := fun q hq e => by have := hc2 q hq; rw [e, hset] at this; simp at this
          refine ⟨.step (by omega) hf (by omega) hne hc1, fun p hp => ?_⟩
          rcases List.mem_cons.1 hp with rfl | hp
          · exact hn
          · have := hc2 p hp; rw [hset] at this; simpa [hne p hp] using this
        | none =>
          have hlen : t'.length = bins F := by have := R.len; simp at this; omega
          have S := scan_res hrc l k (b + 1) t' (by omega) hlen
          refine ⟨by rw [S.len]; omega, fun c hc => S.mono c (hm c hc), fun w hw => ?_, fun hN hL => ?_⟩
          · obtain ⟨h1, h2⟩ := S.way w hw
            refine ⟨h1, fun p hp => ?_⟩
            cases hv : t.getD p.2 false
            · rfl
            · have := hm _ hv; rw [h2 p hp] at this; cases this
          · have hl1 := left_set hb hn
            obtain ⟨f1, f2⟩ := R.fail rfl (by omega)
            have hl2 : left t' ≤ left t := left_mono (by omega) hm
            obtain ⟨s1, s2⟩ := S.fail hN (by omega)
            refine ⟨fun c h1 h2 h3 => ?_, fun c hc h1 h2 => ?_⟩
            · by_cases e : c = b
              · subst e; exact S.mono _ hb'
              · exact s1 c (by omega) h2 h3
            · cases hv : t'.getD c false
              · exact s2 c hc h1 hv
              · by_cases e : c = b
                · subst e
                  exact ⟨by omega, fun b' hb2 h4 => S.mono _ (f1 b' (Nat.zero_le _) hb2 h4)⟩
                · obtain ⟨g1, g2⟩ := f2 c hc hv (by rw [hset, if_neg e]; exact h2)
                  exact ⟨g1, fun b' hb2 h4 => S.mono _ (g2 b' hb2 h4)⟩
    · rw [if_neg hc]
      have S := scan_res hrc l k (b + 1) t (by omega) ht
      refine ⟨S.len, S.mono, S.way, fun hN hL => ?_⟩
      obtain ⟨s1, s2⟩ := S.fail hN hL
      refine ⟨fun c h1 h2 h3 => ?_, s2⟩
      by_cases e : c = b
      · subst e
        simp only [Bool.and_eq_true, Bool.not_eq_true', not_and, Bool.not_eq_false] at hc
        exact S.mono _ (hc h3)
      · exact s1 c (by omega) h2 h3
theorem srch_res (F : List (List Bool)) (own : List Int) : ∀ (f l : Nat) (t : List Bool), t.length = bins F → Res F own l f 0 t (srch F own f l t)
  | 0, l, t, _ => ⟨rfl, fun _ h => h, fun w hw => by simp [srch] at hw, fun _ h => by omega⟩
  | f + 1, l, t, ht => scan_res (srch_res F own f) l (bins F) 0 t (by omega) ht
/-- Bins that don't fit, or are tried, are passed over. -/
theorem scan_skip {F : List (List Bool)} {own : List Int} {rc : Nat → List Bool → Option (List (Nat × Nat)) × List Bool} {l : Nat} : ∀ (j k b : Nat) (t : List Bool), (∀ c, b ≤ c → c < b + j → (fit F l c && !t.getD c false) = false) → scan F own rc l b (j + k) t = scan F own rc l (b + j) k t
  | 0, k, b, t, _ => by simp
  | j + 1, k, b, t, h => by
    rw [show j + 1 + k = (j + k) + 1 by omega, scan, if_neg (by rw [h b (by omega) (by omega)]; simp), scan_skip j k (b + 1) t (fun c h1 h2 => h c (by omega) (by omega)), show b + 1 + j = b + (j + 1) by omega]
/-- m tells for each load its bin, own for each bin its load, alike; -1: none. -/
structure MO (F : List (List Bool)) (m own : List Int) : Prop where
  lm : m.length = F.length
  lo : own.length = bins F
  mo : ∀ l b : Nat, l < F.length → b < bins F → m.getD l (-1) = (b : Int) → own.getD b (-1) = (l : Int)
  om : ∀ b : Nat, b < bins F → own.getD b (-1) = -1 ∨ ∃ l : Nat, l < F.length ∧ own.getD b (-1) = (l : Int) ∧ m.getD l (-1) = (b : Int) ∧ fit F l b = true
  mm : ∀ l : Nat, l < F.length → m.getD l (-1) = -1 ∨ ∃ b : Nat, b < bins F ∧ m.getD l (-1) = (b : Int)
/-- Each load of the way takes its bin. -/
def upd (m : List Int) (w : List (Nat × Nat)) : List Int := w.foldl (fun m p => m.set p.1 (p.2 : Int)) m
def oset (own : List Int) : List (Nat × Nat) → List Int
  | [] => own
  | p :: w => (oset own w).set p.2 (p.1 : Int)
theorem upd_len : ∀ (w : List (Nat × Nat)) (m : List Int), (upd m w).length = m.length
  | [], _ => rfl
  | p :: w, m => by show (upd (m.set p.1 _) w).length = _; rw [upd_len w]; simp
theorem oset_len (own : List Int) : ∀ (w : List (Nat × Nat)), (oset own w).length = own.length
  | [] => rfl
  | p :: w => by simp [oset, oset_len own w]
theorem iget_set (m : List Int) (l c : Nat) (x : Int) (hl : l < m.length) : (m.set l x).getD c (-1) = if c = l then x else m.getD c (-1) := by
  by_cases e : c = l
  · subst e; simp [hl]
  · simp [e, Ne.symm e]
theorem upd_other : ∀ (w : List (Nat × Nat)) (m : List Int) (l : Nat), (∀ p ∈ w, p.1 < m.length) → (∀ p ∈ w, p.1 ≠ l) → (upd m w).getD l (-1) = m.getD l (-1)
  | [], _, _, _, _ => rfl
  | p :: w, m, l, hb, h => by
    show (upd (m.set p.1 _) w).getD l _ = _
    rw [upd_other w _ l (fun q hq => by simpa using hb q (List.mem_cons_of_mem _ hq)) (fun q hq => h q (List.mem_cons_of_mem _ hq)), iget_set _ _ _ _ (hb p List.mem_cons_self), if_neg (Ne.symm (h p List.mem_cons_self))]
theorem upd_at : ∀ (w : List (Nat × Nat)) (m : List Int), (∀ p ∈ w, p.1 < m.length) → (w.map Prod.fst).Nodup → ∀ p ∈ w, (upd m w).getD p.1 (-1) = (p.2 : Int)
  | [], _, _, _, p, hp => by simp at hp
  | q :: w, m, hb, hn, p, hp => by
    show (upd (m.set q.1 _) w).getD p.1 _ = _
    have hb' : ∀ r ∈ w, r.1 < (m.set q.1 (q.2 : Int)).length := fun r hr => by simpa using hb r (List.mem_cons_of_mem _ hr)
    simp only [List.map_cons, List.nodup_cons] at hn
    rcases List.mem_cons.1 hp with rfl | hp
    · rw [upd_other w _ p.1 hb' (fun r hr e => hn.1 (List.mem_map.2 ⟨r, hr, e⟩)), iget_set _ _ _ _ (hb p List.mem_cons_self), if_pos rfl]
    · exact upd_at w _ hb' hn.2 p hp
theorem oset_other (own : List Int) : ∀ (w : List (Nat × Nat)) (b : Nat), (∀ p ∈ w, p.2 < own.length) → (∀ p ∈ w, p.2 ≠ b) → (oset own w).getD b (-1) = own.getD b (-1)
  | [], _, _, _ => rfl
  | p :: w, b, hb, h => by
    show ((oset own w).set p.2 _).getD b _ = _
    rw [iget_set _ _ _ _ (by rw [oset_len]; exact hb p List.mem_cons_self), if_neg (Ne.symm (h p List.mem_cons_self)), oset_other own w b (fun q hq => hb q (List.mem_cons_of_mem _ hq)) (fun q hq => h q (List.mem_cons_of_mem _ hq))]
theorem oset_at (own : List Int) : ∀ (w : List (Nat × Nat)), (∀ p ∈ w, p.2 < own.length) → (w.map Prod.snd).Nodup → ∀ p ∈ w, (oset own w).getD p.2 (-1) = (p.1 : Int)
  | [], _, _, p, hp => by simp at hp
  | q :: w, hb, hn, p, hp => by
    show ((oset own w).set q.2 _).getD p.2 _ = _
    simp only [List.map_cons, List.nodup_cons] at hn
    rw [iget_set _ _ _ _ (by rw [oset_len]; exact hb q List.mem_cons_self)]
    rcases List.mem_cons.1 hp with rfl | hp
    · rw [if_pos rfl]
    · rw [if_neg (fun e => hn.1 (List.mem_map.2 ⟨p, hp, e⟩))]
      exact oset_at own w (fun r hr => hb r (List.mem_cons_of_mem _ hr)) hn.2 p hp
theorem Chain.bin {F : List (List Bool)} {own : List Int} {l : Nat} {w : List (Nat × Nat)} (h : Chain F own l w) : ∀ p ∈ w, p.2 < bins F ∧ fit F p.1 p.2 = true := by
  induction h with
  | last h1 h2 h3 => intro p hp; simp at hp; subst hp; exact ⟨h1, h2⟩
  | step h1 h2 h3 h4 h5 ih =>
    intro p hp
    rcases List.mem_cons.1 hp with rfl | hp
    · exact ⟨h1, h2⟩
    · exact ih p hp
theorem Chain.nodup {F : List (List Bool)} {own : List Int} {l : Nat} {w : List (Nat × Nat)} (h : Chain F own l w) : (w.map Prod.snd).Nodup := by
  induction h with
  | last h1 h2 h3 => simp
  | step h1 h2 h3 h4 h5 ih =>
    simp only [List.map_cons, List.nodup_cons]
    refine ⟨fun hm => ?_, ih⟩
    obtain ⟨q, hq, e⟩ := List.mem_map.1 hm
    exact h4 q hq e
theorem Chain.head {F : List (List Bool)} {own : List Int} {l : Nat} {w : List (Nat × Nat)} (h : Chain F own l w) : ∃ b w', w = (l, b) :: w' := by
  cases h with
  | last => exact ⟨_, _, rfl⟩
  | step => exact ⟨_, _, rfl⟩
/-- The bin of each is free or the next one's, and each but the first has a bin of the way. -/
theorem Chain.link {F : List (List Bool)} {own : List Int} {l : Nat} {w : List (Nat × Nat)} (h : Chain F own l w) :
    (∀ p ∈ w, own.getD p.2 (-1) < 0 ∨ ∃ q ∈ w, own.getD p.2 (-1) = (q.1 : Int)) ∧ ∀ q ∈ w, q.1 = l ∨ ∃ p ∈ w, own.getD p.2 (-1) = (q.1 : Int) := by
  induction h with
  | last h1 h2 h3 =>
    refine ⟨fun p hp => ?_, fun q hq => ?_⟩
    · simp at hp; subst hp; exact Or.inl h3
    · simp at hq; subst hq; exact Or.inl rfl
  | @step l b l' w h1 h2 h3 h4 h5 ih =>
    obtain ⟨b', w', rfl⟩ := h5.head
    refine ⟨fun p hp => ?_, fun q hq => ?_⟩
    · rcases List.mem_cons.1 hp with rfl | hp
      · exact Or.inr ⟨(l', b'), List.mem_cons_of_mem _ List.mem_cons_self, h3⟩
      · rcases ih.1 p hp with h | ⟨q, hq, e⟩
        · exact Or.inl h
        · exact Or.inr ⟨q, List.mem_cons_of_mem _ hq, e⟩
    · rcases List.mem_cons.1 hq with rfl | hq
      · exact Or.inl rfl
      · rcases ih.2 q hq with e | ⟨p, hp, e⟩
        · exact Or.inr ⟨(l, b), List.mem_cons_self, by rw [e]; exact h3⟩
        · exact Or.inr ⟨p, List.mem_cons_of_mem _ hp, e⟩
theorem MO.own_bin {F : List (List Bool)} {m own : List Int} (h : MO F m own) {b l : Nat} (hb : b < bins F) (e : own.getD b (-1) = (l : Int)) : l < F.length ∧ m.getD l (-1) = (b : Int) ∧ fit F l b = true := by
  rcases h.om b hb with h1 | ⟨l', hl, e', hm, hf⟩
  · omega
  · have : l = l' := by omega
    subst this; exact ⟨hl, hm, hf⟩
theorem Chain.loads {F : List (List Bool)} {m own : List Int} (hM : MO F m own) {l : Nat} {w : List (Nat × Nat)} (h : Chain F own l w) : (∀ p ∈ w, own.getD p.2 (-1) ≠ (l : Int)) → (w.map Prod.fst).Nodup := by
  induction h with
  | last h1 h2 h3 => intro _; simp
  | @step l b l' w h1 h2 h3 h4 h5 ih =>
    intro hn
    simp only [List.map_cons, List.nodup_cons]
    refine ⟨fun hm => ?_, ih fun p hp e => ?_⟩
    · obtain ⟨q, hq, e⟩ := List.mem_map.1 hm
      rcases h5.link.2 q hq with e2 | ⟨p, hp, e2⟩
      · exact hn (l, b) List.mem_cons_self (by rw [h3, ← e2, e])
      · exact hn p (List.mem_cons_of_mem _ hp) (by rw [e2, e])
    · have a := (hM.own_bin h1 h3).2.1
      have c := (hM.own_bin (h5.bin p hp).1 e).2.1
      exact h4 p hp (by omega)
theorem Chain.lt {F : List (List Bool)} {m own : List Int} (hM : MO F m own) {l : Nat} {w : List (Nat × Nat)} (hl : l < F.length) (h : Chain F own l w) : ∀ p ∈ w, p.1 < F.length := fun p hp => by
  rcases h.link.2 p hp with e | ⟨q, hq, e⟩
  · omega
  · exact (hM.own_bin (h.bin q hq).1 e).1
/-- Behind a way that is taken m and own tell alike again. -/
theorem MO.took {F : List (List Bool)} {m own : List Int} (hM : MO F m own) {l : Nat} {w : List (Nat × Nat)} (hl : l < F.length) (hml : m.getD l (-1) = -1) (h : Chain F own l w) :
    MO F (upd m w) (oset own w) ∧ (upd m w).getD l (-1) ≠ -1 ∧ (∀ l', (upd m w).getD l' (-1) = -1 → m.getD l' (-1) = -1) ∧ (∀ l', l' < F.length → m.getD l' (-1) = -1 → l' ≠ l → (upd m w).getD l' (-1) = -1) ∧ (w.map Prod.fst).Nodup := by
  have hno : ∀ b, b < bins F → own.getD b (-1) ≠ (l : Int) := fun b hb e => by have := (hM.own_bin hb e).2.1; omega
  have hnd := h.loads hM (fun p hp => hno p.2 (h.bin p hp).1)
  have hlt : ∀ p ∈ w, p.1 < m.length := fun p hp => by rw [hM.lm]; exact h.lt hM hl p hp
  have hbt : ∀ p ∈ w, p.2 < own.length := fun p hp => by rw [hM.lo]; exact (h.bin p hp).1
  have ua := upd_at w m hlt hnd
  have uo := fun l' => upd_other w m l' hlt
  have oa := oset_at own w hbt h.nodup
  have oo := fun b => oset_other own w b hbt
  have memL : ∀ l', (∃ p ∈ w, p.1 = l') ∨ ∀ p ∈ w, p.1 ≠ l' := fun l' => by
    by_cases e : ∃ p ∈ w, p.1 = l'
    · exact Or.inl e
    · exact Or.inr fun p hp e' => e ⟨p, hp, e'⟩
  have memB : ∀ b, (∃ p ∈ w, p.2 = b) ∨ ∀ p ∈ w, p.2 ≠ b := fun b => by
    by_cases e : ∃ p ∈ w, p.2 = b
    · exact Or.inl e
    · exact Or.inr fun p hp e' => e ⟨p, hp, e'⟩
  refine ⟨⟨by rw [upd_len, hM.lm], by rw [oset_len, hM.lo], fun l' b hl' hb e => ?_, fun b hb => ?_, fun l' hl' => ?_⟩, ?_, fun l' e => ?_, fun l' hl' e hne => ?_, hnd⟩
  · rcases memL l' with ⟨p, hp, rfl⟩ | hn
    · rw [ua p hp] at e
      have : p.2 = b := by omega
      subst this; exact oa p hp
    · rw [uo l' hn] at e
      have ho := hM.mo l' b hl' hb e
      rw [oo b fun p hp e2 => ?_]
      · exact ho
      · subst e2
        rcases h.link.1 p hp with h1 | ⟨q, hq, h1⟩
        · omega
        · exact hn q hq (by omega)
  · rcases memB b with ⟨p, hp, rfl⟩ | hn
    · exact Or.inr ⟨p.1, h.lt hM hl p hp, oa p hp, ua p hp, (h.bin p hp).2⟩
    · rw [oo b hn]
      rcases hM.om b hb with h1 | ⟨l', hl', e1, e2, e3⟩
      · exact Or.inl h1
      · refine Or.inr ⟨l', hl', e1, ?_, e3⟩
        rw [uo l' fun q hq e => ?_]
        · exact e2
        · subst e
          rcases h.link.2 q hq with e4 | ⟨p, hp, e4⟩
          · rw [e4, hml] at e2; omega
          · have := (hM.own_bin (h.bin p hp).1 e4).2.1
            exact hn p hp (by omega)
  · rcases memL l' with ⟨p, hp, rfl⟩ | hn
    · exact Or.inr ⟨p.2, (h.bin p hp).1, ua p hp⟩
    · rw [uo l' hn]; exact hM.mm l' hl'
  · obtain ⟨b, w', rfl⟩ := h.head
    have := ua (l, b) List.mem_cons_self
    simp only at this
    rw [this]; omega
  · rcases memL l' with ⟨p, hp, rfl⟩ | hn
    · rw [ua p hp] at e; omega
    · rw [uo l' hn] at e; exact e
  · rw [uo l' fun q hq e2 => ?_]
    · exact e
    · subst e2
      rcases h.link.2 q hq with e4 | ⟨p, hp, e4⟩
      · exact hne e4
      · have := (hM.own_bin (h.bin p hp).1 e4).2.1
        omega

/-- What is closed: all of it is owned, and owners fit nothing outside. -/
def Clo (F : List (List Bool)) (own : List Int) (R : Nat → Prop) : Prop := ∀ b, b < bins F → R b → 0 ≤ own.getD b (-1) ∧ ∀ b', b' < bins F → fit F (own.getD b (-1)).toNat b' = true → R b'
theorem Chain.out {F : List (List Bool)} {own : List Int} {R : Nat → Prop} (hR : Clo F own R) {l : Nat} {w : List (Nat × Nat)} (h : Chain F own l w) : ∀ p ∈ w, ¬ R p.2 := by
  induction h with
  | last h1 h2 h3 =>
    intro p hp hr
    simp at hp; subst hp
    have := (hR _ h1 hr).1
    omega
  | @step l b l' w h1 h2 h3 h4 h5 ih =>
    intro p hp hr
    rcases List.mem_cons.1 hp with rfl | hp
    · obtain ⟨b', w', rfl⟩ := h5.head
      have q := h5.bin (l', b') List.mem_cons_self
      have := (hR _ h1 hr).2 b' q.1 (by rw [h3]; exact q.2)
      exact ih (l', b') List.mem_cons_self this
    · exact ih p hp hr
structure Inv (F : List (List Bool)) (k : Nat) (m own : List Int) : Prop where
  mo : MO F m own
  later : ∀ l, k ≤ l → l < F.length → m.getD l (-1) = -1
  clo : ∃ R : Nat → Prop, Clo F own R ∧ ∀ l, l < k → l < F.length → m.getD l (-1) = -1 → ∀ b, b < bins F → fit F l b = true → R b
def none8 (n : Nat) : List Int := List.replicate n (-1)
theorem none8_get (n i : Nat) : (none8 n).getD i (-1) = -1 := by
  unfold none8
  rw [List.getD_eq_getElem?_getD, List.getElem?_replicate]
  split <;> rfl
theorem inv_zero (F : List (List Bool)) : Inv F 0 (none8 F.length) (none8 (bins F)) :=
  ⟨⟨by simp [none8], by simp [none8], fun l b _ _ e => by rw [none8_get] at e; omega, fun b _ => Or.inl (none8_get _ _), fun l _ => Or.inl (none8_get _ _)⟩, fun l _ _ => none8_get _ _, fun _ => False, fun _ _ h => h.elim, fun l hl => by omega⟩
/-- The search for a load, from no bin tried. -/
def look (F : List (List Bool)) (own : List Int) (l : Nat) : Option (List (Nat × Nat)) := (srch F own 9 l (List.replicate (bins F) false)).1
def next (F : List (List Bool)) (s : List Int × List Int) (l : Nat) : List Int × List Int :=
  match look F s.2 l with
  | some w => (upd s.1 w, oset s.2 w)
  | none => s
def upto (F : List (List Bool)) : Nat → List Int × List Int
  | 0 => (none8 F.length, none8 (bins F))
  | k + 1 => next F (upto F k) k
theorem left_new (n : Nat) : left (List.replicate n false) = n := by simp [left]
theorem inv_next {F : List (List Bool)} (hG : bins F ≤ 8) {k : Nat} {s : List Int × List Int} (hk : k < F.length) (h : Inv F k s.1 s.2) : Inv F (k + 1) (next F s k).1 (next F s k).2 := by
  have R := srch_res F s.2 9 k (List.replicate (bins F) false) (by simp)
  unfold next look
  generalize srch F s.2 9 k (List.replicate (bins F) false) = r at R
  obtain ⟨o, t'⟩ := r
  cases o with
  | some w =>
    obtain ⟨hc, _⟩ := R.way w rfl
    obtain ⟨t1, t2, t3, t4, t5⟩ := h.mo.took hk (h.later k (Nat.le_refl _) hk) hc
    refine ⟨t1, fun l h1 h2 => t4 l h2 (h.later l (by omega) h2) (by omega), ?_⟩
    obtain ⟨Q, hQ, hU⟩ := h.clo
    refine ⟨Q, fun b hb hr => ?_, fun l h1 h2 h3 => ?_⟩
    · have e : (oset s.2 w).getD b (-1) = s.2.getD b (-1) := oset_other s.2 w b (fun p hp => by rw [h.mo.lo]; exact (hc.bin p hp).1) fun p hp e => hc.out hQ p hp (e ▸ hr)
      show 0 ≤ (oset s.2 w).getD b (-1) ∧ ∀ b', b' < bins F → fit F ((oset s.2 w).getD b (-1)).toNat b' = true → Q b'
      rw [e]
      exact hQ b hb hr
    · have h3' : (upd s.1 w).getD l (-1) = -1 := h3
      by_cases e : l = k
      · subst e; exact absurd h3' t2
      · exact hU l (by omega) h2 (t3 l h3')
  | none =>
    obtain ⟨f1, f2⟩ := R.fail rfl (by rw [left_new]; omega)
    refine ⟨h.mo, fun l h1 h2 => h.later l (by omega) h2, ?_⟩
    obtain ⟨Q, hQ, hU⟩ := h.clo
    refine ⟨fun b => Q b ∨ t'.getD b false = true, fun b hb hr => ?_, fun l h1 h2 h3 b hb hf => ?_⟩
    · rcases hr with hr | hr
      · exact ⟨(hQ b hb hr).1, fun b' h1 h2 => Or.inl ((hQ b hb hr).2 b' h1 h2)⟩
      · have := f2 b hb hr (by rw [List.getD_eq_getElem?_getD, List.getElem?_replicate]; split <;> rfl)
        exact ⟨this.1, fun b' h1 h2 => Or.inr (this.2 b' h1 h2)⟩
    · by_cases e : l = k
      · subst e; exact Or.inr (f1 b (Nat.zero_le _) hb hf)
      · exact Or.inl (hU l (by omega) h2 h3 b hb hf)
theorem inv_upto {F : List (List Bool)} (hG : bins F ≤ 8) : ∀ k, k ≤ F.length → Inv F k (upto F k).1 (upto F k).2
  | 0, _ => inv_zero F
  | k + 1, h => inv_next hG (by omega) (inv_upto hG k (by omega))
/-- The matching, and each bin's load. -/
def mat (F : List (List Bool)) : List Int := (upto F F.length).1
def own (F : List (List Bool)) : List Int := (upto F F.length).2
theorem inv_mat {F : List (List Bool)} (h : goodB F = true) : Inv F F.length (mat F) (own F) := inv_upto (goodB_bins h) _ (Nat.le_refl _)
/-- What the bins below k tell of m. -/
def part (m : List Int) (k : Nat) : List Int := m.map fun x => if x < (k : Int) then x else -1
theorem part_len (m : List Int) (k : Nat) : (part m k).length = m.length := by simp [part]
theorem part_get (m : List Int) (k l : Nat) : (part m k).getD l (-1) = if m.getD l (-1) < (k : Int) then m.getD l (-1) else -1 := by
  unfold part
  by_cases h : l < m.length
  · simp [h]
  · simp [show m.length ≤ l by omega]
theorem ext_get {a b : List Int} (hl : a.length = b.length) (h : ∀ i, i < a.length → a.getD i (-1) = b.getD i (-1)) : a = b := by
  apply List.ext_getElem hl
  intro i h1 h2
  have := h i h1
  simpa [h1, h2] using this
theorem part_zero {F : List (List Bool)} {m own : List Int} (h : MO F m own) : part m 0 = none8 F.length := by
  apply ext_get
  · rw [part_len, h.lm]; simp [none8]
  · intro i hi
    rw [part_len, h.lm] at hi
    rw [part_get, none8_get]
    rcases h.mm i hi with e | ⟨b, hb, e⟩
    · rw [e]; simp
    · rw [e]; simp
theorem part_all {F : List (List Bool)} {m own : List Int} (h : MO F m own) : part m (bins F) = m := by
  apply ext_get
  · rw [part_len]
  · intro i hi
    rw [part_len, h.lm] at hi
    rw [part_get]
    rcases h.mm i hi with e | ⟨b, hb, e⟩
    · rw [e]; simp
    · rw [e, if_pos (by omega)]
theorem part_none {F : List (List Bool)} {m own : List Int} (h : MO F m own) {k : Nat} (hk : k < bins F) (e : own.getD k (-1) = -1) : part m (k + 1) = part m k := by
  apply ext_get
  · rw [part_len, part_len]
  · intro i hi
    rw [part_len, h.lm] at hi
    rw [part_get, part_get]
    have : m.getD i (-1) ≠ (k : Int) := fun e' => by have := h.mo i k hi hk e'; omega
    split <;> split <;> omega
theorem part_some {F : List (List Bool)} {m own : List Int} (h : MO F m own) {k l : Nat} (hk : k < bins F) (e : own.getD k (-1) = (l : Int)) : (part m k).set l (k : Int) = part m (k + 1) := by
  obtain ⟨h1, h2, _⟩ := h.own_bin hk e
  apply ext_get
  · simp [part_len]
  · intro i hi
    simp only [List.length_set, part_len, h.lm] at hi
    rw [iget_set _ _ _ _ (by rw [part_len, h.lm]; exact h1), part_get, part_get]
    by_cases c : i = l
    · subst c; rw [if_pos rfl, h2, if_pos (by omega)]
    · rw [if_neg c]
      have : m.getD i (-1) ≠ (k : Int) := fun e' => by have := h.mo i k hi hk e'; omega
      split <;> split <;> omega
/-- The first place of a bin in m is its owner. -/
theorem MO.first {F : List (List Bool)} {m own : List Int} (h : MO F m own) {b : Nat} (hb : b < bins F) :
    (own.getD b (-1) = -1 ∧ ∀ l, l < m.length → m.getD l (-1) ≠ (b : Int)) ∨ ∃ l, l < m.length ∧ own.getD b (-1) = (l : Int) ∧ m.getD l (-1) = (b : Int) ∧ ∀ l', l' < m.length → m.getD l' (-1) = (b : Int) → l' = l := by
  rcases h.om b hb with e | ⟨l, hl, e1, e2, _⟩
  · exact Or.inl ⟨e, fun l hl e2 => by have := h.mo l b (by rw [← h.lm]; exact hl) hb e2; omega⟩
  · exact Or.inr ⟨l, by rw [h.lm]; exact hl, e1, e2, fun l' hl' e3 => by have := h.mo l' b (by rw [← h.lm]; exact hl') hb e3; omega⟩
end Go.Proofs.Yticekgjgknfloaa.Ma
