/-
  In one: Ja, Jb, Fr13, Kg, Ki, As13, Fa13, Fb13, Fd13, Fz13, Fe13.
-/
import Derived.Test.YtnepjahhconodaaY1
import Derived.BigQuiet
import Derived.BigRegion
namespace Go.Proofs.Ytnepjahhconodaa.Ma
/-- The bins that each load is told of. -/
def bins (F : List (List Bool)) : Nat := (F.getD 0 []).length
def goodB (F : List (List Bool)) : Bool := decide (F.length ≤ 8) && F.all fun r => decide (r.length = bins F) && decide (r.length ≤ 8)
theorem goodB_len {F : List (List Bool)} (h : goodB F = true) : F.length ≤ 8 := by simp [goodB] at h; exact h.1
theorem goodB_row {F : List (List Bool)} (h : goodB F = true) {l : Nat} (hl : l < F.length) : (F.getD l []).length = bins F := by
  simp [goodB] at h
  have := h.2 F[l] (List.getElem_mem hl)
  simp [hl, this]
theorem goodB_bins {F : List (List Bool)} (h : goodB F = true) : bins F ≤ 8 := by
  by_cases e : F.length = 0
  · have : F = [] := List.length_eq_zero_iff.1 e
    subst this; simp [bins]
  · simp [goodB] at h
    have h0 : 0 < F.length := by omega
    have := h.2 F[0] (List.getElem_mem h0)
    omega
theorem goodB_many {F : List (List Bool)} (h : 8 < F.length) : goodB F = false := by simp [goodB, show ¬ F.length ≤ 8 by omega]
theorem goodB_wide {F : List (List Bool)} (h : 8 < bins F) : goodB F = false := by
  cases e : goodB F
  · rfl
  · have := goodB_bins e; omega
theorem goodB_not {F : List (List Bool)} {l : Nat} (hl : l < F.length) (h : (F.getD l []).length ≠ bins F ∨ 8 < (F.getD l []).length) : goodB F = false := by
  cases e : goodB F
  · rfl
  · have h1 := goodB_row e hl; have h2 := goodB_bins e; omega
theorem goodB_of {F : List (List Bool)} (h : F.length ≤ 8) (h2 : ∀ l, l < F.length → (F.getD l []).length = bins F ∧ (F.getD l []).length ≤ 8) : goodB F = true := by
  simp only [goodB, Bool.and_eq_true, decide_eq_true_eq, List.all_eq_true]
  refine ⟨h, fun r hr => ?_⟩
  obtain ⟨i, hi, rfl⟩ := List.getElem_of_mem hr
  have := h2 i hi
  simpa [hi] using this
/-- Whether load l fits bin b. -/
def fit (F : List (List Bool)) (l b : Nat) : Bool := (F.getD l []).getD b false

/-- A search through the bins from b on, k of them, for load l; rc: the search for the load that has a bin. -/
def scan (F : List (List Bool)) (own : List Int) (rc : Nat → List Bool → Option (List (Nat × Nat)) × List Bool) (l : Nat) : Nat → Nat → List Bool → Option (List (Nat × Nat)) × List Bool
  | _, 0, t => (none, t)
  | b, k + 1, t =>
    if fit F l b && !t.getD b false then
      if own.getD b (-1) < 0 then (some [(l, b)], t.set b true)
      else match rc (own.getD b (-1)).toNat (t.set b true) with
        | (some w, t') => (some ((l, b) :: w), t')
        | (none, t') => scan F own rc l (b + 1) k t'
    else scan F own rc l (b + 1) k t
def srch (F : List (List Bool)) (own : List Int) : Nat → Nat → List Bool → Option (List (Nat × Nat)) × List Bool
  | 0, _, t => (none, t)
  | f + 1, l, t => scan F own (srch F own f) l 0 (bins F) t

/-- How many bins are not tried yet. -/
def left (t : List Bool) : Nat := t.count false
theorem left_set {t : List Bool} {b : Nat} (hb : b < t.length) (h : t.getD b false = false) : left (t.set b true) + 1 = left t := by
  have e : t[b] = false := by simpa [hb] using h
  have hp : 0 < List.count false t := List.count_pos_iff.2 (e ▸ List.getElem_mem hb)
  unfold left
  rw [List.count_set hb]
  simp [e]; omega
theorem left_mono : ∀ {t t' : List Bool}, t'.length = t.length → (∀ b, t.getD b false = true → t'.getD b false = true) → left t' ≤ left t
  | [], t', h, _ => by
    have : t' = [] := List.length_eq_zero_iff.1 h
    subst this; exact Nat.le_refl _
  | x :: t, [], h, _ => by simp at h
  | x :: t, y :: t', h, hm => by
    have ih := left_mono (t := t) (t' := t') (by simpa using h) (fun b hb => by have := hm (b + 1); simp at this; simpa using this (by simpa using hb))
    have h0 := hm 0
    simp at h0
    unfold left at *
    cases x <;> cases y <;> simp_all <;> omega
theorem get_set (t : List Bool) (b c : Nat) (hb : b < t.length) : (t.set b true).getD c false = if c = b then true else t.getD c false := by
  by_cases e : c = b
  · subst e; simp [hb]
  · simp [e, Ne.symm e]

/-- A way: each load takes a bin that it fits, which the next one leaves; the last one is free; no bin twice. -/
inductive Chain (F : List (List Bool)) (own : List Int) : Nat → List (Nat × Nat) → Prop
  | last {l b : Nat} : b < bins F → fit F l b = true → own.getD b (-1) < 0 → Chain F own l [(l, b)]
  | step {l b l' : Nat} {w : List (Nat × Nat)} : b < bins F → fit F l b = true → own.getD b (-1) = (l' : Int) → (∀ q ∈ w, q.2 ≠ b) → Chain F own l' w → Chain F own l ((l, b) :: w)

structure Res (F : List (List Bool)) (own : List Int) (l : Nat) (f : Nat) (b0 : Nat) (t : List Bool) (r : Option (List (Nat × Nat)) × List Bool) : Prop where
  len : r.2.length = t.length
  mono : ∀ b, t.getD b false = true → r.2.getD b false = true
  way : ∀ w, r.1 = some w → Chain F own l w ∧ ∀ p ∈ w, t.getD p.2 false = false
  fail : r.1 = none → left t < f → (∀ b, b0 ≤ b → b < bins F → fit F l b = true → r.2.getD b false = true) ∧ ∀ b, b < bins F → r.2.getD b false = true → t.getD b false = false → 0 ≤ own.getD b (-1) ∧ ∀ b', b' < bins F → fit F (own.getD b (-1)).toNat b' = true → r.2.getD b' false = true

theorem scan_res {F : List (List Bool)} {own : List Int} {f : Nat} {rc : Nat → List Bool → Option (List (Nat × Nat)) × List Bool} (hrc : ∀ l t, t.length = bins F → Res F own l f 0 t (rc l t)) (l : Nat) :
    ∀ (k b : Nat) (t : List Bool), b + k = bins F → t.length = bins F → Res F own l (f + 1) b t (scan F own rc l b k t)
  | 0, b, t, hk, ht => ⟨rfl, fun _ h => h, fun w hw => by simp [scan] at hw, fun _ _ => ⟨fun b' h1 h2 => by omega, fun b' _ h1 h2 => by simp [scan] at h1; simp [h1] at h2⟩⟩
  | k + 1, b, t, hk, ht => by
    unfold scan
    by_cases hc : (fit F l b && !t.getD b false) = true
    · rw [if_pos hc]
      simp only [Bool.and_eq_true, Bool.not_eq_true'] at hc
      obtain ⟨hf, hn⟩ := hc
      have hb : b < t.length := by omega
      have hset : ∀ c, (t.set b true).getD c false = if c = b then true else t.getD c false := fun c => get_set t b c hb
      by_cases ho : own.getD b (-1) < 0
      · rw [if_pos ho]
        refine ⟨by simp, fun c hc => ?_, fun w hw => ?_, fun h => by simp at h⟩
        · simp only [hset]; split <;> simp_all
        · simp at hw; subst hw
          exact ⟨.last (by omega) hf ho, fun p hp => by simp at hp; subst hp; exact hn⟩
      · rw [if_neg ho]
        have R := hrc (own.getD b (-1)).toNat (t.set b true) (by simpa using ht)
        generalize rc (own.getD b (-1)).toNat (t.set b true) = r at R
        obtain ⟨o, t'⟩ := r
        have hm : ∀ c, t.getD c false = true → t'.getD c false = true := fun c h => R.mono c (by rw [hset]; split <;> simp_all)
        have hb' : t'.getD b false = true := R.mono b (by rw [hset]; simp)
        cases o with
        | some w =>
          refine ⟨by have := R.len; simpa using this, hm, fun w' hw' => ?_, fun h => by simp at h⟩
          simp at hw'; subst hw'
          obtain ⟨hc1, hc2⟩ := R.way w rfl
          have hne : ∀ q ∈ w, q.2 ≠ b := fun q hq e => by have := hc2 q hq; rw [e, hset] at this; simp at this
          refine ⟨.step (by omega) hf (by omega) hne hc1, fun p hp => ?_⟩
          rcases List.mem_cons.1 hp with rfl | hp
          · exact hn
          · have := hc2 p hp; rw [hset] at this; simpa [hne p hp] using this
        | none =>
          have hlen : t'.length = bins F := by have := R.len; simp at this; omega
          have S := scan_res hrc l k (b + 1) t' (by omega) hlen
          refine ⟨by rw [S.len]; omega, fun c hc => S.mono c (hm c hc), fun w hw => ?_, fun hN hL => ?_⟩
          · obtain ⟨h1, h2⟩ := S.way w hw
            refine ⟨h1, fun p hp => ?_⟩
            cases hv : t.getD p.2 false
            · rfl
            · have := hm _ hv; rw [h2 p hp] at this; cases this
          · have hl1 := left_set hb hn
            obtain ⟨f1, f2⟩ := R.fail rfl (by omega)
            have hl2 : left t' ≤ left t := left_mono (by omega) hm
            obtain ⟨s1, s2⟩ := S.fail hN (by omega)
            refine ⟨fun c h1 h2 h3 => ?_, fun c hc h1 h2 => ?_⟩
            · by_cases e : c = b
              · subst e; exact S.mono _ hb'
              · exact s1 c (by omega) h2 h3
            · cases hv : t'.getD c false
              · exact s2 c hc h1 hv
              · by_cases e : c = b
                · subst e
                  exact ⟨by omega, fun b' hb2 h4 => S.mono _ (f1 b' (Nat.zero_le _) hb2 h4)⟩
                · obtain ⟨g1, g2⟩ := f2 c hc hv (by rw [hset, if_neg e]; exact h2)
                  exact ⟨g1, fun b' hb2 h4 => S.mono _ (g2 b' hb2 h4)⟩
    · rw [if_neg hc]
      have S := scan_res hrc l k (b + 1) t (by omega) ht
      refine ⟨S.len, S.mono, S.way, fun hN hL => ?_⟩
      obtain ⟨s1, s2⟩ := S.fail hN hL
      refine ⟨fun c h1 h2 h3 => ?_, s2⟩
      by_cases e : c = b
      · subst e
        simp only [Bool.and_eq_true, Bool.not_eq_true', not_and, Bool.not_eq_false] at hc
        exact S.mono _ (hc h3)
      · exact s1 c (by omega) h2 h3
theorem srch_res (F : List (List Bool)) (own : List Int) : ∀ (f l : Nat) (t : List Bool), t.length = bins F → Res F own l f 0 t (srch F own f l t)
  | 0, l, t, _ => ⟨rfl, fun _ h => h, fun w hw => by simp [srch] at hw, fun _ h => by omega⟩
  | f + 1, l, t, ht => scan_res (srch_res F own f) l (bins F) 0 t (by omega) ht
/-- Bins that don't fit, or are tried, are passed over. -/
theorem scan_skip {F : List (List Bool)} {own : List Int} {rc : Nat → List Bool → Option (List (Nat × Nat)) × List Bool} {l : Nat} : ∀ (j k b : Nat) (t : List Bool), (∀ c, b ≤ c → c < b + j → (fit F l c && !t.getD c false) = false) → scan F own rc l b (j + k) t = scan F own rc l (b + j) k t
  | 0, k, b, t, _ => by simp
  | j + 1, k, b, t, h => by
    rw [show j + 1 + k = (j + k) + 1 by omega, scan, if_neg (by rw [h b (by omega) (by omega)]; simp), scan_skip j k (b + 1) t (fun c h1 h2 => h c (by omega) (by omega)), show b + 1 + j = b + (j + 1) by omega]
/-- m tells for each load its bin, own for each bin its load, alike; -1: none. -/
structure MO (F : List (List Bool)) (m own : List Int) : Prop where
  lm : m.length = F.length
  lo : own.length = bins F
  mo : ∀ l b : Nat, l < F.length → b < bins F → m.getD l (-1) = (b : Int) → own.getD b (-1) = (l : Int)
  om : ∀ b : Nat, b < bins F → own.getD b (-1) = -1 ∨ ∃ l : Nat, l < F.length ∧ own.getD b (-1) = (l : Int) ∧ m.getD l (-1) = (b : Int) ∧ fit F l b = true
  mm : ∀ l : Nat, l < F.length → m.getD l (-1) = -1 ∨ ∃ b : Nat, b < bins F ∧ m.getD l (-1) = (b : Int)
/-- Each load of the way takes its bin. -/
def upd (m : List Int) (w : List (Nat × Nat)) : List Int := w.foldl (fun m p => m.set p.1 (p.2 : Int)) m
def oset (own : List Int) : List (Nat × Nat) → List Int
  | [] => own
  | p :: w => (oset own w).set p.2 (p.1 : Int)
theorem upd_len : ∀ (w : List (Nat × Nat)) (m : List Int), (upd m w).length = m.length
  | [], _ => rfl
  | p :: w, m => by show (upd (m.set p.1 _) w).length = _; rw [upd_len w]; simp
theorem oset_len (own : List Int) : ∀ (w : List (Nat × Nat)), (oset own w).length = own.length
  | [] => rfl
  | p :: w => by simp [oset, oset_len own w]
theorem iget_set (m : List Int) (l c : Nat) (x : Int) (hl : l < m.length) : (m.set l x).getD c (-1) = if c = l then x else m.getD c (-1) := by
  by_cases e : c = l
  · subst e; simp [hl]
  · simp [e, Ne.symm e]
theorem upd_other : ∀ (w : List (Nat × Nat)) (m : List Int) (l : Nat), (∀ p ∈ w, p.1 < m.length) → (∀ p ∈ w, p.1 ≠ l) → (upd m w).getD l (-1) = m.getD l (-1)
  | [], _, _, _, _ => rfl
  | p :: w, m, l, hb, h => by
    show (upd (m.set p.1 _) w).getD l _ = _
    rw [upd_other w _ l (fun q hq => by simpa using hb q (List.mem_cons_of_mem _ hq)) (fun q hq => h q (List.mem_cons_of_mem _ hq)), iget_set _ _ _ _ (hb p List.mem_cons_self), if_neg (Ne.symm (h p List.mem_cons_self))]
theorem upd_at : ∀ (w : List (Nat × Nat)) (m : List Int), (∀ p ∈ w, p.1 < m.length) → (w.map Prod.fst).Nodup → ∀ p ∈ w, (upd m w).getD p.1 (-1) = (p.2 : Int)
  | [], _, _, _, p, hp => by simp at hp
  | q :: w, m, hb, hn, p, hp => by
    show (upd (m.set q.1 _) w).getD p.1 _ = _
    have hb' : ∀ r ∈ w, r.1 < (m.set q.1 (q.2 : Int)).length := fun r hr => by simpa using hb r (List.mem_cons_of_mem _ hr)
    simp only [List.map_cons, List.nodup_cons] at hn
    rcases List.mem_cons.1 hp with rfl | hp
    · rw [upd_other w _ p.1 hb' (fun r hr e => hn.1 (List.mem_map.2 ⟨r, hr, e⟩)), iget_set _ _ _ _ (hb p List.mem_cons_self), if_pos rfl]
    · exact upd_at w _ hb' hn.2 p hp
theorem oset_other (own : List Int) : ∀ (w : List (Nat × Nat)) (b : Nat), (∀ p ∈ w, p.2 < own.length) → (∀ p ∈ w, p.2 ≠ b) → (oset own w).getD b (-1) = own.getD b (-1)
  | [], _, _, _ => rfl
  | p :: w, b, hb, h => by
    show ((oset own w).set p.2 _).getD b _ = _
    rw [iget_set _ _ _ _ (by rw [oset_len]; exact hb p List.mem_cons_self), if_neg (Ne.symm (h p List.mem_cons_self)), oset_other own w b (fun q hq => hb q (List.mem_cons_of_mem _ hq)) (fun q hq => h q (List.mem_cons_of_mem _ hq))]
theorem oset_at (own : List Int) : ∀ (w : List (Nat × Nat)), (∀ p ∈ w, p.2 < own.length) → (w.map Prod.snd).Nodup → ∀ p ∈ w, (oset own w).getD p.2 (-1) = (p.1 : Int)
  | [], _, _, p, hp => by simp at hp
  | q :: w, hb, hn, p, hp => by
    show ((oset own w).set q.2 _).getD p.2 _ = _
    simp only [List.map_cons, List.nodup_cons] at hn
    rw [iget_set _ _ _ _ (by rw [oset_len]; exact hb q List.mem_cons_self)]
    rcases List.mem_cons.1 hp with rfl | hp
    · rw [if_pos rfl]
    · rw [if_neg (fun e => hn.1 (List.mem_map.2 ⟨p, hp, e⟩))]
      exact oset_at own w (fun r hr => hb r (List.mem_cons_of_mem _ hr)) hn.2 p hp
theorem Chain.bin {F : List (List Bool)} {own : List Int} {l : Nat} {w : List (Nat × Nat)} (h : Chain F own l w) : ∀ p ∈ w, p.2 < bins F ∧ fit F p.1 p.2 = true := by
  induction h with
  | last h1 h2 h3 => intro p hp; simp at hp; subst hp; exact ⟨h1, h2⟩
  | step h1 h2 h3 h4 h5 ih =>
    intro p hp
    rcases List.mem_cons.1 hp with rfl | hp
    · exact ⟨h1, h2⟩
    · exact ih p hp
theorem Chain.nodup {F : List (List Bool)} {own : List Int} {l : Nat} {w : List (Nat × Nat)} (h : Chain F own l w) : (w.map Prod.snd).Nodup := by
  induction h with
  | last h1 h2 h3 => simp
  | step h1 h2 h3 h4 h5 ih =>
    simp only [List.map_cons, List.nodup_cons]
    refine ⟨fun hm => ?_, ih⟩
    obtain ⟨q, hq, e⟩ := List.mem_map.1 hm
    exact h4 q hq e
theorem Chain.head {F : List (List Bool)} {own : List Int} {l : Nat} {w : List (Nat × Nat)} (h : Chain F own l w) : ∃ b w', w = (l, b) :: w' := by
  cases h with
  | last => exact ⟨_, _, rfl⟩
  | step => exact ⟨_, _, rfl⟩
/-- The bin of each is free or the next one's, and each but the first has a bin of the way. -/
theorem Chain.link {F : List (List Bool)} {own : List Int} {l : Nat} {w : List (Nat × Nat)} (h : Chain F own l w) :
    (∀ p ∈ w, own.getD p.2 (-1) < 0 ∨ ∃ q ∈ w, own.getD p.2 (-1) = (q.1 : Int)) ∧ ∀ q ∈ w, q.1 = l ∨ ∃ p ∈ w, own.getD p.2 (-1) = (q.1 : Int) := by
  induction h with
  | last h1 h2 h3 =>
    refine ⟨fun p hp => ?_, fun q hq => ?_⟩
    · simp at hp; subst hp; exact Or.inl h3
    · simp at hq; subst hq; exact Or.inl rfl
  | @step l b l' w h1 h2 h3 h4 h5 ih =>
    obtain ⟨b', w', rfl⟩ := h5.head
    refine ⟨fun p hp => ?_, fun q hq => ?_⟩
    · rcases List.mem_cons.1 hp with rfl | hp
      · exact Or.inr ⟨(l', b'), List.mem_cons_of_mem _ List.mem_cons_self, h3⟩
      · rcases ih.1 p hp with h | ⟨q, hq, e⟩
        · exact Or.inl h
        · exact Or.inr ⟨q, List.mem_cons_of_mem _ hq, e⟩
    · rcases List.mem_cons.1 hq with rfl | hq
      · exact Or.inl rfl
      · rcases ih.2 q hq with e | ⟨p, hp, e⟩
        · exact Or.inr ⟨(l, b), List.mem_cons_self, by rw [e]; exact h3⟩
        · exact Or.inr ⟨p, List.mem_cons_of_mem _ hp, e⟩
theorem MO.own_bin {F : List (List Bool)} {m own : List Int} (h : MO F m own) {b l : Nat} (hb : b < bins F) (e : own.getD b (-1) = (l : Int)) : l < F.length ∧ m.getD l (-1) = (b : Int) ∧ fit F l b = true := by
  rcases h.om b hb with h1 | ⟨l', hl, e', hm, hf⟩
  · omega
  · have : l = l' := by omega
    subst this; exact ⟨hl, hm, hf⟩
theorem Chain.loads {F : List (List Bool)} {m own : List Int} (hM : MO F m own) {l : Nat} {w : List (Nat × Nat)} (h : Chain F own l w) : (∀ p ∈ w, own.getD p.2 (-1) ≠ (l : Int)) → (w.map Prod.fst).Nodup := by
  induction h with
  | last h1 h2 h3 => intro _; simp
  | @step l b l' w h1 h2 h3 h4 h5 ih =>
    intro hn
    simp only [List.map_cons, List.nodup_cons]
    refine ⟨fun hm => ?_, ih fun p hp e => ?_⟩
    · obtain ⟨q, hq, e⟩ := List.mem_map.1 hm
      rcases h5.link.2 q hq with e2 | ⟨p, hp, e2⟩
      · exact hn (l, b) List.mem_cons_self (by rw [h3, ← e2, e])
      · exact hn p (List.mem_cons_of_mem _ hp) (by rw [e2, e])
    · have a := (hM.own_bin h1 h3).2.1
      have c := (hM.own_bin (h5.bin p hp).1 e).2.1
      exact h4 p hp (by omega)
theorem Chain.lt {F : List (List Bool)} {m own : List Int} (hM : MO F m own) {l : Nat} {w : List (Nat × Nat)} (hl : l < F.length) (h : Chain F own l w) : ∀ p ∈ w, p.1 < F.length := fun p hp => by
  rcases h.link.2 p hp with e | ⟨q, hq, e⟩
  · omega
  · exact (hM.own_bin (h.bin q hq).1 e).1
/-- Behind a way that is taken m and own tell alike again. -/
theorem MO.took {F : List (List Bool)} {m own : List Int} (hM : MO F m own) {l : Nat} {w : List (Nat × Nat)} (hl : l < F.length) (hml : m.getD l (-1) = -1) (h : Chain F own l w) :
    MO F (upd m w) (oset own w) ∧ (upd m w).getD l (-1) ≠ -1 ∧ (∀ l', (upd m w).getD l' (-1) = -1 → m.getD l' (-1) = -1) ∧ (∀ l', l' < F.length → m.getD l' (-1) = -1 → l' ≠ l → (upd m w).getD l' (-1) = -1) ∧ (w.map Prod.fst).Nodup := by
  have hno : ∀ b, b < bins F → own.getD b (-1) ≠ (l : Int) := fun b hb e => by have := (hM.own_bin hb e).2.1; omega
  have hnd := h.loads hM (fun p hp => hno p.2 (h.bin p hp).1)
  have hlt : ∀ p ∈ w, p.1 < m.length := fun p hp => by rw [hM.lm]; exact h.lt hM hl p hp
  have hbt : ∀ p ∈ w, p.2 < own.length := fun p hp => by rw [hM.lo]; exact (h.bin p hp).1
  have ua := upd_at w m hlt hnd
  have uo := fun l' => upd_other w m l' hlt
  have oa := oset_at own w hbt h.nodup
  have oo := fun b => oset_other own w b hbt
  have memL : ∀ l', (∃ p ∈ w, p.1 = l') ∨ ∀ p ∈ w, p.1 ≠ l' := fun l' => by
    by_cases e : ∃ p ∈ w, p.1 = l'
    · exact Or.inl e
    · exact Or.inr fun p hp e' => e ⟨p, hp, e'⟩
  have memB : ∀ b, (∃ p ∈ w, p.2 = b) ∨ ∀ p ∈ w, p.2 ≠ b := fun b => by
    by_cases e : ∃ p ∈ w, p.2 = b
    · exact Or.inl e
    · exact Or.inr fun p hp e' => e ⟨p, hp, e'⟩
  refine ⟨⟨by rw [upd_len, hM.lm], by rw [oset_len, hM.lo], fun l' b hl' hb e => ?_, fun b hb => ?_, fun l' hl' => ?_⟩, ?_, fun l' e => ?_, fun l' hl' e hne => ?_, hnd⟩
  · rcases memL l' with ⟨p, hp, rfl⟩ | hn
    · rw [ua p hp] at e
      have : p.2 = b := by omega
      subst this; exact oa p hp
    · rw [uo l' hn] at e
      have ho := hM.mo l' b hl' hb e
      rw [oo b fun p hp e2 => ?_]
      · exact ho
      · subst e2
        rcases h.link.1 p hp with h1 | ⟨q, hq, h1⟩
        · omega
        · exact hn q hq (by omega)
  · rcases memB b with ⟨p, hp, rfl⟩ | hn
    · exact Or.inr ⟨p.1, h.lt hM hl p hp, oa p hp, ua p hp, (h.bin p hp).2⟩
    · rw [oo b hn]
      rcases hM.om b hb with h1 | ⟨l', hl', e1, e2, e3⟩
      · exact Or.inl h1
      · refine Or.inr ⟨l', hl', e1, ?_, e3⟩
        rw [uo l' fun q hq e => ?_]
        · exact e2
        · subst e
          rcases h.link.2 q hq with e4 | ⟨p, hp, e4⟩
          · rw [e4, hml] at e2; omega
          · have := (hM.own_bin (h.bin p hp).1 e4).2.1
            exact hn p hp (by omega)
  · rcases memL l' with ⟨p, hp, rfl⟩ | hn
    · exact Or.inr ⟨p.2, (h.bin p hp).1, ua p hp⟩
    · rw [uo l' hn]; exact hM.mm l' hl'
  · obtain ⟨b, w', rfl⟩ := h.head
    have := ua (l, b) List.mem_cons_self
    simp only at this
    rw [this]; omega
  · rcases memL l' with ⟨p, hp, rfl⟩ | hn
    · rw [ua p hp] at e; omega
    · rw [uo l' hn] at e; exact e
  · rw [uo l' fun q hq e2 => ?_]
    · exact e
    · subst e2
      rcases h.link.2 q hq with e4 | ⟨p, hp, e4⟩
      · exact hne e4
      · have := (hM.own_bin (h.bin p hp).1 e4).2.1
        omega

/-- What is closed: all of it is owned, and owners fit nothing outside. -/
def Clo (F : List (List Bool)) (own : List Int) (R : Nat → Prop) : Prop := ∀ b, b < bins F → R b → 0 ≤ own.getD b (-1) ∧ ∀ b', b' < bins F → fit F (own.getD b (-1)).toNat b' = true → R b'
theorem Chain.out {F : List (List Bool)} {own : List Int} {R : Nat → Prop} (hR : Clo F own R) {l : Nat} {w : List (Nat × Nat)} (h : Chain F own l w) : ∀ p ∈ w, ¬ R p.2 := by
  induction h with
  | last h1 h2 h3 =>
    intro p hp hr
    simp at hp; subst hp
    have := (hR _ h1 hr).1
    omega
  | @step l b l' w h1 h2 h3 h4 h5 ih =>
    intro p hp hr
    rcases List.mem_cons.1 hp with rfl | hp
    · obtain ⟨b', w', rfl⟩ := h5.head
      have q := h5.bin (l', b') List.mem_cons_self
      have := (hR _ h1 hr).2 b' q.1 (by rw [h3]; exact q.2)
      exact ih (l', b') List.mem_cons_self this
    · exact ih p hp hr
structure Inv (F : List (List Bool)) (k : Nat) (m own : List Int) : Prop where
  mo : MO F m own
  later : ∀ l, k ≤ l → l < F.length → m.getD l (-1) = -1
  clo : ∃ R : Nat → Prop, Clo F own R ∧ ∀ l, l < k → l < F.length → m.getD l (-1) = -1 → ∀ b, b < bins F → fit F l b = true → R b
def none8 (n : Nat) : List Int := List.replicate n (-1)
theorem none8_get (n i : Nat) : (none8 n).getD i (-1) = -1 := by
  unfold none8
  rw [List.getD_eq_getElem?_getD, List.getElem?_replicate]
  split <;> rfl
theorem inv_zero (F : List (List Bool)) : Inv F 0 (none8 F.length) (none8 (bins F)) :=
  ⟨⟨by simp [none8], by simp [none8], fun l b _ _ e => by rw [none8_get] at e; omega, fun b _ => Or.inl (none8_get _ _), fun l _ => Or.inl (none8_get _ _)⟩, fun l _ _ => none8_get _ _, fun _ => False, fun _ _ h => h.elim, fun l hl => by omega⟩
/-- The search for a load, from no bin tried. -/
def look (F : List (List Bool)) (own : List Int) (l : Nat) : Option (List (Nat × Nat)) := (srch F own 9 l (List.replicate (bins F) false)).1
def next (F : List (List Bool)) (s : List Int × List Int) (l : Nat) : List Int × List Int :=
  match look F s.2 l with
  | some w => (upd s.1 w, oset s.2 w)
  | none => s
def upto (F : List (List Bool)) : Nat → List Int × List Int
  | 0 => (none8 F.length, none8 (bins F))
  | k + 1 => next F (upto F k) k
theorem left_new (n : Nat) : left (List.replicate n false) = n := by simp [left]
theorem inv_next {F : List (List Bool)} (hG : bins F ≤ 8) {k : Nat} {s : List Int × List Int} (hk : k < F.length) (h : Inv F k s.1 s.2) : Inv F (k + 1) (next F s k).1 (next F s k).2 := by
  have R := srch_res F s.2 9 k (List.replicate (bins F) false) (by simp)
  unfold next look
  generalize srch F s.2 9 k (List.replicate (bins F) false) = r at R
  obtain ⟨o, t'⟩ := r
  cases o with
  | some w =>
    obtain ⟨hc, _⟩ := R.way w rfl
    obtain ⟨t1, t2, t3, t4, t5⟩ := h.mo.took hk (h.later k (Nat.le_refl _) hk) hc
    refine ⟨t1, fun l h1 h2 => t4 l h2 (h.later l (by omega) h2) (by omega), ?_⟩
    obtain ⟨Q, hQ, hU⟩ := h.clo
    refine ⟨Q, fun b hb hr => ?_, fun l h1 h2 h3 => ?_⟩
    · have e : (oset s.2 w).getD b (-1) = s.2.getD b (-1) := oset_other s.2 w b (fun p hp => by rw [h.mo.lo]; exact (hc.bin p hp).1) fun p hp e => hc.out hQ p hp (e ▸ hr)
      show 0 ≤ (oset s.2 w).getD b (-1) ∧ ∀ b', b' < bins F → fit F ((oset s.2 w).getD b (-1)).toNat b' = true → Q b'
      rw [e]
      exact hQ b hb hr
    · have h3' : (upd s.1 w).getD l (-1) = -1 := h3
      by_cases e : l = k
      · subst e; exact absurd h3' t2
      · exact hU l (by omega) h2 (t3 l h3')
  | none =>
    obtain ⟨f1, f2⟩ := R.fail rfl (by rw [left_new]; omega)
    refine ⟨h.mo, fun l h1 h2 => h.later l (by omega) h2, ?_⟩
    obtain ⟨Q, hQ, hU⟩ := h.clo
    refine ⟨fun b => Q b ∨ t'.getD b false = true, fun b hb hr => ?_, fun l h1 h2 h3 b hb hf => ?_⟩
    · rcases hr with hr | hr
      · exact ⟨(hQ b hb hr).1, fun b' h1 h2 => Or.inl ((hQ b hb hr).2 b' h1 h2)⟩
      · have := f2 b hb hr (by rw [List.getD_eq_getElem?_getD, List.getElem?_replicate]; split <;> rfl)
        exact ⟨this.1, fun b' h1 h2 => Or.inr (this.2 b' h1 h2)⟩
    · by_cases e : l = k
      · subst e; exact Or.inr (f1 b (Nat.zero_le _) hb hf)
      · exact Or.inl (hU l (by omega) h2 h3 b hb hf)
theorem inv_upto {F : List (List Bool)} (hG : bins F ≤ 8) : ∀ k, k ≤ F.length → Inv F k (upto F k).1 (upto F k).2
  | 0, _ => inv_zero F
  | k + 1, h => inv_next hG (by omega) (inv_upto hG k (by omega))
/-- The matching, and each bin's load. -/
def mat (F : List (List Bool)) : List Int := (upto F F.length).1
def own (F : List (List Bool)) : List Int := (upto F F.length).2
theorem inv_mat {F : List (List Bool)} (h : goodB F = true) : Inv F F.length (mat F) (own F) := inv_upto (goodB_bins h) _ (Nat.le_refl _)
/-- What the bins below k tell of m. -/
def part (m : List Int) (k : Nat) : List Int := m.map fun x => if x < (k : Int) then x else -1
theorem part_len (m : List Int) (k : Nat) : (part m k).length = m.length := by simp [part]
theorem part_get (m : List Int) (k l : Nat) : (part m k).getD l (-1) = if m.getD l (-1) < (k : Int) then m.getD l (-1) else -1 := by
  unfold part
  by_cases h : l < m.length
  · simp [h]
  · simp [show m.length ≤ l by omega]
theorem ext_get {a b : List Int} (hl : a.length = b.length) (h : ∀ i, i < a.length → a.getD i (-1) = b.getD i (-1)) : a = b := by
  apply List.ext_getElem hl
  intro i h1 h2
  have := h i h1
  simpa [h1, h2] using this
theorem part_zero {F : List (List Bool)} {m own : List Int} (h : MO F m own) : part m 0 = none8 F.length := by
  apply ext_get
  · rw [part_len, h.lm]; simp [none8]
  · intro i hi
    rw [part_len, h.lm] at hi
    rw [part_get, none8_get]
    rcases h.mm i hi with e | ⟨b, hb, e⟩
    · rw [e]; simp
    · rw [e]; simp
theorem part_all {F : List (List Bool)} {m own : List Int} (h : MO F m own) : part m (bins F) = m := by
  apply ext_get
  · rw [part_len]
  · intro i hi
    rw [part_len, h.lm] at hi
    rw [part_get]
    rcases h.mm i hi with e | ⟨b, hb, e⟩
    · rw [e]; simp
    · rw [e, if_pos (by omega)]
theorem part_none {F : List (List Bool)} {m own : List Int} (h : MO F m own) {k : Nat} (hk : k < bins F) (e : own.getD k (-1) = -1) : part m (k + 1) = part m k := by
  apply ext_get
  · rw [part_len, part_len]
  · intro i hi
    rw [part_len, h.lm] at hi
    rw [part_get, part_get]
    have : m.getD i (-1) ≠ (k : Int) := fun e' => by have := h.mo i k hi hk e'; omega
    split <;> split <;> omega
theorem part_some {F : List (List Bool)} {m own : List Int} (h : MO F m own) {k l : Nat} (hk : k < bins F) (e : own.getD k (-1) = (l : Int)) : (part m k).set l (k : Int) = part m (k + 1) := by
  obtain ⟨h1, h2, _⟩ := h.own_bin hk e
  apply ext_get
  · simp [part_len]
  · intro i hi
    simp only [List.length_set, part_len, h.lm] at hi
    rw [iget_set _ _ _ _ (by rw [part_len, h.lm]; exact h1), part_get, part_get]
    by_cases c : i = l
    · subst c; rw [if_pos rfl, h2, if_pos (by omega)]
    · rw [if_neg c]
      have : m.getD i (-1) ≠ (k : Int) := fun e' => by have := h.mo i k hi hk e'; omega
      split <;> split <;> omega
/-- The first place of a bin in m is its owner. -/
theorem MO.first {F : List (List Bool)} {m own : List Int} (h : MO F m own) {b : Nat} (hb : b < bins F) :
    (own.getD b (-1) = -1 ∧ ∀ l, l < m.length → m.getD l (-1) ≠ (b : Int)) ∨ ∃ l, l < m.length ∧ own.getD b (-1) = (l : Int) ∧ m.getD l (-1) = (b : Int) ∧ ∀ l', l' < m.length → m.getD l' (-1) = (b : Int) → l' = l := by
  rcases h.om b hb with e | ⟨l, hl, e1, e2, _⟩
  · exact Or.inl ⟨e, fun l hl e2 => by have := h.mo l b (by rw [← h.lm]; exact hl) hb e2; omega⟩
  · exact Or.inr ⟨l, by rw [h.lm]; exact hl, e1, e2, fun l' hl' e3 => by have := h.mo l' b (by rw [← h.lm]; exact hl') hb e3; omega⟩
end Go.Proofs.Ytnepjahhconodaa.Ma
namespace Go.Proofs.Ytnepjahhconodaa.Ma

/-- All lists of n yes or no. -/
def alls : Nat → List (List Bool)
  | 0 => [[]]
  | n + 1 => (alls n).flatMap fun l => [false :: l, true :: l]
theorem mem_alls : ∀ (l : List Bool), l ∈ alls l.length
  | [] => by simp [alls]
  | x :: l => by
    simp only [List.length_cons, alls, List.mem_flatMap]
    exact ⟨l, mem_alls l, by cases x <;> simp⟩
theorem alls_len : ∀ {n : Nat} {l : List Bool}, l ∈ alls n → l.length = n
  | 0, l, h => by simp [alls] at h; subst h; rfl
  | n + 1, l, h => by
    simp only [alls, List.mem_flatMap] at h
    obtain ⟨l', h1, h2⟩ := h
    have := alls_len h1
    simp at h2
    rcases h2 with rfl | rfl <;> simp [this]
/-- Loads and bins that hold all that is come to from loads without a bin. -/
def Shut (F : List (List Bool)) (m : List Int) (A B : List Bool) : Prop :=
  ∀ l, l < F.length → (m.getD l (-1) = -1 → A.getD l false = true) ∧ ∀ b, b < bins F → (A.getD l false = true → fit F l b = true → B.getD b false = true) ∧ (B.getD b false = true → m.getD l (-1) = (b : Int) → A.getD l false = true)
def shutB (F : List (List Bool)) (m : List Int) (A B : List Bool) : Bool :=
  (List.range F.length).all fun l => (!(m.getD l (-1) == -1) || A.getD l false) && (List.range (bins F)).all fun b => (!(A.getD l false && fit F l b) || B.getD b false) && (!(B.getD b false && (m.getD l (-1) == (b : Int))) || A.getD l false)
theorem shutB_iff {F : List (List Bool)} {m : List Int} {A B : List Bool} : shutB F m A B = true ↔ Shut F m A B := by
  simp only [shutB, Shut, List.all_eq_true, List.mem_range, Bool.and_eq_true, Bool.or_eq_true, Bool.not_eq_true', beq_eq_false_iff_ne, Bool.and_eq_false_imp]
  constructor
  · intro h l hl
    refine ⟨fun e => (h l hl).1.resolve_left fun c => c e, fun b hb => ⟨fun h1 h2 => ?_, fun h1 h2 => ?_⟩⟩
    · rcases ((h l hl).2 b hb).1 with c | c
      · have := c h1; simp [h2] at this
      · exact c
    · rcases ((h l hl).2 b hb).2 with c | c
      · exact absurd h2 (c h1)
      · exact c
  · intro h l hl
    refine ⟨?_, fun b hb => ⟨?_, ?_⟩⟩
    · by_cases e : m.getD l (-1) = -1
      · exact Or.inr ((h l hl).1 e)
      · exact Or.inl e
    · cases e : B.getD b false
      · refine Or.inl fun h1 => ?_
        cases e2 : fit F l b
        · rfl
        · have := ((h l hl).2 b hb).1 h1 e2; rw [e] at this; cases this
      · exact Or.inr rfl
    · cases e : A.getD l false
      · refine Or.inl fun h1 h2 => ?_
        have := ((h l hl).2 b hb).2 h1 h2; rw [e] at this; cases this
      · exact Or.inr rfl
/-- The loads and the bins come to. -/
def rL (F : List (List Bool)) (m : List Int) : List Bool := (List.range F.length).map fun l => (alls F.length).all fun A => (alls (bins F)).all fun B => !shutB F m A B || A.getD l false
def rB (F : List (List Bool)) (m : List Int) : List Bool := (List.range (bins F)).map fun b => (alls F.length).all fun A => (alls (bins F)).all fun B => !shutB F m A B || B.getD b false
theorem rL_len (F : List (List Bool)) (m : List Int) : (rL F m).length = F.length := by simp [rL]
theorem rB_len (F : List (List Bool)) (m : List Int) : (rB F m).length = bins F := by simp [rB]
theorem rL_iff {F : List (List Bool)} {m : List Int} {l : Nat} (hl : l < F.length) : (rL F m).getD l false = true ↔ ∀ A B : List Bool, A.length = F.length → B.length = bins F → Shut F m A B → A.getD l false = true := by
  have e : (rL F m).getD l false = (alls F.length).all fun A => (alls (bins F)).all fun B => !shutB F m A B || A.getD l false := by simp [rL, hl]
  rw [e]
  simp only [List.all_eq_true, Bool.or_eq_true, Bool.not_eq_true']
  constructor
  · intro h A B hA hB hS
    rcases h A (hA ▸ mem_alls A) B (hB ▸ mem_alls B) with c | c
    · rw [shutB_iff.2 hS] at c; cases c
    · exact c
  · intro h A hA B hB
    cases c : shutB F m A B
    · exact Or.inl rfl
    · exact Or.inr (h A B (alls_len hA) (alls_len hB) (shutB_iff.1 c))
theorem rB_iff {F : List (List Bool)} {m : List Int} {b : Nat} (hb : b < bins F) : (rB F m).getD b false = true ↔ ∀ A B : List Bool, A.length = F.length → B.length = bins F → Shut F m A B → B.getD b false = true := by
  have e : (rB F m).getD b false = (alls F.length).all fun A => (alls (bins F)).all fun B => !shutB F m A B || B.getD b false := by simp [rB, hb]
  rw [e]
  simp only [List.all_eq_true, Bool.or_eq_true, Bool.not_eq_true']
  constructor
  · intro h A B hA hB hS
    rcases h A (hA ▸ mem_alls A) B (hB ▸ mem_alls B) with c | c
    · rw [shutB_iff.2 hS] at c; cases c
    · exact c
  · intro h A hA B hB
    cases c : shutB F m A B
    · exact Or.inl rfl
    · exact Or.inr (h A B (alls_len hA) (alls_len hB) (shutB_iff.1 c))
theorem shut_r (F : List (List Bool)) (m : List Int) : Shut F m (rL F m) (rB F m) := by
  intro l hl
  refine ⟨fun e => (rL_iff hl).2 fun A B _ _ hS => (hS l hl).1 e, fun b hb => ⟨fun h1 h2 => (rB_iff hb).2 fun A B hA hB hS => ((hS l hl).2 b hb).1 ((rL_iff hl).1 h1 A B hA hB hS) h2, fun h1 h2 => (rL_iff hl).2 fun A B hA hB hS => ((hS l hl).2 b hb).2 ((rB_iff hb).1 h1 A B hA hB hS) h2⟩⟩
/-- What is come to at most. -/
def Come (F : List (List Bool)) (m : List Int) (A B : List Bool) : Prop := A.length = F.length ∧ B.length = bins F ∧ (∀ l, l < F.length → A.getD l false = true → (rL F m).getD l false = true) ∧ ∀ b, b < bins F → B.getD b false = true → (rB F m).getD b false = true
theorem bext {a b : List Bool} (hl : a.length = b.length) (h : ∀ i, i < a.length → (a.getD i false = true ↔ b.getD i false = true)) : a = b := by
  apply List.ext_getElem hl
  intro i h1 h2
  have := h i h1
  simp [h1, h2] at this
  exact this
theorem come_eq {F : List (List Bool)} {m : List Int} {A B : List Bool} (h : Come F m A B) (hS : Shut F m A B) : A = rL F m ∧ B = rB F m := by
  obtain ⟨h1, h2, h3, h4⟩ := h
  refine ⟨bext (by rw [h1, rL_len]) fun i hi => ⟨h3 i (by omega), fun e => (rL_iff (by omega)).1 e A B h1 h2 hS⟩, bext (by rw [h2, rB_len]) fun i hi => ⟨h4 i (by omega), fun e => (rB_iff (by omega)).1 e A B h1 h2 hS⟩⟩
/-- A bin come to has a load. -/
theorem Inv.owned {F : List (List Bool)} {m own : List Int} (h : Inv F F.length m own) {b : Nat} (hb : b < bins F) (hr : (rB F m).getD b false = true) : ∃ l : Nat, l < F.length ∧ own.getD b (-1) = (l : Int) ∧ m.getD l (-1) = (b : Int) := by
  obtain ⟨R, hR, hU⟩ := h.clo
  have key : 0 ≤ own.getD b (-1) := by
    apply Classical.byContradiction
    intro hn
    -- the bins of R, and the loads that fit nothing outside
    have dec : ∀ (P : Nat → Prop) (n : Nat), ∃ L : List Bool, L.length = n ∧ ∀ i, i < n → (L.getD i false = true ↔ P i) := by
      intro P n
      induction n with
      | zero => exact ⟨[], rfl, fun i hi => by omega⟩
      | succ n ih =>
        obtain ⟨L, hL, hP⟩ := ih
        rcases Classical.em (P n) with hp | hp
        · refine ⟨L ++ [true], by simp [hL], fun i hi => ?_⟩
          by_cases e : i = n
          · subst e; simp [← hL]; simpa [hL] using hp
          · have := hP i (by omega)
            have hi' : i < L.length := by omega
            simpa [List.getElem?_append, hi'] using this
        · refine ⟨L ++ [false], by simp [hL], fun i hi => ?_⟩
          by_cases e : i = n
          · subst e; simp [← hL]; simpa [hL] using hp
          · have := hP i (by omega)
            have hi' : i < L.length := by omega
            simpa [List.getElem?_append, hi'] using this
    obtain ⟨B, hB, hBP⟩ := dec R (bins F)
    obtain ⟨A, hA, hAP⟩ := dec (fun l => ∀ b', b' < bins F → fit F l b' = true → R b') F.length
    have hS : Shut F m A B := by
      intro l hl
      refine ⟨fun e => (hAP l hl).2 (hU l hl hl e), fun c hc => ⟨fun h1 h2 => (hBP c hc).2 ((hAP l hl).1 h1 c hc h2), fun h1 h2 => (hAP l hl).2 ?_⟩⟩
      have ho := h.mo.mo l c hl hc h2
      have := (hR c hc ((hBP c hc).1 h1)).2
      rw [ho] at this
      exact this
    have := (hBP b hb).1 ((rB_iff hb).1 hr A B hA hB hS)
    exact hn (hR b hb this).1
  rcases h.mo.om b hb with e | ⟨l, h1, h2, h3, _⟩
  · omega
  · exact ⟨l, h1, h2, h3⟩
/-- The numbers of those that are so. -/
def those (l : List Bool) (so : Bool) : List Int := ((List.range l.length).filter fun i => l.getD i false == so).map fun (i : Nat) => (i : Int)
def thoseTo (l : List Bool) (so : Bool) (k : Nat) : List Int := ((List.range k).filter fun i => l.getD i false == so).map fun (i : Nat) => (i : Int)
theorem thoseTo_step (l : List Bool) (so : Bool) (k : Nat) : thoseTo l so (k + 1) = if l.getD k false == so then thoseTo l so k ++ [(k : Int)] else thoseTo l so k := by
  unfold thoseTo
  rw [List.range_succ, List.filter_append, List.map_append]
  split <;> rename_i h
  · simp only [List.filter_cons, h, if_true, List.filter_nil]; rfl
  · simp only [List.filter_cons, h]; simp
theorem mem_those {l : List Bool} {so : Bool} {x : Int} : x ∈ those l so ↔ ∃ i : Nat, i < l.length ∧ l.getD i false = so ∧ x = (i : Int) := by
  simp only [those, List.mem_map, List.mem_filter, List.mem_range, beq_iff_eq]
  constructor
  · rintro ⟨i, ⟨h1, h2⟩, rfl⟩; exact ⟨i, h1, h2, rfl⟩
  · rintro ⟨i, h1, h2, rfl⟩; exact ⟨i, ⟨h1, h2⟩, rfl⟩
theorem those_has {l : List Bool} {so : Bool} {i : Nat} (hi : i < l.length) : (those l so).contains (i : Int) = (l.getD i false == so) := by
  rw [List.contains_eq_mem]
  rw [Bool.eq_iff_iff, decide_eq_true_iff, beq_iff_eq, mem_those]
  constructor
  · rintro ⟨j, _, h, e⟩; have : i = j := by omega
    subst this; exact h
  · exact fun h => ⟨i, hi, h, rfl⟩
theorem those_rise (l : List Bool) (so : Bool) : (those l so).Pairwise (· < ·) := by
  unfold those
  rw [List.pairwise_map]
  have : ((List.range l.length).filter fun i => l.getD i false == so).Pairwise (· < ·) := List.Pairwise.filter _ List.pairwise_lt_range
  exact this.imp fun h => by omega
theorem those_nodup (l : List Bool) (so : Bool) : (those l so).Nodup := (those_rise l so).imp fun h => by omega
/-- A rising list is told by what is in it. -/
theorem rise_ext : ∀ {a b : List Int}, a.Pairwise (· < ·) → b.Pairwise (· < ·) → (∀ x, x ∈ a ↔ x ∈ b) → a = b := fun {a b} ha hb h => by
  have p : a.Perm b := (List.perm_ext_iff_of_nodup (ha.imp fun h => by omega) (hb.imp fun h => by omega)).2 h
  exact p.eq_of_pairwise (fun x y _ _ h1 h2 => by omega) ha hb
theorem all_yes {n : Nat} {p : Nat → Bool} (h : (List.range n).all p = true) {i : Nat} (hi : i < n) : p i = true := by
  simp only [List.all_eq_true, List.mem_range] at h; exact h i hi
theorem all_of {n : Nat} {p : Nat → Bool} (h : ∀ i, i < n → p i = true) : (List.range n).all p = true := by
  simp only [List.all_eq_true, List.mem_range]; exact h
theorem all_not {n : Nat} {p : Nat → Bool} {i : Nat} (hi : i < n) (h : p i = false) : (List.range n).all p = false := by
  cases e : (List.range n).all p
  · rfl
  · rw [all_yes e hi] at h; cases h
/-- The first place of x, or -1. -/
def idx (xs : List Int) (x : Int) : Int := if xs.contains x then (xs.idxOf x : Int) else -1
theorem idx_none {xs : List Int} {x : Int} (h : ∀ j, j < xs.length → (xs.getD j 0 == x) = false) : idx xs x = -1 := by
  have : xs.contains x = false := by
    rw [List.contains_eq_mem, decide_eq_false_iff_not]
    intro hm
    obtain ⟨i, hi, rfl⟩ := List.getElem_of_mem hm
    have := h i hi
    simp [hi] at this
  unfold idx; rw [if_neg (by rw [this]; simp)]
theorem idx_at : ∀ {xs : List Int} {x : Int} {k : Nat}, k < xs.length → (xs.getD k 0 == x) = true → (∀ j, j < k → (xs.getD j 0 == x) = false) → idx xs x = (k : Int)
  | xs, x, k, hk, h, hn => by
    have hx : xs[k] = x := by simpa [hk] using h
    have hm : xs.contains x = true := by rw [List.contains_eq_mem, decide_eq_true_iff, ← hx]; exact List.getElem_mem hk
    unfold idx
    rw [if_pos hm]
    have hl : xs.idxOf x < xs.length := List.idxOf_lt_length_iff.2 (by simpa using hm)
    have e : xs[xs.idxOf x] = x := List.getElem_idxOf hl
    have h1 : ¬ xs.idxOf x < k := fun c => by have := hn _ c; simp [hl] at this
    have h2 : ¬ k < xs.idxOf x := fun c => by
      have := List.not_of_lt_findIdx c
      simp [hx] at this
    omega
theorem idx_has (xs : List Int) (x : Int) : decide (0 ≤ idx xs x) = xs.contains x := by
  unfold idx
  cases h : xs.contains x
  · rfl
  · rw [if_pos rfl]; simp
theorem MO.idx_eq {F : List (List Bool)} {m own : List Int} (h : MO F m own) {b : Nat} (hb : b < bins F) : idx m (b : Int) = own.getD b (-1) := by
  have g : ∀ j, j < m.length → m.getD j 0 = m.getD j (-1) := fun j hj => by simp [hj]
  rcases h.first hb with ⟨e, hn⟩ | ⟨l, hl, e, hm, hu⟩
  · rw [e]; exact idx_none fun j hj => by rw [g j hj]; simpa using hn j hj
  · rw [e]; refine idx_at hl (by rw [g l hl, hm]; simp) fun j hj => ?_
    rw [g j (by omega), beq_eq_false_iff_ne]
    intro c
    have := hu j (by omega) c
    omega
/-- How many are not -1. -/
def cnt (m : List Int) : Nat := (m.filter fun x => x != -1).length
def cntTo (m : List Int) (k : Nat) : Nat := cnt (m.take k)
theorem cntTo_step {m : List Int} {k : Nat} (hk : k < m.length) : cntTo m (k + 1) = cntTo m k + (if m.getD k 0 == -1 then 0 else 1) := by
  unfold cntTo cnt
  rw [List.take_add_one, List.getElem?_eq_getElem hk, Option.toList_some, List.filter_append, List.length_append, Pf.getD_lt m 0 hk]
  by_cases e : m[k] = -1 <;> simp [e]
theorem cntTo_le (m : List Int) (k : Nat) : cntTo m k ≤ m.length := by
  unfold cntTo cnt
  exact Nat.le_trans (List.length_filter_le _ _) (by simp; omega)
theorem cntTo_all (m : List Int) : cntTo m m.length = cnt m := by simp [cntTo]
def cntB (m : List Int) : Bool := decide (m.length ≤ 8) && Pf.allB m (-1) 7
def cntI (m : List Int) : Int := if cntB m then (cnt m : Int) else 0
/-- Rising numbers below many. -/
def least (l : List Int) (i : Nat) : Int := if i = 0 then 0 else l.getD (i - 1) 0 + 1
def riseAt (l : List Int) (many i : Nat) : Bool := Pf.inB (l.getD i 0) (least l i) ((many : Int) - 1)
def riseB (l : List Int) (many : Nat) : Bool := (List.range l.length).all (riseAt l many)
theorem least_nn {l : List Int} {many k : Nat} (h : ∀ i, i < k → riseAt l many i = true) : 0 ≤ least l k := by
  induction k with
  | zero => simp [least]
  | succ k ih =>
    have h1 := ih fun i hi => h i (by omega)
    have h2 := Pf.inB_yes (h k (by omega))
    simp [least]
    simp at h2
    omega
/-- Whether load i's bin is none, or fits it and is no earlier one's. -/
def matAt (F : List (List Bool)) (m : List Int) (i : Nat) : Bool := m.getD i 0 == -1 || (Pf.inB (m.getD i 0) 0 ((bins F : Int) - 1) && (fit F i (m.getD i 0).toNat && !(m.take i).contains (m.getD i 0)))
def matB (F : List (List Bool)) (m : List Int) : Bool := decide (m.length = F.length) && (List.range F.length).all (matAt F m)
theorem matB_ne {F : List (List Bool)} {m : List Int} (h : m.length ≠ F.length) : matB F m = false := by simp [matB, h]
theorem matB_len {F : List (List Bool)} {m : List Int} (h : m.length = F.length) : matB F m = (List.range F.length).all (matAt F m) := by simp [matB, h]
def imB (F : List (List Bool)) (m : List Int) : Bool := if goodB F then matB F m else false
/-- Whether load l that fits bin b is among loads, or b among bins. -/
def covAt (F : List (List Bool)) (ls bs : List Int) (l b : Nat) : Bool := !fit F l b || (ls.contains (l : Int) || bs.contains (b : Int))
def covB (F : List (List Bool)) (ls bs : List Int) : Bool := (List.range F.length).all fun l => (List.range (bins F)).all (covAt F ls bs l)
def icB (F : List (List Bool)) (ls bs : List Int) : Bool := goodB F && (riseB ls F.length && riseB bs (bins F))
def icI (F : List (List Bool)) (ls bs : List Int) : Bool := if icB F ls bs then covB F ls bs else false
/-- Rising numbers below many are at most so many. -/
theorem rise_least {l : List Int} {many : Nat} : ∀ {k : Nat}, (∀ i, i < k → riseAt l many i = true) → (k : Int) ≤ least l k
  | 0, _ => by simp [least]
  | k + 1, h => by
    have ih := rise_least (l := l) (many := many) (k := k) fun i hi => h i (by omega)
    have h2 := Pf.inB_yes (h k (by omega))
    simp only [least, Nat.add_sub_cancel, Nat.add_eq_zero_iff, Nat.one_ne_zero, and_false, if_false]
    omega
theorem riseB_len {l : List Int} {many : Nat} (h : riseB l many = true) : l.length ≤ many := by
  cases e : l.length with
  | zero => omega
  | succ k =>
    have h1 := fun i (hi : i < k + 1) => all_yes h (i := i) (by omega)
    have h2 := rise_least (k := k) fun i hi => h1 i (by omega)
    have h3 := Pf.inB_yes (h1 k (by omega))
    omega
theorem icB_len {F : List (List Bool)} {ls bs : List Int} (h : icB F ls bs = true) : ls.length ≤ 8 ∧ bs.length ≤ 8 := by
  simp only [icB, Bool.and_eq_true] at h
  obtain ⟨h1, h2, h3⟩ := h
  have := goodB_len h1; have := goodB_bins h1; have := riseB_len h2; have := riseB_len h3
  omega
end Go.Proofs.Ytnepjahhconodaa.Ma
namespace Go.Proofs.Ytnepjahhconodaa
open Go.RowKit

set_option maxRecDepth 100000 in
set_option maxHeartbeats 2000000 in
theorem ri_any {a : Option Addr} {n c q : Nat} {l : List Int} {w : World} (hn : l.length = n) (hl : n ≤ 1048576) (hq : q ≤ 1000) (h : ARow w a l) :
    Calls Try.prog 59 #[.slice a n c, .int .i64 q] w fun e w' => e = .returned (.bool (Ma.riseB l q)) ∧ w' = w := by
  have H := hide h
  have HN := hide hn
  clear h hn
  go_enter Try.func59, Try.ntmps59
  go_wp2_with fail
  go_loop [4, 5, 7, 10] (fun s4 s5 _ s => ∃ (k : Nat) (t : Int), s4 = .bool false ∧ s5 = .int .i64 t ∧ s = .int .i64 k ∧ k ≤ n ∧ Hid (t = Ma.least l k) ∧ Hid (∀ i, i < k → Ma.riseAt l q i = true)) (fun _ _ _ s => n - (intOf s).toNat)
  case atStart => exact ⟨0, 0, rfl, rfl, rfl, Nat.zero_le _, hide rfl, hide fun i hi => absurd hi (Nat.not_lt_zero _)⟩
  case round =>
    obtain ⟨k, t, rfl, rfl, rfl, hk, HT, HK⟩ := hrel
    by_cases hlt : k < n
    · obtain ⟨b, off, rfl, r1⟩ := H.out.at (i := k) (by rw [HN.out]; exact hlt)
      have j0 : (0 : Int) ≤ (k : Int) := by omega
      have j1 : (k : Int) < (n : Int) := by omega
      have HR : Hid (Ma.riseAt l q k = Pf.inB (l.getD k 0) t ((q : Int) - 1)) := hide (by rw [HT.out]; rfl)
      have HL : Hid (Ma.least l (k + 1) = l.getD k 0 + 1) := hide (by simp [Ma.least])
      have ht0 : 0 ≤ t := by rw [HT.out]; exact Ma.least_nn HK.out
      generalize l.getD k 0 = x at *
      cases hb : Pf.inB x t ((q : Int) - 1)
      · have H1 := hide (Ma.all_not (n := l.length) (p := Ma.riseAt l q) (by rw [HN.out]; exact hlt) (HR.out.trans hb))
        go_wp2_with fail
        refine (between_eq hb).mono ?_
        rintro e w1 ⟨rfl, rfl⟩
        go_wp2_with fail
        go_ret
        exact ⟨ret_bool H1.out.symm, rfl⟩
      · have hxb := Pf.inB_yes hb
        have H1 : Hid (∀ i, i < k + 1 → Ma.riseAt l q i = true) := hide fun i hi => by
          by_cases e : i = k
          · subst e; exact HR.out.trans hb
          · exact HK.out i (by omega)
        have x0 : -1000 ≤ x := by omega
        have x1 : x ≤ 1000 := by omega
        clear hxb
        go_wp2_with fail
        refine (between_eq hb).mono ?_
        rintro e w1 ⟨rfl, rfl⟩
        go_wp2_with fail
        go_round
        case rel => exact ⟨k + 1, x + 1, rfl, by go_num, by go_num, by omega, hide HL.out.symm, H1⟩
        case measure => simp only [intOf]; omega
    · have hke : k = n := by omega
      subst hke
      have H1 := hide (show Ma.riseB l q = true from Ma.all_of (by rw [HN.out]; exact HK.out))
      go_wp2_with fail
      go_ret
      exact ⟨ret_bool H1.out.symm, rfl⟩
theorem ri_eq {a : Option Addr} {n c q : Nat} {l : List Int} {w : World} {r : Bool} (hn : Hid (l.length = n)) (hl : n ≤ 1048576) (hq : q ≤ 1000) (h : Hid (ARow w a l)) (hr : Hid (Ma.riseB l q = r)) :
    Calls Try.prog 59 #[.slice a n c, .int .i64 q] w fun e w' => e = .returned (.bool r) ∧ w' = w := hr.out ▸ ri_any hn.out hl hq h.out
theorem rise_no {x t q : Int} (ht : 0 ≤ t) (h : Pf.inB x t (q - 1) = false) : x < 0 ∨ q ≤ x ∨ (0 < t ∧ t - 1 ≥ x) := by
  have := Pf.inB_no h
  omega
set_option maxRecDepth 100000 in
set_option maxHeartbeats 4000000 in
theorem sri_any {a : Option Addr} {n c q : Nat} {l : List Int} {w : World} (hn : l.length = n) (hl : n ≤ 1048576) (h : ARow w a l) :
    Calls Try.prog 28 #[.slice a n c, .int .i64 q] w fun e w' => e = .returned (.bool (Ma.riseB l q)) ∧ w' = w := by
  have H := hide h
  have HN := hide hn
  clear h hn
  go_enter Try.func28, Try.ntmps28
  go_wp2_with fail
  go_loop [4, 5, 6, 9] (fun s4 _ _ s => ∃ (k : Nat), s4 = .bool false ∧ s = .int .i64 k ∧ k ≤ n ∧ Hid (∀ i, i < k → Ma.riseAt l q i = true)) (fun _ _ _ s => n - (intOf s).toNat)
  case atStart => exact ⟨0, rfl, rfl, Nat.zero_le _, hide fun i hi => absurd hi (Nat.not_lt_zero _)⟩
  case round =>
    obtain ⟨k, rfl, rfl, hk, HK⟩ := hrel
    by_cases hlt : k < n
    · obtain ⟨b, off, rfl, r1⟩ := H.out.at (i := k) (by rw [HN.out]; exact hlt)
      have j0 : (0 : Int) ≤ (k : Int) := by omega
      have j1 : (k : Int) < (n : Int) := by omega
      have HR : Hid (Ma.riseAt l q k = Pf.inB (l.getD k 0) (Ma.least l k) ((q : Int) - 1)) := hide rfl
      have ht0 := hide (Ma.least_nn HK.out)
      have HN1 := hide fun (hb : Pf.inB (l.getD k 0) (Ma.least l k) ((q : Int) - 1) = false) => show Ma.riseB l q = false from Ma.all_not (n := l.length) (p := Ma.riseAt l q) (by rw [HN.out]; exact hlt) hb
      have HY1 : Hid (Pf.inB (l.getD k 0) (Ma.least l k) ((q : Int) - 1) = true → ∀ i, i < k + 1 → Ma.riseAt l q i = true) := hide fun hb i hi => by
          by_cases e : i = k
          · subst e; exact hb
          · exact HK.out i (by omega)
      by_cases k0 : k = 0
      · subst k0
        have el : Ma.least l 0 = 0 := rfl
        rw [el] at HR HN1 HY1
        rw [Nat.add_zero] at r1
        generalize l.getD 0 0 = x at *
        by_cases x0 : x < 0
        · have H1 := hide (HN1.out (by simp [Pf.inB]; omega))
          go_wp2_with fail
          go_ret
          exact ⟨ret_bool H1.out.symm, rfl⟩
        · by_cases x1 : (q : Int) ≤ x
          · have H1 := hide (HN1.out (by simp [Pf.inB]; omega))
            go_wp2_with fail
            go_ret
            exact ⟨ret_bool H1.out.symm, rfl⟩
          · have H1 := hide (HY1.out (by simp [Pf.inB]; omega))
            go_wp2_with fail
            go_round
            case rel => exact ⟨1, rfl, by go_num, by omega, H1⟩
            case measure => simp only [intOf]; omega
      · obtain ⟨b', off', e', r2⟩ := H.out.at (i := k - 1) (by rw [HN.out]; omega)
        cases e'
        have el : Ma.least l k = l.getD (k - 1) 0 + 1 := by simp [Ma.least, k0]
        rw [el] at HR HN1 HY1
        have kc : ((k : Int) - 1) = ((k - 1 : Nat) : Int) := by omega
        have kp : (0 : Int) < (k : Int) := by omega
        have kp' : 0 < k := by omega
        have k2 : (0 : Int) ≤ (k : Int) - 1 := by omega
        have k3 : (k : Int) - 1 < (n : Int) := by omega
        have r3 : w.cell? ⟨b, off + ((k : Int) - 1).toNat, none⟩ = some (.int .i64 (l.getD (k - 1) 0)) := by rw [kc, Int.toNat_natCast]; exact r2
        have hy : 0 ≤ l.getD (k - 1) 0 + 1 := by rw [← el]; exact ht0.out
        generalize l.getD k 0 = x at *
        generalize l.getD (k - 1) 0 = y at *
        generalize hkk : k - 1 = kk at *
        clear el kc
        by_cases x0 : x < 0
        · have H1 := hide (HN1.out (by simp [Pf.inB]; omega))
          go_wp2_with fail
          go_ret
          exact ⟨ret_bool H1.out.symm, rfl⟩
        · by_cases x1 : (q : Int) ≤ x
          · have H1 := hide (HN1.out (by simp [Pf.inB]; omega))
            go_wp2_with fail
            go_ret
            exact ⟨ret_bool H1.out.symm, rfl⟩
          · by_cases x2 : x ≤ y
            · have H1 := hide (HN1.out (by simp [Pf.inB]; omega))
              go_wp2_with fail
              go_ret
              exact ⟨ret_bool H1.out.symm, rfl⟩
            · have H1 := hide (HY1.out (by simp [Pf.inB]; omega))
              go_wp2_with fail
              go_round
              case rel => exact ⟨k + 1, rfl, by go_num, by omega, H1⟩
              case measure => simp only [intOf]; omega
    · have hke : k = n := by omega
      subst hke
      have H1 := hide (show Ma.riseB l q = true from Ma.all_of (by rw [HN.out]; exact HK.out))
      go_wp2_with fail
      go_ret
      exact ⟨ret_bool H1.out.symm, rfl⟩
theorem sri_eq {a : Option Addr} {n c q : Nat} {l : List Int} {w : World} {r : Bool} (hn : Hid (l.length = n)) (hl : n ≤ 1048576) (h : Hid (ARow w a l)) (hr : Hid (Ma.riseB l q = r)) :
    Calls Try.prog 28 #[.slice a n c, .int .i64 q] w fun e w' => e = .returned (.bool r) ∧ w' = w := hr.out ▸ sri_any hn.out hl h.out
set_option maxRecDepth 100000 in
set_option maxHeartbeats 1000000 in
theorem ix_any {a : Option Addr} {n c : Nat} {xs : List Int} {x : Int} {w : World} (hx : xs.length = n) (hn : n ≤ 1048576) (ha : ARow w a xs) :
    Calls Try.prog 47 #[.slice a n c, .int .i64 x] w fun e w' => e = .returned (.int .i64 (Ma.idx xs x)) ∧ w' = w := by
  have HA := hide ha
  have HX := hide hx
  clear ha hx
  go_enter Try.func47, Try.ntmps47
  go_wp2_with fail
  go_loop [4, 5, 8] (fun s4 _ s => ∃ (k : Nat), s4 = .int .i64 0 ∧ s = .int .i64 k ∧ k ≤ n ∧ Hid (∀ j, j < k → (xs.getD j 0 == x) = false)) (fun _ _ s => n - (intOf s).toNat)
  case atStart => exact ⟨0, rfl, rfl, Nat.zero_le _, hide fun i hi => absurd hi (Nat.not_lt_zero _)⟩
  case round =>
    obtain ⟨k, rfl, rfl, hk, HK⟩ := hrel
    by_cases hlt : k < n
    · obtain ⟨b, off, rfl, r1⟩ := HA.out.at (i := k) (by rw [HX.out]; exact hlt)
      have i0 : (0 : Int) ≤ (k : Int) := by omega
      have i1 : (k : Int) < (n : Int) := by omega
      have HY := hide fun (h : (xs.getD k 0 == x) = true) => Ma.idx_at (show k < xs.length by rw [HX.out]; exact hlt) h HK.out
      generalize hy : xs.getD k 0 = y at *
      cases hb : (y == x)
      · have hb' : (x == y) = false := by rw [beq_eq_false_iff_ne] at hb ⊢; exact fun e => hb e.symm
        have H1 : Hid (∀ j, j < k + 1 → (xs.getD j 0 == x) = false) := hide fun j hj => by
          by_cases e : j = k
          · subst e; rw [hy]; exact hb
          · exact HK.out j (by omega)
        clear hy
        go_wp2_with fail
        go_round
        case rel => exact ⟨k + 1, rfl, by go_num, by omega, H1⟩
        case measure => simp only [intOf]; omega
      · have hb' : (x == y) = true := by rw [beq_iff_eq] at hb ⊢; exact hb.symm
        have H1 := hide (HY.out hb)
        clear hy
        go_wp2_with fail
        go_ret
        exact ⟨ret_int H1.out.symm, rfl⟩
    · have hke : k = n := by omega
      subst hke
      have H1 := hide (Ma.idx_none (xs := xs) (x := x) (by rw [HX.out]; exact HK.out))
      go_wp2_with fail
      go_ret
      exact ⟨ret_int H1.out.symm, rfl⟩
set_option maxRecDepth 100000 in
set_option maxHeartbeats 1000000 in
theorem con_any {a : Option Addr} {n c : Nat} {xs : List Int} {x : Int} {w : World} (hx : xs.length = n) (hn : n ≤ 1048576) (ha : ARow w a xs) :
    Calls Try.prog 25 #[.slice a n c, .int .i64 x] w fun e w' => e = .returned (.bool (xs.contains x)) ∧ w' = w := by
  have HC := hide (ix_any (c := c) (x := x) hx hn ha)
  have HE := hide (Ma.idx_has xs x)
  generalize Ma.idx xs x = q at *
  clear ha hx
  go_enter Try.func25, Try.ntmps25
  go_wp2_with fail
  refine HC.out.mono ?_
  rintro e w1 ⟨rfl, rfl⟩
  go_wp2_with fail
  go_ret
  exact ⟨ret_bool HE.out, rfl⟩
theorem con_eq {a : Option Addr} {n c : Nat} {xs : List Int} {x : Int} {w : World} {r : Bool} (hx : Hid (xs.length = n)) (hn : n ≤ 1048576) (ha : Hid (ARow w a xs)) (h : Hid (xs.contains x = r)) :
    Calls Try.prog 25 #[.slice a n c, .int .i64 x] w fun e w' => e = .returned (.bool r) ∧ w' = w := h.out ▸ con_any hx.out hn ha.out
end Go.Proofs.Ytnepjahhconodaa
namespace Go.Proofs.Ytnepjahhconodaa.Bx

abbrev Fn := Nat → Int
theorem if_ge {c : Prop} [Decidable c] {x : Int} (h : 0 ≤ x) : 0 ≤ if c then x else 0 := by
  split
  · exact h
  · exact Int.le_refl _
def sumTo (f : Fn) : Nat → Int
  | 0 => 0
  | k + 1 => sumTo f k + f k
theorem sum_add (f g : Fn) : ∀ n, sumTo (fun i => f i + g i) n = sumTo f n + sumTo g n
  | 0 => rfl
  | n + 1 => by simp only [sumTo]; rw [sum_add f g n]; omega
theorem sum_le {f g : Fn} : ∀ n, (∀ i, i < n → f i ≤ g i) → sumTo f n ≤ sumTo g n
  | 0, _ => Int.le_refl _
  | n + 1, h => by
    have h1 := sum_le n (fun i hi => h i (by omega))
    have h2 := h n (by omega)
    simp only [sumTo]; omega
theorem sum_eq {f g : Fn} (n : Nat) (h : ∀ i, i < n → f i = g i) : sumTo f n = sumTo g n :=
  Int.le_antisymm (sum_le n fun i hi => Int.le_of_eq (h i hi)) (sum_le n fun i hi => Int.le_of_eq (h i hi).symm)
theorem sum_const (c : Int) : ∀ n : Nat, sumTo (fun _ => c) n = c * (n : Int)
  | 0 => by simp [sumTo]
  | n + 1 => by simp only [sumTo]; rw [sum_const c n, Int.natCast_succ, Int.mul_add]; omega
theorem sum_pos {f : Fn} (n : Nat) (h : ∀ i, i < n → 0 ≤ f i) : 0 ≤ sumTo f n := by
  have := sum_le (f := fun _ => 0) n h
  rw [sum_const] at this
  omega
theorem sum_mono {f : Fn} {m : Nat} : ∀ n, m ≤ n → (∀ i, i < n → 0 ≤ f i) → sumTo f m ≤ sumTo f n
  | 0, h, _ => by
    have : m = 0 := by omega
    subst this; exact Int.le_refl _
  | n + 1, h, hp => by
    by_cases e : m = n + 1
    · subst e; exact Int.le_refl _
    · have h1 := sum_mono (f := f) (m := m) n (by omega) (fun i hi => hp i (by omega))
      have h2 := hp n (by omega)
      simp only [sumTo]; omega
/-- Just one counts. -/
theorem sum_only {f : Fn} {x : Nat} : ∀ n, x < n → (∀ i, i < n → i ≠ x → f i = 0) → sumTo f n = f x
  | 0, h, _ => by omega
  | n + 1, h, hz => by
    simp only [sumTo]
    by_cases e : x = n
    · subst e
      have : sumTo f x = sumTo (fun _ => 0) x := sum_eq x fun i hi => hz i (by omega) (by omega)
      rw [this, sum_const]; omega
    · rw [sum_only n (by omega) (fun i hi hne => hz i (by omega) hne), hz n (by omega) (fun e' => e e'.symm)]; omega
theorem sum_ge_one {f : Fn} {x n : Nat} (hx : x < n) (hp : ∀ i, i < n → 0 ≤ f i) : f x ≤ sumTo f n := by
  have h1 : sumTo (fun i => if i = x then f x else 0) n = f x := by
    rw [sum_only n hx]
    · simp
    · intro i _ hne; simp [hne]
  rw [← h1]
  refine sum_le n fun i hi => ?_
  by_cases e : i = x
  · subst e; simp
  · simp [e]; exact hp i hi
theorem sum_ge_two {f : Fn} {x y n : Nat} (hx : x < n) (hy : y < n) (hxy : x ≠ y) (hp : ∀ i, i < n → 0 ≤ f i) : f x + f y ≤ sumTo f n := by
  have h1 : sumTo (fun i => if i = x then f x else 0) n = f x := by
    rw [sum_only n hx]
    · simp
    · intro i _ hne; simp [hne]
  have h2 : sumTo (fun i => if i = y then f y else 0) n = f y := by
    rw [sum_only n hy]
    · simp
    · intro i _ hne; simp [hne]
  rw [← h1, ← h2, ← sum_add]
  refine sum_le n fun i hi => ?_
  by_cases e : i = x
  · subst e; simp [hxy]
  · by_cases e' : i = y
    · subst e'; simp [e]
    · simp [e, e']; exact hp i hi

/-- What lies in a box of the first k. -/
def lev (q : Nat → Nat) (x : Fn) (k b : Nat) : Int := sumTo (fun j => if q j = b then x j else 0) k
theorem lev_succ (q : Nat → Nat) (x : Fn) (k b : Nat) : lev q x (k + 1) b = lev q x k b + if q k = b then x k else 0 := rfl
theorem lev_sum (q : Nat → Nat) (x : Fn) (n : Nat) : ∀ N, sumTo (fun b => lev q x N b) n = sumTo (fun i => if q i < n then x i else 0) N
  | 0 => by
    have : sumTo (fun b => lev q x 0 b) n = sumTo (fun _ => 0) n := sum_eq n fun i _ => rfl
    rw [this, sum_const]; simp [sumTo]
  | N + 1 => by
    have e : sumTo (fun b => lev q x (N + 1) b) n = sumTo (fun b => lev q x N b + if q N = b then x N else 0) n := sum_eq n fun i _ => rfl
    rw [e, sum_add, lev_sum q x n N]
    simp only [sumTo]
    congr 1
    by_cases h : q N < n
    · rw [if_pos h, sum_only n h]
      · simp
      · intro i _ hne; rw [if_neg (fun e => hne e.symm)]
    · rw [if_neg h]
      have : sumTo (fun b => if q N = b then x N else 0) n = sumTo (fun _ => 0) n := sum_eq n fun i hi => by
        rw [if_neg]; omega
      rw [this, sum_const]; omega
theorem lev_all {q : Nat → Nat} {x : Fn} {n N : Nat} (h : ∀ i, i < N → q i < n) : sumTo (fun b => lev q x N b) n = sumTo x N := by
  rw [lev_sum]
  exact sum_eq N fun i hi => by rw [if_pos (h i hi)]
theorem lev_nonneg {q : Nat → Nat} {x : Fn} {k : Nat} (hx : ∀ i, i < k → 0 ≤ x i) (b : Nat) : 0 ≤ lev q x k b :=
  sum_pos k fun i hi => if_ge (hx i hi)
theorem lev_mono {q : Nat → Nat} {x : Fn} {k m : Nat} (hkm : k ≤ m) (hx : ∀ i, i < m → 0 ≤ x i) (b : Nat) : lev q x k b ≤ lev q x m b :=
  sum_mono m hkm fun i hi => if_ge (hx i hi)
theorem lev_one {q : Nat → Nat} {x : Fn} {k i b : Nat} (hi : i < k) (e : q i = b) (hx : ∀ i, i < k → 0 ≤ x i) : x i ≤ lev q x k b := by
  have := sum_ge_one (f := fun j => if q j = b then x j else 0) hi (fun j hj => if_ge (hx j hj))
  rw [if_pos e] at this
  exact this
theorem lev_two {q : Nat → Nat} {x : Fn} {k i j b : Nat} (hi : i < k) (hj : j < k) (hij : i ≠ j) (e : q i = b) (e' : q j = b) (hx : ∀ i, i < k → 0 ≤ x i) : x i + x j ≤ lev q x k b := by
  have := sum_ge_two (f := fun j => if q j = b then x j else 0) hi hj hij (fun j hj => if_ge (hx j hj))
  rw [if_pos e, if_pos e'] at this
  exact this
theorem lev_le {q : Nat → Nat} {x y : Fn} {k b : Nat} (h : ∀ i, i < k → q i = b → x i ≤ y i) : lev q x k b ≤ lev q y k b :=
  sum_le k fun i hi => by
    by_cases e : q i = b
    · simp [e]; exact h i hi e
    · simp [e]
theorem lev_scale (q : Nat → Nat) (c : Int) (b : Nat) : ∀ k, lev q (fun _ => c) k b = c * lev q (fun _ => 1) k b
  | 0 => by simp [lev, sumTo]
  | k + 1 => by
    rw [lev_succ, lev_succ, lev_scale q c b k, Int.mul_add]
    split <;> simp
theorem lev_none {q : Nat → Nat} {x : Fn} {k b : Nat} (h : ∀ i, i < k → q i ≠ b) : lev q x k b = 0 := by
  have : lev q x k b = sumTo (fun _ => 0) k := sum_eq k fun i hi => by rw [if_neg (h i hi)]
  rw [this, sum_const]; omega
theorem lev_some {q : Nat → Nat} {x : Fn} {k b : Nat} (h : lev q x k b ≠ 0) : ∃ i, i < k ∧ q i = b := by
  apply Classical.byContradiction
  intro hn
  exact h (lev_none fun i hi e => hn ⟨i, hi, e⟩)
theorem lev_only {q : Nat → Nat} {x : Fn} {k i b : Nat} (hi : i < k) (e : q i = b) (h : ∀ j, j < k → j ≠ i → q j ≠ b) : lev q x k b = x i := by
  have := sum_only (f := fun j => if q j = b then x j else 0) k hi (fun j hj hne => by rw [if_neg (h j hj hne)])
  rw [if_pos e] at this
  exact this
/-- How many lie in a box of the first k. -/
abbrev num (q : Nat → Nat) (k b : Nat) : Int := lev q (fun _ => 1) k b
theorem num_one {q : Nat → Nat} {k i b : Nat} (hi : i < k) (e : q i = b) : 1 ≤ num q k b := lev_one (x := fun _ => 1) hi e (fun _ _ => by omega)
theorem num_two {q : Nat → Nat} {k i j b : Nat} (hi : i < k) (hj : j < k) (hij : i ≠ j) (e : q i = b) (e' : q j = b) : 2 ≤ num q k b := lev_two (x := fun _ => 1) hi hj hij e e' (fun _ _ => by omega)
theorem num_alone {q : Nat → Nat} {k i b : Nat} (hi : i < k) (e : q i = b) (h : num q k b ≤ 1) : ∀ j, j < k → j ≠ i → q j ≠ b := by
  intro j hj hne e'
  have := num_two hj hi hne e' e
  omega

/-- A packing into n boxes. -/
structure Pk (x : Fn) (N n : Nat) (p : Nat → Nat) : Prop where
  lt : ∀ i, i < N → p i < n
  le : ∀ b, b < n → lev p x N b ≤ 20
/-- Each item in the first box in which it had room. -/
structure FF (x : Fn) (N : Nat) (q : Nat → Nat) : Prop where
  full : ∀ i, i < N → ∀ b, b < q i → 20 < lev q x i b + x i
  room : ∀ i, i < N → lev q x i (q i) + x i ≤ 20
structure It (x : Fn) (N : Nat) : Prop where
  lo : ∀ i, i < N → 1 ≤ x i
  hi : ∀ i, i < N → x i ≤ 20
theorem It.ge {x : Fn} {N : Nat} (h : It x N) {k : Nat} (hk : k ≤ N) : ∀ i, i < k → 0 ≤ x i := fun i hi => by have := h.lo i (by omega); omega
/-- Boxes are begun in order. -/
theorem FF.before {x : Fn} {N : Nat} {q : Nat → Nat} (h : FF x N q) (hx : It x N) {i b : Nat} (hi : i < N) (hb : b < q i) : ∃ j, j < i ∧ q j = b := by
  have h1 := h.full i hi b hb
  have h2 := hx.hi i hi
  exact lev_some (x := x) (k := i) (by omega)
theorem FF.le {x : Fn} {N : Nat} {q : Nat → Nat} (h : FF x N q) : ∀ k, k ≤ N → ∀ b, lev q x k b ≤ 20
  | 0, _, b => by simp [lev, sumTo]
  | k + 1, hk, b => by
    rw [lev_succ]
    by_cases e : q k = b
    · subst e; simp; exact h.room k (by omega)
    · simp [e]; exact FF.le h k (by omega) b
/-- Two boxes together have more than one has room for. -/
theorem FF.two {x : Fn} {N : Nat} {q : Nat → Nat} (h : FF x N q) (hx : It x N) {i b : Nat} (hi : i < N) (hb : b < q i) : 20 < lev q x N b + lev q x N (q i) := by
  have h1 := h.full i hi b hb
  have h2 := lev_mono (q := q) (show i ≤ N by omega) (hx.ge (Nat.le_refl _)) b
  have h3 := lev_one (q := q) hi rfl (hx.ge (Nat.le_refl _))
  omega
/-- The boxes used: s of them. -/
structure Many (q : Nat → Nat) (N s : Nat) : Prop where
  lt : ∀ i, i < N → q i < s
  all : ∀ b, b < s → ∃ i, i < N ∧ q i = b
theorem pairs {x : Fn} {N s : Nat} {q : Nat → Nat} (h : FF x N q) (hx : It x N) (hs : Many q N s) : ∀ m, 2 * m ≤ s → 21 * (m : Int) ≤ sumTo (fun b => lev q x N b) (2 * m)
  | 0, _ => by simp [sumTo]
  | m + 1, hm => by
    have h1 := pairs h hx hs m (by omega)
    obtain ⟨i, hi, e⟩ := hs.all (2 * m + 1) (by omega)
    have h2 := h.two hx hi (b := 2 * m) (by omega)
    rw [e] at h2
    have e2 : 2 * (m + 1) = 2 * m + 1 + 1 := by omega
    rw [e2]
    simp only [sumTo]
    omega
/-- First fit needs fewer than twice as many as the least. -/
theorem ff_twice {x : Fn} {N s m : Nat} {q : Nat → Nat} (h : FF x N q) (hx : It x N) (hs : Many q N s) (hm : 1 ≤ m) (hsum : sumTo x N ≤ 20 * (m : Int)) : s + 1 ≤ 2 * m := by
  apply Classical.byContradiction
  intro hn
  have h1 := pairs h hx hs m (by omega)
  have h2 := sum_mono (f := fun b => lev q x N b) (m := 2 * m) s (by omega) (fun b _ => lev_nonneg (hx.ge (Nat.le_refl _)) b)
  rw [lev_all hs.lt] at h2
  omega

/-- How many of the first k lie behind the first n boxes. -/
def ov (q : Nat → Nat) (n : Nat) : Nat → Nat
  | 0 => 0
  | k + 1 => ov q n k + if n ≤ q k then 1 else 0
theorem ov_sum {x : Fn} {N n : Nat} {q : Nat → Nat} (h : FF x N q) (hx : It x N) : ∀ k, k ≤ N → ov q n k ≤ n → 21 * (ov q n k : Int) ≤ sumTo (fun b => lev q x N b) (ov q n k) + sumTo (fun i => if n ≤ q i then x i else 0) k
  | 0, _, _ => by simp [ov, sumTo]
  | k + 1, hk, ho => by
    by_cases hq : n ≤ q k
    · have e : ov q n (k + 1) = ov q n k + 1 := by simp [ov, hq]
      rw [e] at ho ⊢
      have h1 := ov_sum (n := n) h hx k (by omega) (by omega)
      have h2 := h.full k (by omega) (ov q n k) (by omega)
      have h3 := lev_mono (q := q) (show k ≤ N by omega) (hx.ge (Nat.le_refl _)) (ov q n k)
      simp only [sumTo, if_pos hq]
      omega
    · have e : ov q n (k + 1) = ov q n k := by simp [ov, hq]
      rw [e] at ho ⊢
      have h1 := ov_sum (n := n) h hx k (by omega) ho
      simp only [sumTo, if_neg hq]
      omega
/-- Behind as many boxes as are enough lie fewer items than these boxes are. -/
theorem ov_few {x : Fn} {N n : Nat} {q p : Nat → Nat} (h : FF x N q) (hx : It x N) (hp : Pk x N n p) (hn : 1 ≤ n) : ∀ k, k ≤ N → ov q n k < n
  | 0, _ => by simp [ov]; omega
  | k + 1, hk => by
    have h0 := ov_few h hx hp hn k (by omega)
    by_cases hq : n ≤ q k
    · have e : ov q n (k + 1) = ov q n k + 1 := by simp [ov, hq]
      apply Classical.byContradiction
      intro hc
      have e2 : ov q n (k + 1) = n := by omega
      have h1 := ov_sum (n := n) h hx (k + 1) hk (by omega)
      rw [e2] at h1
      rw [lev_sum] at h1
      have h2 := sum_mono (f := fun i => if n ≤ q i then x i else 0) (m := k + 1) N hk (fun i hi => if_ge (hx.ge (Nat.le_refl _) i hi))
      have h3 : sumTo (fun i => if q i < n then x i else 0) N + sumTo (fun i => if n ≤ q i then x i else 0) N = sumTo x N := by
        rw [← sum_add]
        refine sum_eq N fun i _ => ?_
        by_cases hl : q i < n
        · rw [if_pos hl, if_neg (by omega)]; omega
        · rw [if_neg hl, if_pos (by omega)]; omega
      have h4 : sumTo x N ≤ 20 * (n : Int) := by
        rw [← lev_all hp.lt, ← sum_const]
        exact sum_le n fun b hb => hp.le b hb
      omega
    · have e : ov q n (k + 1) = ov q n k := by simp [ov, hq]
      omega
theorem ov_num (q : Nat → Nat) (n : Nat) : ∀ k, sumTo (fun b => num q k b) n + (ov q n k : Int) = (k : Int) := by
  intro k
  rw [lev_sum]
  induction k with
  | zero => simp [sumTo, ov]
  | succ k ih =>
    simp only [sumTo, ov]
    by_cases h : n ≤ q k
    · simp [h, show ¬ q k < n by omega]; omega
    · simp [h, show q k < n by omega]; omega
/-- Items of which no two have room in one box are no more than boxes. -/
theorem apart {x : Fn} {N n t : Nat} {p : Nat → Nat} (hx : It x N) (hp : Pk x N n p) (ht : t ≤ N) (h : ∀ i j, i < j → j < t → 20 < x i + x j) : t ≤ n := by
  have h1 : ∀ b, b < n → num p t b ≤ 1 := by
    intro b hb
    apply Classical.byContradiction
    intro hc
    obtain ⟨i, hi, e⟩ := lev_some (q := p) (x := fun _ => 1) (k := t) (b := b) (fun e => by have e2 : num p t b = 0 := e; omega)
    have hno : ¬ ∀ j, j < t → j ≠ i → p j ≠ b := fun hall => by
      have e2 : num p t b = 1 := lev_only (x := fun _ => 1) hi e hall
      omega
    have : ∃ j, j < t ∧ j ≠ i ∧ p j = b := by
      apply Classical.byContradiction
      intro hn
      exact hno fun j hj hne e' => hn ⟨j, hj, hne, e'⟩
    obtain ⟨j, hj, hne, e'⟩ := this
    have h2 := lev_two (x := x) (k := N) (show i < N by omega) (show j < N by omega) (fun e => hne e.symm) e e' (hx.ge (Nat.le_refl _))
    have h3 := hp.le b hb
    rcases Nat.lt_or_gt_of_ne hne with c | c
    · have := h j i c hi; omega
    · have := h i j c hj; omega
  have h2 : sumTo (fun b => num p t b) n = sumTo (fun _ => 1) t := lev_all fun i hi => hp.lt i (by omega)
  have h3 := sum_le (f := fun b => num p t b) (g := fun _ => 1) n h1
  rw [h2, sum_const, sum_const] at h3
  omega

/-- The first item that did not go into the first n boxes is of a third at most. -/
theorem third {x : Fn} {N n t : Nat} {q p : Nat → Nat} (h : FF x N q) (hx : It x N) (hp : Pk x N n p) (hd : ∀ i j, i ≤ j → j < N → x j ≤ x i) (ht : t < N) (hq : q t = n) (hf : ∀ i, i < t → q i < n) : x t ≤ 6 := by
  apply Classical.byContradiction
  intro hc
  have hge : ∀ k, k ≤ t + 1 → ∀ r : Nat → Nat, ∀ b, 7 * num r k b ≤ lev r x k b := by
    intro k hk r b
    rw [← lev_scale r 7 b k]
    exact lev_le fun i hi _ => by have := hd i t (by omega) ht; omega
  -- weights: two for one alone in its box, else one
  have hw : ∃ w : Fn, (∀ i, i < t → num q t (q i) = 1 → w i = 2) ∧ (∀ i, i < t → num q t (q i) ≠ 1 → w i = 1) ∧ w t = 1 :=
    ⟨fun i => if i < t ∧ num q t (q i) = 1 then 2 else 1, fun i h1 h2 => by simp [h1, h2], fun i h1 h2 => by simp [h2], by simp⟩
  obtain ⟨w, w2, w1, wt⟩ := hw
  have hlen : ∀ b, b < n → lev q w t b = 2 := by
    intro b hb
    obtain ⟨j, hj, ej⟩ := h.before hx ht (b := b) (by rw [hq]; exact hb)
    have n1 := num_one hj ej
    have n2 := hge t (by omega) q b
    have n3 := h.le t (by omega) b
    by_cases e1 : num q t b = 1
    · have h1 : lev q w t b ≤ lev q (fun _ => 2) t b := lev_le fun i hi e => by rw [w2 i hi (by rw [e]; exact e1)]; omega
      have h2 : lev q (fun _ => 2) t b ≤ lev q w t b := lev_le fun i hi e => by rw [w2 i hi (by rw [e]; exact e1)]; omega
      rw [lev_scale] at h1 h2
      have e2 : lev q (fun _ => 1) t b = 1 := e1
      omega
    · have h1 : lev q w t b ≤ lev q (fun _ => 1) t b := lev_le fun i hi e => by rw [w1 i hi (by rw [e]; exact e1)]; omega
      have h2 : lev q (fun _ => 1) t b ≤ lev q w t b := lev_le fun i hi e => by rw [w1 i hi (by rw [e]; exact e1)]; omega
      have e2 : lev q (fun _ => 1) t b = num q t b := rfl
      omega
  have htot : sumTo w (t + 1) = 2 * (n : Int) + 1 := by
    simp only [sumTo]
    rw [wt, ← lev_all (q := q) (x := w) hf, sum_eq n hlen, sum_const]
  have hbox : ∀ b, b < n → lev p w (t + 1) b ≤ 2 := by
    intro b hb
    have l20 : lev p x (t + 1) b ≤ 20 := by
      have := lev_mono (q := p) (show t + 1 ≤ N by omega) (hx.ge (Nat.le_refl _)) b
      have := hp.le b hb
      omega
    by_cases hs : ∃ i, i < t ∧ p i = b ∧ num q t (q i) = 1
    · obtain ⟨i, hi, e, e1⟩ := hs
      have hal : lev q x t (q i) = x i := lev_only hi rfl (num_alone hi rfl (by omega))
      have hfu := h.full t ht (q i) (by rw [hq]; exact hf i hi)
      rw [hal] at hfu
      have hone : ∀ j, j < t + 1 → j ≠ i → p j ≠ b := fun j hj hne e' => by
        have h1 := lev_two (x := x) (k := t + 1) (show i < t + 1 by omega) hj (fun e => hne e.symm) e e' (hx.ge (by omega))
        have h2 := hd j t (by omega) ht
        omega
      rw [lev_only (show i < t + 1 by omega) e hone, w2 i hi e1]
      omega
    · have h1 : lev p w (t + 1) b ≤ lev p (fun _ => 1) (t + 1) b := lev_le fun i hi e => by
        by_cases hit : i = t
        · subst hit; rw [wt]; omega
        · rw [w1 i (by omega) (fun e1 => hs ⟨i, by omega, e, e1⟩)]; omega
      have h2 := hge (t + 1) (Nat.le_refl _) p b
      have e2 : lev p (fun _ => 1) (t + 1) b = num p (t + 1) b := rfl
      omega
  have h1 : sumTo (fun b => lev p w (t + 1) b) n = sumTo w (t + 1) := lev_all fun i hi => hp.lt i (by omega)
  have h2 := sum_le (f := fun b => lev p w (t + 1) b) (g := fun _ => 2) n hbox
  rw [h1, htot, sum_const] at h2
  omega
theorem first_at {P : Nat → Prop} : ∀ k, P k → ∃ m, m ≤ k ∧ P m ∧ ∀ j, j < m → ¬ P j := by
  intro k
  induction k using Nat.strongRecOn with
  | _ k ih =>
    intro hk
    by_cases h : ∃ j, j < k ∧ P j
    · obtain ⟨j, hj, hp⟩ := h
      obtain ⟨m, h1, h2, h3⟩ := ih j hj hp
      exact ⟨m, by omega, h2, h3⟩
    · exact ⟨k, Nat.le_refl _, hk, fun j hj hp => h ⟨j, hj, hp⟩⟩
/-- From the greatest on, of nine at most. -/
theorem johnson {x : Fn} {N n s : Nat} {q p : Nat → Nat} (h : FF x N q) (hx : It x N) (hs : Many q N s) (hp : Pk x N n p) (hd : ∀ i j, i ≤ j → j < N → x j ≤ x i) (hN : N ≤ 9) : 9 * s ≤ 11 * n + 6 := by
  apply Classical.byContradiction
  intro hc
  have hsN : s ≤ N := by
    -- each box has an item
    have h1 : sumTo (fun _ => 1) s ≤ sumTo (fun b => num q N b) s := sum_le s fun b hb => by
      obtain ⟨i, hi, e⟩ := hs.all b hb
      exact num_one hi e
    have h2 : sumTo (fun b => num q N b) s = sumTo (fun _ => 1) N := lev_all hs.lt
    rw [h2, sum_const, sum_const] at h1
    omega
  have hn : 1 ≤ n := by
    apply Classical.byContradiction
    intro h0
    by_cases hN0 : 0 < N
    · have := hp.lt 0 hN0; omega
    · omega
  have hlt : n < s := by omega
  have hov := ov_few h hx hp hn N (Nat.le_refl _)
  have hnum := ov_num q n N
  -- the first item behind n boxes
  obtain ⟨i0, hi0, e0⟩ := hs.all n hlt
  obtain ⟨t, ht0, ⟨htN, hqt⟩, hmin⟩ := first_at (P := fun i => i < N ∧ q i = n) i0 ⟨hi0, e0⟩
  have hf : ∀ i, i < t → q i < n := by
    intro i hi
    apply Classical.byContradiction
    intro hge
    by_cases e : q i = n
    · exact hmin i hi ⟨by omega, e⟩
    · obtain ⟨j, hj, ej⟩ := h.before hx (i := i) (by omega) (b := n) (by omega)
      exact hmin j (by omega) ⟨by omega, ej⟩
  have h6 := third h hx hp hd htN hqt hf
  have small : ∀ i, i < N → n ≤ q i → x i ≤ 6 := by
    intro i hi hq
    have : t ≤ i := by
      apply Classical.byContradiction
      intro hl
      have := hf i (by omega)
      omega
    have := hd t i this hi
    omega
  -- a box that is full for such an item has three of them
  have three : ∀ b, n ≤ b → b + 1 < s → 3 ≤ num q N b := by
    intro b hb hbs
    obtain ⟨i, hi, e⟩ := hs.all (b + 1) hbs
    have h1 := h.full i hi b (by omega)
    have h2 := small i hi (by omega)
    have h3 : lev q x i b ≤ lev q (fun _ => 6) i b := lev_le fun j hj e => small j (by omega) (by omega)
    rw [lev_scale] at h3
    have h4 : lev q (fun _ => 1) i b ≤ lev q (fun _ => 1) N b := lev_mono (by omega) (fun _ _ => by omega) b
    have e5 : num q N b = lev q (fun _ => 1) N b := rfl
    omega
  have htot : sumTo (fun b => num q N b) s = (N : Int) := by
    have h2 : sumTo (fun b => num q N b) s = sumTo (fun _ => 1) N := lev_all hs.lt
    rw [h2, sum_const]; omega
  have hge0 : ∀ b, b < s → 0 ≤ num q N b := fun b _ => lev_nonneg (fun _ _ => by omega) b
  have one : ∀ b, b < s → 1 ≤ num q N b := fun b hb => by
    obtain ⟨i, hi, e⟩ := hs.all b hb
    exact num_one hi e
  by_cases hs2 : n + 2 ≤ s
  · have h3 := three n (Nat.le_refl _) (by omega)
    have h4 := one (n + 1) (by omega)
    have h5 := sum_mono (f := fun b => num q N b) (m := n + 1 + 1) s (by omega) hge0
    simp only [sumTo] at h5
    have hn5 : 5 ≤ n := by omega
    by_cases hs3 : n + 3 ≤ s
    · have h6 := three (n + 1) (by omega) (by omega)
      have h7 := one (n + 2) (by omega)
      have h8 := sum_mono (f := fun b => num q N b) (m := n + 2 + 1) s (by omega) hge0
      simp only [sumTo] at h8
      have h9 := sum_le (f := fun _ => 1) (g := fun b => num q N b) n (fun b hb => one b (by omega))
      rw [sum_const] at h9
      omega
    · -- five boxes with one item each
      have hn' : n = 5 := by omega
      have hsum5 : sumTo (fun b => num q N b) n ≤ 5 := by omega
      have h9 := sum_le (f := fun _ => 1) (g := fun b => num q N b) n (fun b hb => one b (by omega))
      rw [sum_const] at h9
      have each : ∀ b, b < n → num q N b ≤ 1 := by
        intro b hb
        apply Classical.byContradiction
        intro hgt
        have h1 : sumTo (fun c => num q N c - 1) n = sumTo (fun b => num q N b) n - (n : Int) := by
          have := sum_add (fun b => num q N b) (fun _ => -1) n
          rw [sum_const] at this
          have e : sumTo (fun c => num q N c - 1) n = sumTo (fun i => num q N i + -1) n := sum_eq n fun i _ => by omega
          omega
        have h2 := sum_ge_one (f := fun c => num q N c - 1) hb (fun c hc => by have := one c (by omega); omega)
        omega
      have hap := apart (t := t + 1) hx hp (by omega) (fun i j hij hj => by
        have hit : i < t := by omega
        have h1 := h.full t htN (q i) (by rw [hqt]; exact hf i hit)
        have hal : num q t (q i) ≤ 1 := by
          have h2 : num q t (q i) ≤ num q N (q i) := lev_mono (by omega) (fun _ _ => by omega) _
          have h3 := each (q i) (hf i hit)
          omega
        have h4 : lev q x t (q i) = x i := lev_only hit rfl (num_alone hit rfl hal)
        have h5 := hd j t (by omega) htN
        omega)
      -- t is at least n
      have h10 := sum_le (f := fun _ => 1) (g := fun b => num q t b) n (fun b hb => by
        obtain ⟨j, hj, ej⟩ := h.before hx htN (b := b) (by rw [hqt]; exact hb)
        exact num_one hj ej)
      have h11 : sumTo (fun b => num q t b) n = sumTo (fun _ => 1) t := lev_all hf
      rw [h11, sum_const, sum_const] at h10
      omega
  · -- one box more
    have : s = n + 1 := by omega
    have h1 : n = 1 := by omega
    have h5 := sum_mono (f := fun b => num q N b) (m := n + 1) s (by omega) hge0
    simp only [sumTo] at h5
    have := one n (by omega)
    omega
end Go.Proofs.Ytnepjahhconodaa.Bx
namespace Go.Proofs.Ytnepjahhconodaa.Fl
open Bx (sumTo sum_add sum_eq sum_le sum_const sum_only if_ge)

abbrev F2 := Nat → Nat → Int
/-- What goes out of a hall less what goes into it. -/
def ex (n : Nat) (f : F2) (i : Nat) : Int := sumTo (fun k => f i k - f k i) n
structure Cap (n : Nat) (w f : F2) : Prop where
  lo : ∀ i k, i < n → k < n → 0 ≤ f i k
  hi : ∀ i k, i < n → k < n → f i k ≤ w i k
structure Flow (n : Nat) (w f : F2) : Prop where
  cap : Cap n w f
  bal : ∀ i, 0 < i → i + 1 < n → ex n f i = 0
def room (w f : F2) (a b : Nat) : Int := w a b - f a b + f b a
theorem sum_swap (g : F2) (n : Nat) : ∀ m, sumTo (fun a => sumTo (fun k => g a k) n) m = sumTo (fun k => sumTo (fun a => g a k) m) n
  | 0 => by
    have : sumTo (fun k => sumTo (fun a => g a k) 0) n = sumTo (fun _ => 0) n := sum_eq n fun _ _ => rfl
    rw [this, sum_const]; simp [sumTo]
  | m + 1 => by
    have e : sumTo (fun k => sumTo (fun a => g a k) (m + 1)) n = sumTo (fun k => sumTo (fun a => g a k) m + g m k) n := sum_eq n fun _ _ => rfl
    rw [e, sum_add, ← sum_swap g n m]
    rfl
theorem sum_neg (g : Bx.Fn) : ∀ n, sumTo (fun i => - g i) n = - sumTo g n
  | 0 => rfl
  | n + 1 => by simp only [sumTo]; rw [sum_neg g n]; omega
/-- What goes over a cut. -/
def over (n : Nat) (S : Nat → Bool) (g : F2) : Int := sumTo (fun a => sumTo (fun b => if S a && !S b then g a b else 0) n) n
theorem within (n : Nat) (S : Nat → Bool) (f : F2) : sumTo (fun a => sumTo (fun b => if S a && S b then f a b - f b a else 0) n) n = 0 := by
  have h := sum_swap (fun a b => if S a && S b then f a b - f b a else 0) n n
  have e : sumTo (fun b => sumTo (fun a => if S a && S b then f a b - f b a else 0) n) n = - sumTo (fun a => sumTo (fun b => if S a && S b then f a b - f b a else 0) n) n := by
    rw [← sum_neg]
    refine sum_eq n fun i _ => ?_
    rw [← sum_neg]
    refine sum_eq n fun j _ => ?_
    rw [Bool.and_comm (S j) (S i)]
    split <;> omega
  omega
theorem value_over {n : Nat} {w f : F2} {S : Nat → Bool} (hf : Flow n w f) (hn : 2 ≤ n) (h0 : S 0 = true) (hl : S (n - 1) = false) : ex n f 0 = over n S fun a b => f a b - f b a := by
  have h1 : sumTo (fun a => if S a then ex n f a else 0) n = ex n f 0 := by
    rw [sum_only (x := 0) n (by omega)]
    · simp [h0]
    · intro i hi hne
      by_cases e : i = n - 1
      · rw [e, hl]; rfl
      · rw [hf.bal i (by omega) (by omega)]; split <;> rfl
  rw [← h1]
  have h2 : sumTo (fun a => if S a then ex n f a else 0) n = sumTo (fun a => sumTo (fun b => if S a && S b then f a b - f b a else 0) n + sumTo (fun b => if S a && !S b then f a b - f b a else 0) n) n := by
    refine sum_eq n fun a _ => ?_
    rw [← sum_add]
    by_cases ha : S a = true
    · rw [if_pos ha]
      refine sum_eq n fun b _ => ?_
      cases hb : S b <;> simp [ha]
    · have ha' : S a = false := by simpa using ha
      rw [if_neg ha]
      have : sumTo (fun i => (if S a && S i then f a i - f i a else 0) + if S a && !S i then f a i - f i a else 0) n = sumTo (fun _ => 0) n := sum_eq n fun b _ => by simp [ha']
      rw [this, sum_const]; omega
  rw [h2, sum_add, within]
  unfold over
  rw [Int.zero_add]
/-- No flow is more than a cut is wide. -/
theorem weak {n : Nat} {w f : F2} {S : Nat → Bool} (hf : Flow n w f) (hn : 2 ≤ n) (h0 : S 0 = true) (hl : S (n - 1) = false) : ex n f 0 ≤ over n S w := by
  rw [value_over hf hn h0 hl]
  refine sum_le n fun a ha => sum_le n fun b hb => ?_
  have h1 := hf.cap.hi a b ha hb
  have h2 := hf.cap.lo b a hb ha
  show (if S a && !S b then f a b - f b a else 0) ≤ (if S a && !S b then w a b else 0)
  split <;> omega
/-- As much, where there is no room over the cut. -/
theorem strong {n : Nat} {w f : F2} {S : Nat → Bool} (hf : Flow n w f) (hn : 2 ≤ n) (h0 : S 0 = true) (hl : S (n - 1) = false) (hr : ∀ a b, a < n → b < n → S a = true → S b = false → room w f a b ≤ 0) : ex n f 0 = over n S w := by
  rw [value_over hf hn h0 hl]
  refine sum_eq n fun a ha => sum_eq n fun b hb => ?_
  have h1 := hf.cap.hi a b ha hb
  have h2 := hf.cap.lo b a hb ha
  by_cases e : (S a && !S b) = true
  · rw [if_pos e, if_pos e]
    simp only [Bool.and_eq_true, Bool.not_eq_true'] at e
    have := hr a b ha hb e.1 e.2
    unfold room at this
    show f a b - f b a = w a b
    omega
  · rw [if_neg e, if_neg e]
/-- So much more from a to b: first less from b to a. -/
def st (f : F2) (y : Int) (a b : Nat) : F2 := fun i k => if i = b ∧ k = a then f b a - min y (f b a) else if i = a ∧ k = b then f a b + (y - min y (f b a)) else f i k
theorem st_back (f : F2) (y : Int) (a b : Nat) : st f y a b b a = f b a - min y (f b a) := by simp [st]
theorem st_on (f : F2) (y : Int) {a b : Nat} (h : a ≠ b) : st f y a b a b = f a b + (y - min y (f b a)) := by
  have : ¬ (a = b ∧ b = a) := fun e => h e.1
  simp [st, this]
theorem st_else (f : F2) (y : Int) {a b i k : Nat} (h1 : ¬ (i = b ∧ k = a)) (h2 : ¬ (i = a ∧ k = b)) : st f y a b i k = f i k := by simp [st, h1, h2]
theorem st_net (f : F2) (y : Int) {a b : Nat} (h : a ≠ b) (i k : Nat) : st f y a b i k - st f y a b k i = f i k - f k i + (if i = a ∧ k = b then y else 0) - (if i = b ∧ k = a then y else 0) := by
  by_cases h1 : i = a ∧ k = b
  · obtain ⟨rfl, rfl⟩ := h1
    have : ¬ (i = k ∧ k = i) := fun e => h e.1
    rw [st_on f y h, st_back, if_pos ⟨rfl, rfl⟩, if_neg this]; omega
  · by_cases h2 : i = b ∧ k = a
    · obtain ⟨rfl, rfl⟩ := h2
      have : ¬ (i = k ∧ k = i) := fun e => h e.1.symm
      rw [st_back, st_on f y h, if_neg this, if_pos ⟨rfl, rfl⟩]; omega
    · rw [st_else f y h2 h1, st_else f y (fun e => h1 ⟨e.2, e.1⟩) (fun e => h2 ⟨e.2, e.1⟩), if_neg h1, if_neg h2]; omega
theorem st_ex {n : Nat} (f : F2) (y : Int) {a b : Nat} (h : a ≠ b) (ha : a < n) (hb : b < n) (i : Nat) : ex n (st f y a b) i = ex n f i + (if i = a then y else 0) - (if i = b then y else 0) := by
  have e : ex n (st f y a b) i = sumTo (fun k => (f i k - f k i + (if i = a ∧ k = b then y else 0)) + -(if i = b ∧ k = a then y else 0)) n := sum_eq n fun k _ => by rw [st_net f y h]; omega
  rw [e, sum_add, sum_add, sum_neg]
  have e1 : sumTo (fun k => if i = a ∧ k = b then y else 0) n = if i = a then y else 0 := by
    rw [sum_only (x := b) n hb]
    · simp
    · intro k _ hne; simp [hne]
  have e2 : sumTo (fun k => if i = b ∧ k = a then y else 0) n = if i = b then y else 0 := by
    rw [sum_only (x := a) n ha]
    · simp
    · intro k _ hne; simp [hne]
  rw [e1, e2]
  unfold ex
  omega
theorem st_cap {n : Nat} {w f : F2} {y : Int} {a b : Nat} (hc : Cap n w f) (h : a ≠ b) (ha : a < n) (hb : b < n) (hy : 0 ≤ y) (hr : y ≤ room w f a b) : Cap n w (st f y a b) := by
  have h1 := hc.lo b a hb ha
  have h2 := hc.hi b a hb ha
  have h3 := hc.lo a b ha hb
  have h4 := hc.hi a b ha hb
  unfold room at hr
  refine ⟨fun i k hi hk => ?_, fun i k hi hk => ?_⟩
  · by_cases e1 : i = b ∧ k = a
    · obtain ⟨rfl, rfl⟩ := e1; rw [st_back]; omega
    · by_cases e2 : i = a ∧ k = b
      · obtain ⟨rfl, rfl⟩ := e2; rw [st_on f y h]; omega
      · rw [st_else f y e1 e2]; exact hc.lo i k hi hk
  · by_cases e1 : i = b ∧ k = a
    · obtain ⟨rfl, rfl⟩ := e1; rw [st_back]; omega
    · by_cases e2 : i = a ∧ k = b
      · obtain ⟨rfl, rfl⟩ := e2; rw [st_on f y h]; omega
      · rw [st_else f y e1 e2]; exact hc.hi i k hi hk
/-- Along a way. -/
def push (y : Int) : F2 → List Nat → F2
  | f, a :: b :: r => push y (st f y a b) (b :: r)
  | f, _ => f
def Rooms (w f : F2) (y : Int) : List Nat → Prop
  | a :: b :: r => y ≤ room w f a b ∧ Rooms w f y (b :: r)
  | _ => True
theorem Rooms.off {w f : F2} {y z : Int} {a b : Nat} : ∀ {l : List Nat}, a ∉ l → Rooms w f y l → Rooms w (st f z a b) y l
  | [], _, _ => trivial
  | [_], _, _ => trivial
  | c :: d :: r, hn, h => by
    have hc : c ≠ a := fun e => hn (by simp [e])
    have hd : d ≠ a := fun e => hn (by simp [e])
    refine ⟨?_, Rooms.off (l := d :: r) (fun hm => hn (List.mem_cons_of_mem _ hm)) h.2⟩
    have := h.1
    unfold room at this ⊢
    rw [st_else f z (fun e => hd e.2) (fun e => hc e.1), st_else f z (fun e => hc e.2) (fun e => hd e.1)]
    exact this
/-- The last one of a way. -/
def lastOf : Nat → List Nat → Nat
  | a, [] => a
  | _, b :: r => lastOf b r
theorem push_all {n : Nat} {w : F2} {y : Int} (hy : 0 ≤ y) : ∀ (r : List Nat) {f : F2} {a : Nat}, Cap n w f → (a :: r).Nodup → (∀ x, x ∈ a :: r → x < n) → Rooms w f y (a :: r) → Cap n w (push y f (a :: r)) ∧ ∀ i, ex n (push y f (a :: r)) i = ex n f i + (if i = a then y else 0) - (if i = lastOf a r then y else 0)
  | [], f, a, hc, _, _, _ => ⟨hc, fun i => by simp only [push, lastOf]; omega⟩
  | b :: r, f, a, hc, hnd, hb, hr => by
    have hab : a ≠ b := fun e => (List.nodup_cons.1 hnd).1 (by simp [e])
    have han := hb a List.mem_cons_self
    have hbn := hb b (by simp)
    have h1 := st_cap hc hab han hbn hy hr.1
    have h2 := push_all hy r h1 (List.nodup_cons.1 hnd).2 (fun x hx => hb x (List.mem_cons_of_mem _ hx)) (Rooms.off (List.nodup_cons.1 hnd).1 hr.2)
    refine ⟨h2.1, fun i => ?_⟩
    have h3 := h2.2 i
    have h4 := st_ex (n := n) f y hab han hbn i
    show ex n (push y (st f y a b) (b :: r)) i = _
    rw [h3, h4]
    show _ = ex n f i + (if i = a then y else 0) - (if i = lastOf b r then y else 0)
    by_cases e1 : i = b <;> by_cases e2 : i = a <;> simp only [e1, e2, if_true, if_false] <;> omega
/-- A way from 0 to the last one that is pushed makes a flow just so much more. -/
theorem push_flow {n : Nat} {w f : F2} {y : Int} {r : List Nat} (hf : Flow n w f) (hn : 2 ≤ n) (hy : 0 ≤ y) (hnd : (0 :: r).Nodup) (hb : ∀ x, x ∈ 0 :: r → x < n) (hr : Rooms w f y (0 :: r)) (hl : lastOf 0 r = n - 1) : Flow n w (push y f (0 :: r)) ∧ ex n (push y f (0 :: r)) 0 = ex n f 0 + y := by
  obtain ⟨h1, h2⟩ := push_all hy r hf.cap hnd hb hr
  refine ⟨⟨h1, fun i h0 hi => ?_⟩, ?_⟩
  · rw [h2 i, hl, if_neg (by omega), if_neg (by omega), hf.bal i h0 hi]; omega
  · rw [h2 0, hl, if_pos rfl, if_neg (by omega)]; omega
end Go.Proofs.Ytnepjahhconodaa.Fl
namespace Go.Proofs.Ytnepjahhconodaa
namespace Nt
def rowB (g : Int) (n : Nat) (r : List Int) : Bool := decide (r.length = n) && Pf.allB r 0 g
def sqB (g : Int) (c : List (List Int)) : Bool := c.all (rowB g c.length)
theorem rowB_len {g : Int} {n : Nat} {r : List Int} (h : r.length ≠ n) : rowB g n r = false := by simp [rowB, h]
theorem rowB_all {g : Int} {n : Nat} {r : List Int} (h : r.length = n) : rowB g n r = Pf.allB r 0 g := by simp [rowB, h]
theorem sqB_row {g : Int} {c : List (List Int)} (h : sqB g c = true) {i : Nat} (hi : i < c.length) : (c.getD i []).length = c.length ∧ Pf.allB (c.getD i []) 0 g = true := by
  have h2 := List.all_eq_true.1 h (c.getD i []) (by rw [Pf.getD_lt _ _ hi]; exact List.getElem_mem hi)
  simpa [rowB] using h2
theorem sqB_not {g : Int} {c : List (List Int)} {i : Nat} (hi : i < c.length) (h : rowB g c.length (c.getD i []) = false) : sqB g c = false := by
  cases e : sqB g c
  · rfl
  · have := sqB_row e hi
    rw [rowB, this.1, this.2] at h
    simp at h
theorem sqB_of {g : Int} {c : List (List Int)} (h : ∀ i, i < c.length → rowB g c.length (c.getD i []) = true) : sqB g c = true := by
  refine List.all_eq_true.2 fun r hr => ?_
  obtain ⟨i, hi, rfl⟩ := List.getElem_of_mem hr
  have := h i hi
  rwa [Pf.getD_lt _ _ hi] at this
end Nt
open Go.RowKit

theorem areb9_eqn {a : Option Addr} {n c : Nat} {xs : List Int} {lo hi : Int} {w : World} {r : Bool} (h : Hid (ARow w a xs)) (hn : Hid (xs.length = n)) (hl : n ≤ 1048576) (hr : Hid (Pf.allB xs lo hi = r)) :
    Calls Try.prog 63 #[.slice a n c, .int .i64 lo, .int .i64 hi] w fun e w' => e = .returned (.bool r) ∧ w' = w := by
  have := hn.out
  subst this
  have := areb_any (c := c) (lo := lo) (hi := hi) h.out (by omega)
  rwa [hr.out] at this
theorem all9_eqn {a : Option Addr} {n c : Nat} {xs : List Int} {lo hi : Int} {w : World} {r : Bool} (h : Hid (ARow w a xs)) (hn : Hid (xs.length = n)) (hl : n ≤ 1048576) (hr : Hid (Pf.allB xs lo hi = r)) :
    Calls Try.prog 54 #[.slice a n c, .int .i64 lo, .int .i64 hi] w fun e w' => e = .returned (.bool r) ∧ w' = w := by
  have := hn.out
  subst this
  have := all_any (c := c) (lo := lo) (hi := hi) h.out (by omega)
  rwa [hr.out] at this
set_option maxRecDepth 100000 in
set_option maxHeartbeats 2000000 in
theorem as_any {a : Option Addr} {n c : Nat} {g : Int} {C : List (List Int)} {w : World} (hn : C.length = n) (hl : n ≤ 1048576) (h : CRow w a C) :
    Calls Try.prog 53 #[.slice a n c, .int .i64 g] w fun e w' => e = .returned (.bool (Nt.sqB g C)) ∧ w' = w := by
  have HN := hide hn
  have H := hide h
  have HNOT := hide fun (i : Nat) (hi : i < C.length) (hh : Nt.rowB g C.length (C.getD i []) = false) => Nt.sqB_not hi hh
  have HOF := hide (@Nt.sqB_of g C)
  rw [hn] at HNOT HOF
  generalize Nt.sqB g C = G at *
  clear h hn
  go_enter Try.func53, Try.ntmps53
  go_wp2_with fail
  go_loop [4, 6, 9] (fun s2 _ s => ∃ (k : Nat), s2 = .bool false ∧ s = .int .i64 k ∧ k ≤ n ∧ Hid (∀ i, i < k → Nt.rowB g n (C.getD i []) = true)) (fun _ _ s => n - (intOf s).toNat)
  case atStart => exact ⟨0, rfl, rfl, Nat.zero_le _, hide fun i hi => absurd hi (Nat.not_lt_zero _)⟩
  case round =>
    obtain ⟨k, rfl, rfl, hk, HK⟩ := hrel
    by_cases hlt : k < n
    · obtain ⟨b, off, ai, ci, rfl, hb, r1, R1⟩ := H.out.at (i := k) (by rw [HN.out]; exact hlt)
      have j0 : (0 : Int) ≤ (k : Int) := by omega
      have j1 : (k : Int) < (n : Int) := by omega
      have HR := hide R1
      have HRB := hide (fun h => Nt.rowB_all (g := g) (r := C.getD k []) (n := n) h)
      have HRL := hide (fun h => Nt.rowB_len (g := g) (r := C.getD k []) (n := n) h)
      generalize hq : (C.getD k []).length = q at r1 HRB HRL
      have HQ := hide hq
      clear hq R1
      by_cases e : q = n
      · subst e
        have he : ((q : Int) != (q : Int)) = false := by simp
        cases hal : Pf.allB (C.getD k []) 0 g
        · have HAL := hide hal
          have H1 := hide (HNOT.out k hlt ((HRB.out rfl).trans hal))
          clear hal
          go_wp2_with fail
          refine (areb9_eqn HR HQ (by omega) HAL).mono ?_
          rintro e w1 ⟨rfl, hw1⟩
          obtain rfl : w = w1 := hw1.symm
          go_wp2_with fail
          go_ret
          exact ⟨ret_bool H1.out.symm, rfl⟩
        · have HAL := hide hal
          have H1 : Hid (∀ i, i < k + 1 → Nt.rowB g q (C.getD i []) = true) := hide fun i hi => by
            by_cases e : i = k
            · subst e; exact (HRB.out rfl).trans hal
            · exact HK.out i (by omega)
          clear hal
          go_wp2_with fail
          refine (areb9_eqn HR HQ (by omega) HAL).mono ?_
          rintro e w1 ⟨rfl, hw1⟩
          obtain rfl : w = w1 := hw1.symm
          go_wp2_with fail
          go_round
          case rel => exact ⟨k + 1, rfl, by go_num, by omega, H1⟩
          case measure => simp only [intOf]; omega
      · have he : ((q : Int) != (n : Int)) = true := by simp; omega
        have H1 := hide (HNOT.out k hlt (HRL.out e))
        clear e
        go_wp2_with fail
        go_ret
        exact ⟨ret_bool H1.out.symm, rfl⟩
    · have hke : k = n := by omega
      subst hke
      have H1 := hide (HOF.out HK.out)
      go_wp2_with fail
      go_ret
      exact ⟨ret_bool H1.out.symm, rfl⟩
theorem as_eq {a : Option Addr} {n c : Nat} {g : Int} {C : List (List Int)} {w : World} {r : Bool} (hn : Hid (C.length = n)) (hl : n ≤ 1048576) (h : Hid (CRow w a C)) (hr : Hid (Nt.sqB g C = r)) :
    Calls Try.prog 53 #[.slice a n c, .int .i64 g] w fun e w' => e = .returned (.bool r) ∧ w' = w := hr.out ▸ as_any hn.out hl h.out
end Go.Proofs.Ytnepjahhconodaa
namespace Go.Proofs.Ytnepjahhconodaa.Nt
open Bx (sumTo)

/-- 2 to 8 rows of as many numbers in 0..50. -/
def rowsB (c : List (List Int)) : Bool := Pf.inB (c.length : Int) 2 8 && sqB 50 c
def at2 (c : List (List Int)) (i k : Nat) : Int := (c.getD i []).getD k 0
theorem rowsB_len {c : List (List Int)} (h : rowsB c = true) : 2 ≤ c.length ∧ c.length ≤ 8 := by
  simp only [rowsB, Bool.and_eq_true] at h
  have := Pf.inB_yes h.1
  omega
theorem rowsB_sq {c : List (List Int)} (h : rowsB c = true) : sqB 50 c = true := by
  simp only [rowsB, Bool.and_eq_true] at h; exact h.2
theorem rowsB_row {c : List (List Int)} (h : rowsB c = true) {i : Nat} (hi : i < c.length) : (c.getD i []).length = c.length := (sqB_row (rowsB_sq h) hi).1
theorem rowsB_bd {c : List (List Int)} (h : rowsB c = true) {i k : Nat} (hi : i < c.length) (hk : k < c.length) : 0 ≤ at2 c i k ∧ at2 c i k ≤ 50 := by
  have h1 := sqB_row (rowsB_sq h) hi
  have := Pf.inB_yes (Pf.allB_get h1.2 (i := k) (by omega))
  exact this
def netB (c : List (List Int)) : Bool := rowsB c && (List.range c.length).all fun i => at2 c i i == 0
theorem netB_rows {c : List (List Int)} (h : netB c = true) : rowsB c = true := by
  simp only [netB, Bool.and_eq_true] at h; exact h.1
theorem netB_diag {c : List (List Int)} (h : netB c = true) {i : Nat} (hi : i < c.length) : at2 c i i = 0 := by
  simp only [netB, Bool.and_eq_true, List.all_eq_true, List.mem_range] at h
  simpa using h.2 i hi
theorem netB_no {c : List (List Int)} (h : rowsB c = false) : netB c = false := by simp [netB, h]
theorem netB_not {c : List (List Int)} {i : Nat} (hi : i < c.length) (h : at2 c i i ≠ 0) : netB c = false := by
  cases e : netB c
  · rfl
  · exact absurd (netB_diag e hi) h
theorem netB_of {c : List (List Int)} (h : rowsB c = true) (hd : ∀ i, i < c.length → at2 c i i = 0) : netB c = true := by
  simp only [netB, Bool.and_eq_true, List.all_eq_true, List.mem_range]
  exact ⟨h, fun i hi => by simp [hd i hi]⟩
/-- What goes out of a hall less what goes into it. -/
def outI (c : List (List Int)) (h : Nat) : Int := Fl.ex c.length (at2 c) h
def fvI (c : List (List Int)) : Int := if rowsB c then outI c 0 else 0
theorem sumTo_bd {f : Nat → Int} {lo hi : Int} : ∀ n, (∀ i, i < n → lo ≤ f i ∧ f i ≤ hi) → lo * n ≤ sumTo f n ∧ sumTo f n ≤ hi * n
  | 0, _ => by simp [sumTo]
  | n + 1, h => by
    have h1 := sumTo_bd n fun i hi => h i (by omega)
    have h2 := h n (by omega)
    have e1 : lo * ((n + 1 : Nat) : Int) = lo * n + lo := by rw [Int.natCast_add, Int.mul_add]; simp
    have e2 : hi * ((n + 1 : Nat) : Int) = hi * n + hi := by rw [Int.natCast_add, Int.mul_add]; simp
    simp only [sumTo]
    rw [e1, e2]
    omega
theorem sumTo_sub (f g : Nat → Int) : ∀ n, sumTo (fun k => f k - g k) n = sumTo f n - sumTo g n
  | 0 => by simp [sumTo]
  | n + 1 => by simp only [sumTo]; rw [sumTo_sub f g n]; omega
theorem sum_list : ∀ (l : List Int), l.sum = sumTo (fun k => l.getD k 0) l.length := by
  intro l
  have : ∀ k, k ≤ l.length → (l.take k).sum = sumTo (fun k => l.getD k 0) k := by
    intro k
    induction k with
    | zero => intro _; simp [sumTo]
    | succ k ih =>
      intro hk
      rw [List.take_succ_eq_append_getElem (by omega), List.sum_append, ih (by omega)]
      simp only [sumTo]
      rw [Pf.getD_lt _ _ (show k < l.length by omega)]
      simp
  have h := this l.length (Nat.le_refl _)
  rwa [List.take_length] at h
/-- All of a row less the first so many of a column. -/
theorem out_eq {c : List (List Int)} {h : Nat} (hl : (c.getD h []).length = c.length) : outI c h = (c.getD h []).sum - sumTo (fun k => at2 c k h) c.length := by
  rw [outI, Fl.ex, sumTo_sub, sum_list, hl]; rfl
/-- The halls of a side: rising, with 0, without the last one. -/
def sideB (c : List (List Int)) (s : List Int) : Bool := netB c && (decide (0 < s.length) && (s.getD 0 0 == 0) && Ma.riseB s (c.length - 1))
end Go.Proofs.Ytnepjahhconodaa.Nt
namespace Go.Proofs.Ytnepjahhconodaa
open Go.RowKit
open Bx (sumTo)

/-- One number of the rows, in memory. -/
theorem crow_at2 {w : World} {a : Option Addr} {C : List (List Int)} (h : CRow w a C) {n i k : Nat} (hn : C.length = n) (hr : Nt.rowsB C = true) (hi : i < n) (hk : k < n) :
    ∃ b off b' off' ci, a = some ⟨b, off, none⟩ ∧ w.cell? ⟨b, off + i, none⟩ = some (.slice (some ⟨b', off', none⟩) n ci) ∧ w.cell? ⟨b', off' + k, none⟩ = some (.int .i64 (Nt.at2 C i k)) := by
  obtain ⟨b, off, ai, ci, ha, _, h1, h2⟩ := h.at (i := i) (by omega)
  have hl := Nt.rowsB_row hr (i := i) (by omega)
  obtain ⟨b', off', e, h3⟩ := h2.at (i := k) (by omega)
  subst e
  rw [hl, hn] at h1
  exact ⟨b, off, b', off', ci, ha, h1, h3⟩
set_option maxRecDepth 100000 in
set_option maxHeartbeats 1000000 in
theorem ahr_any {a : Option Addr} {n c : Nat} {C : List (List Int)} {w : World} (hn : C.length = n) (h : CRow w a C) :
    Calls Try.prog 31 #[.slice a n c] w fun e w' => e = .returned (.bool (Nt.rowsB C)) ∧ w' = w := by
  have HE : Hid (Nt.rowsB C = (Pf.inB (n : Int) 2 8 && Nt.sqB 50 C)) := hide (by rw [Nt.rowsB, hn])
  cases hi : Pf.inB (n : Int) 2 8
  · have H1 : Hid (Nt.rowsB C = false) := hide (by rw [HE.out, hi]; rfl)
    generalize Nt.rowsB C = G at *
    clear h hn HE
    go_enter Try.func31, Try.ntmps31
    go_wp2_with fail
    refine (between_eq hi).mono ?_
    rintro e w1 ⟨rfl, hw1⟩
    obtain rfl : w = w1 := hw1.symm
    go_wp2_with fail
    go_ret
    exact ⟨ret_bool H1.out.symm, rfl⟩
  · have hl := Pf.inB_yes hi
    have H1 : Hid (Nt.rowsB C = Nt.sqB 50 C) := hide (by rw [HE.out, hi]; rfl)
    have HC := hide (as_any (c := c) (g := 50) hn (by omega) h)
    generalize Nt.rowsB C = G at *
    generalize Nt.sqB 50 C = Y at *
    clear h hn HE
    go_enter Try.func31, Try.ntmps31
    go_wp2_with fail
    refine (between_eq hi).mono ?_
    rintro e w1 ⟨rfl, hw1⟩
    obtain rfl : w = w1 := hw1.symm
    go_wp2_with fail
    refine HC.out.mono ?_
    rintro e w1 ⟨rfl, hw1⟩
    obtain rfl : w = w1 := hw1.symm
    go_wp2_with fail
    go_ret
    exact ⟨ret_bool H1.out.symm, rfl⟩
theorem ahr_eq {a : Option Addr} {n c : Nat} {C : List (List Int)} {w : World} {r : Bool} (hn : Hid (C.length = n)) (h : Hid (CRow w a C)) (hr : Hid (Nt.rowsB C = r)) :
    Calls Try.prog 31 #[.slice a n c] w fun e w' => e = .returned (.bool r) ∧ w' = w := hr.out ▸ ahr_any hn.out h.out
set_option maxRecDepth 100000 in
set_option maxHeartbeats 2000000 in
theorem slr_any {a : Option Addr} {n c : Nat} {C : List (List Int)} {w : World} (hn : C.length = n) (hl : n ≤ 1048576) (h : CRow w a C) :
    Calls Try.prog 32 #[.slice a n c] w fun e w' => e = .returned (.bool (Nt.rowsB C)) ∧ w' = w := by
  have HE : Hid (Nt.rowsB C = (Pf.inB (n : Int) 2 8 && Nt.sqB 50 C)) := hide (by rw [Nt.rowsB, hn])
  have HN := hide hn
  have H := hide h
  have HNOT := hide fun (i : Nat) (hi : i < C.length) (hh : Nt.rowB 50 C.length (C.getD i []) = false) => Nt.sqB_not hi hh
  have HOF := hide (@Nt.sqB_of 50 C)
  rw [hn] at HNOT HOF
  generalize Nt.rowsB C = G at *
  generalize Nt.sqB 50 C = Y at *
  clear h hn
  go_enter Try.func32, Try.ntmps32
  go_wp2_with fail
  go_loop [2, 4, 7] (fun s2 _ s => ∃ (k : Nat), s2 = .bool false ∧ s = .int .i64 k ∧ k ≤ n ∧ Hid (∀ i, i < k → Nt.rowB 50 n (C.getD i []) = true)) (fun _ _ s => n - (intOf s).toNat)
  case atStart => exact ⟨0, rfl, rfl, Nat.zero_le _, hide fun i hi => absurd hi (Nat.not_lt_zero _)⟩
  case round =>
    obtain ⟨k, rfl, rfl, hk, HK⟩ := hrel
    by_cases hlt : k < n
    · obtain ⟨b, off, ai, ci, rfl, hb, r1, R1⟩ := H.out.at (i := k) (by rw [HN.out]; exact hlt)
      have j0 : (0 : Int) ≤ (k : Int) := by omega
      have j1 : (k : Int) < (n : Int) := by omega
      have HR := hide R1
      have HRB := hide (fun h => Nt.rowB_all (g := 50) (r := C.getD k []) (n := n) h)
      have HRL := hide (fun h => Nt.rowB_len (g := 50) (r := C.getD k []) (n := n) h)
      generalize hq : (C.getD k []).length = q at r1 HRB HRL
      have HQ := hide hq
      clear hq R1
      by_cases e : q = n
      · subst e
        have he : ((q : Int) != (q : Int)) = false := by simp
        cases hal : Pf.allB (C.getD k []) 0 50
        · have HAL := hide hal
          have H1 : Hid (G = false) := hide (by rw [HE.out, HNOT.out k hlt ((HRB.out rfl).trans hal), Bool.and_false])
          clear hal
          go_wp2_with fail
          refine (all9_eqn HR HQ (by omega) HAL).mono ?_
          rintro e w1 ⟨rfl, hw1⟩
          obtain rfl : w = w1 := hw1.symm
          go_wp2_with fail
          go_ret
          exact ⟨ret_bool H1.out.symm, rfl⟩
        · have HAL := hide hal
          have H1 : Hid (∀ i, i < k + 1 → Nt.rowB 50 q (C.getD i []) = true) := hide fun i hi => by
            by_cases e : i = k
            · subst e; exact (HRB.out rfl).trans hal
            · exact HK.out i (by omega)
          clear hal
          go_wp2_with fail
          refine (all9_eqn HR HQ (by omega) HAL).mono ?_
          rintro e w1 ⟨rfl, hw1⟩
          obtain rfl : w = w1 := hw1.symm
          go_wp2_with fail
          go_round
          case rel => exact ⟨k + 1, rfl, by go_num, by omega, H1⟩
          case measure => simp only [intOf]; omega
      · have he : ((q : Int) != (n : Int)) = true := by simp; omega
        have H1 : Hid (G = false) := hide (by rw [HE.out, HNOT.out k hlt (HRL.out e), Bool.and_false])
        clear e
        go_wp2_with fail
        go_ret
        exact ⟨ret_bool H1.out.symm, rfl⟩
    · have hke : k = n := by omega
      subst hke
      have H1 : Hid (G = Pf.inB (k : Int) 2 8) := hide (by rw [HE.out, HOF.out HK.out, Bool.and_true])
      cases hi : Pf.inB (k : Int) 2 8
      · have hi' := hide (Pf.inB_no hi)
        go_wp2_with fail
        refine (in_no hi'.out).mono ?_
        rintro e w1 ⟨rfl, hw1⟩
        obtain rfl : w = w1 := hw1.symm
        go_wp2_with fail
        go_ret
        exact ⟨ret_bool (H1.out.trans hi).symm, rfl⟩
      · have hi' := Pf.inB_yes hi
        go_wp2_with fail
        refine (in_yes hi'.1 hi'.2).mono ?_
        rintro e w1 ⟨rfl, hw1⟩
        obtain rfl : w = w1 := hw1.symm
        go_wp2_with fail
        go_ret
        exact ⟨ret_bool (H1.out.trans hi).symm, rfl⟩
theorem slr_eq {a : Option Addr} {n c : Nat} {C : List (List Int)} {w : World} {r : Bool} (hn : Hid (C.length = n)) (hl : n ≤ 1048576) (h : Hid (CRow w a C)) (hr : Hid (Nt.rowsB C = r)) :
    Calls Try.prog 32 #[.slice a n c] w fun e w' => e = .returned (.bool r) ∧ w' = w := hr.out ▸ slr_any hn.out hl h.out
set_option maxRecDepth 100000 in
set_option maxHeartbeats 1000000 in
theorem gn_any {a : Option Addr} {n c : Nat} {C : List (List Int)} {w : World} (hn : C.length = n) (h : CRow w a C) :
    Calls Try.prog 16 #[.slice a n c] w fun e w' => e = .returned (.bool (Nt.netB C)) ∧ w' = w := by
  have HN := hide hn
  have H := hide h
  cases hr : Nt.rowsB C
  · have HR := hide hr
    have H1 := hide (Nt.netB_no hr)
    generalize Nt.netB C = G at *
    clear h hn hr
    go_enter Try.func16, Try.ntmps16
    go_wp2_with fail
    refine (ahr_eq HN H HR).mono ?_
    rintro e w1 ⟨rfl, hw1⟩
    obtain rfl : w = w1 := hw1.symm
    go_wp2_with fail
    go_ret
    exact ⟨ret_bool H1.out.symm, rfl⟩
  · have HR := hide hr
    have HNOT := hide fun (i : Nat) (hi : i < C.length) (hh : Nt.at2 C i i ≠ 0) => Nt.netB_not hi hh
    have HOF := hide fun h => Nt.netB_of hr h
    rw [hn] at HNOT HOF
    have h8 := Nt.rowsB_len hr
    rw [hn] at h8
    obtain ⟨h2, h8⟩ := h8
    generalize Nt.netB C = G at *
    clear h hn hr
    go_enter Try.func16, Try.ntmps16
    go_wp2_with fail
    refine (ahr_eq HN H HR).mono ?_
    rintro e w1 ⟨rfl, hw1⟩
    obtain rfl : w = w1 := hw1.symm
    go_wp2_with fail
    go_loop [2, 3, 4, 10] (fun s2 _ _ s => ∃ (k : Nat), s2 = .bool false ∧ s = .int .i64 k ∧ k ≤ n ∧ Hid (∀ i, i < k → Nt.at2 C i i = 0)) (fun _ _ _ s => n - (intOf s).toNat)
    case atStart => exact ⟨0, rfl, rfl, Nat.zero_le _, hide fun i hi => absurd hi (Nat.not_lt_zero _)⟩
    case round =>
      obtain ⟨k, rfl, rfl, hk, HK⟩ := hrel
      by_cases hlt : k < n
      · obtain ⟨b, off, b', off', ci, rfl, r1, r2⟩ := crow_at2 H.out HN.out HR.out hlt hlt
        have j0 : (0 : Int) ≤ (k : Int) := by omega
        have j1 : (k : Int) < (n : Int) := by omega
        have HNK := hide (HNOT.out k hlt)
        have HKK : Hid (Nt.at2 C k k = 0 → ∀ i, i < k + 1 → Nt.at2 C i i = 0) := hide fun h0 i hi => by
          by_cases e : i = k
          · subst e; exact h0
          · exact HK.out i (by omega)
        generalize Nt.at2 C k k = x at *
        by_cases e : x = 0
        · subst e
          have H1 := hide (HKK.out rfl)
          go_wp2_with fail
          go_round
          case rel => exact ⟨k + 1, rfl, by go_num, by omega, H1⟩
          case measure => simp only [intOf]; omega
        · have H1 := hide (HNK.out e)
          have he : (x != (0 : Int)) = true := by simpa using e
          clear e
          go_wp2_with fail
          go_ret
          exact ⟨ret_bool H1.out.symm, rfl⟩
      · have hke : k = n := by omega
        subst hke
        have H1 := hide (HOF.out HK.out)
        go_wp2_with fail
        go_ret
        exact ⟨ret_bool H1.out.symm, rfl⟩
theorem gn_eq {a : Option Addr} {n c : Nat} {C : List (List Int)} {w : World} {r : Bool} (hn : Hid (C.length = n)) (h : Hid (CRow w a C)) (hr : Hid (Nt.netB C = r)) :
    Calls Try.prog 16 #[.slice a n c] w fun e w' => e = .returned (.bool r) ∧ w' = w := hr.out ▸ gn_any hn.out h.out
set_option maxRecDepth 100000 in
set_option maxHeartbeats 1000000 in
theorem sgn_any {a : Option Addr} {n c : Nat} {C : List (List Int)} {w : World} (hn : C.length = n) (hl : n ≤ 1048576) (h : CRow w a C) :
    Calls Try.prog 20 #[.slice a n c] w fun e w' => e = .returned (.bool (Nt.netB C)) ∧ w' = w := by
  have HN := hide hn
  have H := hide h
  cases hr : Nt.rowsB C
  · have HR := hide hr
    have H1 := hide (Nt.netB_no hr)
    generalize Nt.netB C = G at *
    clear h hn hr
    go_enter Try.func20, Try.ntmps20
    go_wp2_with fail
    refine (slr_eq HN hl H HR).mono ?_
    rintro e w1 ⟨rfl, hw1⟩
    obtain rfl : w = w1 := hw1.symm
    go_wp2_with fail
    go_ret
    exact ⟨ret_bool H1.out.symm, rfl⟩
  · have HR := hide hr
    have HNOT := hide fun (i : Nat) (hi : i < C.length) (hh : Nt.at2 C i i ≠ 0) => Nt.netB_not hi hh
    have HOF := hide fun h => Nt.netB_of hr h
    rw [hn] at HNOT HOF
    have h8 := Nt.rowsB_len hr
    rw [hn] at h8
    obtain ⟨h2, h8⟩ := h8
    generalize Nt.netB C = G at *
    clear h hn hr
    go_enter Try.func20, Try.ntmps20
    go_wp2_with fail
    refine (slr_eq HN hl H HR).mono ?_
    rintro e w1 ⟨rfl, hw1⟩
    obtain rfl : w = w1 := hw1.symm
    go_wp2_with fail
    go_loop [2, 3, 9] (fun s2 _ s => ∃ (k : Nat), s2 = .bool false ∧ s = .int .i64 k ∧ k ≤ n ∧ Hid (∀ i, i < k → Nt.at2 C i i = 0)) (fun _ _ s => n - (intOf s).toNat)
    case atStart => exact ⟨0, rfl, rfl, Nat.zero_le _, hide fun i hi => absurd hi (Nat.not_lt_zero _)⟩
    case round =>
      obtain ⟨k, rfl, rfl, hk, HK⟩ := hrel
      by_cases hlt : k < n
      · obtain ⟨b, off, b', off', ci, rfl, r1, r2⟩ := crow_at2 H.out HN.out HR.out hlt hlt
        have j0 : (0 : Int) ≤ (k : Int) := by omega
        have j1 : (k : Int) < (n : Int) := by omega
        have HNK := hide (HNOT.out k hlt)
        have HKK : Hid (Nt.at2 C k k = 0 → ∀ i, i < k + 1 → Nt.at2 C i i = 0) := hide fun h0 i hi => by
          by_cases e : i = k
          · subst e; exact h0
          · exact HK.out i (by omega)
        generalize Nt.at2 C k k = x at *
        by_cases e : x = 0
        · subst e
          have H1 := hide (HKK.out rfl)
          go_wp2_with fail
          go_round
          case rel => exact ⟨k + 1, rfl, by go_num, by omega, H1⟩
          case measure => simp only [intOf]; omega
        · have H1 := hide (HNK.out e)
          have he : (x != (0 : Int)) = true := by simpa using e
          clear e
          go_wp2_with fail
          go_ret
          exact ⟨ret_bool H1.out.symm, rfl⟩
      · have hke : k = n := by omega
        subst hke
        have H1 := hide (HOF.out HK.out)
        go_wp2_with fail
        go_ret
        exact ⟨ret_bool H1.out.symm, rfl⟩
theorem sgn_eq {a : Option Addr} {n c : Nat} {C : List (List Int)} {w : World} {r : Bool} (hn : Hid (C.length = n)) (hl : n ≤ 1048576) (h : Hid (CRow w a C)) (hr : Hid (Nt.netB C = r)) :
    Calls Try.prog 20 #[.slice a n c] w fun e w' => e = .returned (.bool r) ∧ w' = w := hr.out ▸ sgn_any hn.out hl h.out
theorem isum13 {a : Option Addr} {n c : Nat} {xs : List Int} {w : World} {S : Int} (hx : Hid (xs.length = n)) (hn : n ≤ 8) (ha : Hid (ARow w a xs)) (hg : Hid (Pf.allB xs 0 50 = true)) (hs : Hid (xs.sum = S)) :
    Calls Try.prog 45 #[.slice a n c] w fun e w' => e = .returned (.int .i64 S) ∧ w' = w := by
  have h1 := hx.out
  have h2 := hs.out
  subst h1 h2
  exact isum_any ha.out (by omega) (Pf.allB_of fun i hi => by have := Pf.inB_yes (Pf.allB_get hg.out hi); exact Pf.inB_of (by omega) (by omega))
set_option maxRecDepth 100000 in
set_option maxHeartbeats 1000000 in
theorem oli_any {a : Option Addr} {n c h : Nat} {C : List (List Int)} {w : World} (HN : Hid (C.length = n)) (hh : h < n) (HR : Hid (Nt.rowsB C = true)) (H : Hid (CRow w a C)) :
    Calls Try.prog 23 #[.slice a n c, .int .i64 (h : Int)] w fun e w' => e = .returned (.int .i64 (Nt.outI C h)) ∧ w' = w := by
  have h8 := Nt.rowsB_len HR.out
  rw [HN.out] at h8
  obtain ⟨h2, h8⟩ := h8
  have hrow := Nt.sqB_row (Nt.rowsB_sq HR.out) (i := h) (by rw [HN.out]; exact hh)
  have HE := hide (Nt.out_eq (c := C) (h := h) hrow.1)
  obtain ⟨b, off, ai, ci, rfl, hb, r1, R1⟩ := H.out.at (i := h) (by rw [HN.out]; exact hh)
  have HL : Hid ((C.getD h []).length = n) := hide (hrow.1.trans HN.out)
  have HAl := hide hrow.2
  have HR1 := hide R1
  have hS : 0 ≤ (C.getD h []).sum ∧ (C.getD h []).sum ≤ 400 := by
    have e1 := Nt.sum_list (C.getD h [])
    have e2 := Nt.sumTo_bd (f := fun k => (C.getD h []).getD k 0) (lo := 0) (hi := 50) n fun i hi => Pf.inB_yes (Pf.allB_get HAl.out (i := i) (by rw [HL.out]; exact hi))
    rw [HL.out] at e1
    rw [e1]
    omega
  obtain ⟨S, eS⟩ : ∃ S, (C.getD h []).sum = S := ⟨_, rfl⟩
  have HS := hide eS
  rw [eS] at HE hS
  obtain ⟨S0, S1⟩ := hS
  rw [HL.out] at r1
  rw [HN.out] at HE
  clear hrow R1 eS
  generalize Nt.outI C h = G at *
  have j0 : (0 : Int) ≤ (h : Int) := by omega
  have j1 : (h : Int) < (n : Int) := by omega
  go_enter Try.func23, Try.ntmps23
  go_wp2_with fail
  refine (isum13 HL h8 HR1 HAl HS).mono ?_
  rintro e w1 ⟨rfl, hw1⟩
  obtain rfl : w = w1 := hw1.symm
  go_wp2_with fail
  go_loop [5, 7, 15] (fun s5 _ s => ∃ (k : Nat) (x : Int), s5 = .int .i64 x ∧ s = .int .i64 k ∧ k ≤ n ∧ Hid (x = S - sumTo (fun k => Nt.at2 C k h) k)) (fun _ _ s => n - (intOf s).toNat)
  case atStart => exact ⟨0, S, rfl, rfl, Nat.zero_le _, hide (by simp [sumTo])⟩
  case round =>
    obtain ⟨k, x, rfl, rfl, hk, HX⟩ := hrel
    by_cases hlt : k < n
    · obtain ⟨b1, off1, b', off', ci', e1, r2, r3⟩ := crow_at2 H.out HN.out HR.out hlt hh
      cases e1
      have k0 : (0 : Int) ≤ (k : Int) := by omega
      have k1 : (k : Int) < (n : Int) := by omega
      have hbd := Nt.rowsB_bd HR.out (i := k) (k := h) (by rw [HN.out]; exact hlt) (by rw [HN.out]; exact hh)
      have hs := Nt.sumTo_bd (f := fun k => Nt.at2 C k h) (lo := 0) (hi := 50) k fun i hi => Nt.rowsB_bd HR.out (i := i) (k := h) (by rw [HN.out]; omega) (by rw [HN.out]; exact hh)
      have hx := HX.out
      have H1 : Hid (x - Nt.at2 C k h = S - sumTo (fun k => Nt.at2 C k h) (k + 1)) := hide (by rw [HX.out]; simp only [sumTo]; omega)
      generalize sumTo (fun k => Nt.at2 C k h) k = Z at hs hx
      generalize Nt.at2 C k h = y at *
      have x0 : -1000 ≤ x := by omega
      have x1 : x ≤ 1000 := by omega
      obtain ⟨y0, y1⟩ := hbd
      clear hs hx
      go_wp2_with fail
      go_round
      case rel => exact ⟨k + 1, x - y, by go_num, by go_num, by omega, H1⟩
      case measure => simp only [intOf]; omega
    · have hke : k = n := by omega
      subst hke
      have H1 : Hid (G = x) := hide (by rw [HX.out]; exact HE.out)
      go_wp2_with fail
      go_ret
      exact ⟨ret_int H1.out.symm, rfl⟩
set_option maxRecDepth 100000 in
set_option maxHeartbeats 1000000 in
theorem fv_any {a : Option Addr} {n c : Nat} {C : List (List Int)} {w : World} (hn : C.length = n) (h : CRow w a C) :
    Calls Try.prog 13 #[.slice a n c] w fun e w' => e = .returned (.tuple #[.int .i64 (Nt.fvI C), .bool (Nt.rowsB C)]) ∧ w' = w := by
  have HN := hide hn
  have H := hide h
  cases hr : Nt.rowsB C
  · have HR := hide hr
    have e0 : Nt.fvI C = 0 := by simp [Nt.fvI, hr]
    rw [e0]
    clear h hn hr e0
    go_enter Try.func13, Try.ntmps13
    go_wp2_with fail
    refine (ahr_eq HN H HR).mono ?_
    rintro e w1 ⟨rfl, hw1⟩
    obtain rfl : w = w1 := hw1.symm
    go_wp2_with fail
    go_ret2
    exact ⟨rfl, rfl⟩
  · have HR := hide hr
    have e0 : Nt.fvI C = Nt.outI C 0 := by simp [Nt.fvI, hr]
    rw [e0]
    have h8 := Nt.rowsB_len hr
    rw [hn] at h8
    have HC := hide (oli_any (c := c) (h := 0) HN (by omega) HR H)
    generalize Nt.outI C 0 = G at *
    clear h hn hr e0
    go_enter Try.func13, Try.ntmps13
    go_wp2_with fail
    refine (ahr_eq HN H HR).mono ?_
    rintro e w1 ⟨rfl, hw1⟩
    obtain rfl : w = w1 := hw1.symm
    go_wp2_with fail
    refine HC.out.mono ?_
    rintro e w1 ⟨rfl, hw1⟩
    obtain rfl : w = w1 := hw1.symm
    go_wp2_with fail
    go_ret2
    exact ⟨rfl, rfl⟩
set_option maxRecDepth 100000 in
set_option maxHeartbeats 1000000 in
theorem slv_any {a : Option Addr} {n c : Nat} {C : List (List Int)} {w : World} (HN : Hid (C.length = n)) (HR : Hid (Nt.rowsB C = true)) (H : Hid (CRow w a C)) :
    Calls Try.prog 33 #[.slice a n c] w fun e w' => e = .returned (.int .i64 (Nt.outI C 0)) ∧ Below w.heap.size w w' := by
  have h8 := Nt.rowsB_len HR.out
  rw [HN.out] at h8
  obtain ⟨h2, h8⟩ := h8
  have HE : Hid (Nt.outI C 0 = sumTo (fun k => Nt.at2 C 0 k - Nt.at2 C k 0) n) := hide (by rw [Nt.outI, Fl.ex, HN.out])
  generalize Nt.outI C 0 = G at *
  go_enter Try.func33, Try.ntmps33
  go_wp2_with fail
  go_loopw [3, 4, 7] (fun s3 _ s wr => ∃ (k : Nat) (x : Int), s3 = .int .i64 x ∧ s = .int .i64 k ∧ k ≤ n ∧ Hid (x = sumTo (fun k => Nt.at2 C 0 k - Nt.at2 C k 0) k) ∧ Hid (Below w.heap.size w wr)) (fun _ _ s _ => n - (intOf s).toNat)
  case atStart => exact ⟨0, 0, rfl, rfl, Nat.zero_le _, hide (by simp [sumTo]), hide (Below.refl _ _)⟩
  case round =>
    obtain ⟨k, x, rfl, rfl, hk, HX, HB⟩ := hrel
    by_cases hlt : k < n
    · obtain ⟨b, off, b', off', ci, rfl, r1, r2⟩ := crow_at2 (H.out.below HB.out) HN.out HR.out (show 0 < n by omega) hlt
      obtain ⟨b1, off1, b2, off2, ci', e1, r3, r4⟩ := crow_at2 (H.out.below HB.out) HN.out HR.out hlt (show 0 < n by omega)
      cases e1
      have k0 : (0 : Int) ≤ (k : Int) := by omega
      have k1 : (k : Int) < (n : Int) := by omega
      have n0 : (0 : Int) < (n : Int) := by omega
      have hb1 := Nt.rowsB_bd HR.out (i := 0) (k := k) (by rw [HN.out]; omega) (by rw [HN.out]; exact hlt)
      have hb2 := Nt.rowsB_bd HR.out (i := k) (k := 0) (by rw [HN.out]; exact hlt) (by rw [HN.out]; omega)
      have hs := Nt.sumTo_bd (f := fun k => Nt.at2 C 0 k - Nt.at2 C k 0) (lo := -50) (hi := 50) k fun i hi => by
        have h1 := Nt.rowsB_bd HR.out (i := 0) (k := i) (by rw [HN.out]; omega) (by rw [HN.out]; omega)
        have h2 := Nt.rowsB_bd HR.out (i := i) (k := 0) (by rw [HN.out]; omega) (by rw [HN.out]; omega)
        constructor <;> omega
      have hx := HX.out
      have H1 : Hid (x + (Nt.at2 C 0 k - Nt.at2 C k 0) = sumTo (fun k => Nt.at2 C 0 k - Nt.at2 C k 0) (k + 1)) := hide (by rw [HX.out]; simp only [sumTo])
      generalize sumTo (fun k => Nt.at2 C 0 k - Nt.at2 C k 0) k = Z at hs hx
      generalize Nt.at2 C 0 k = y at *
      generalize Nt.at2 C k 0 = z at *
      have x0 : -1000 ≤ x := by omega
      have x1 : x ≤ 1000 := by omega
      obtain ⟨y0, y1⟩ := hb1
      obtain ⟨z0, z1⟩ := hb2
      rw [Nat.add_zero] at r1 r4
      clear hs hx
      go_wp2_with fail
      go_quiet (fail)
      go_wp2_with fail
      go_roundw
      case rel => exact ⟨k + 1, x + (y - z), by go_num, by go_num, by omega, H1, hide (below_drewN HB.out _)⟩
      case measure => simp only [intOf]; omega
    · have hke : k = n := by omega
      subst hke
      have H1 : Hid (G = x) := hide (by rw [HX.out]; exact HE.out)
      go_wp2_with fail
      go_ret
      exact ⟨ret_int H1.out.symm, HB.out⟩
set_option maxRecDepth 100000 in
set_option maxHeartbeats 1000000 in
theorem sfv_any {a : Option Addr} {n c : Nat} {C : List (List Int)} {w : World} (hn : C.length = n) (hl : n ≤ 1048576) (h : CRow w a C) :
    Calls Try.prog 14 #[.slice a n c] w fun e w' => e = .returned (.tuple #[.int .i64 (Nt.fvI C), .bool (Nt.rowsB C)]) ∧ Below w.heap.size w w' := by
  have HN := hide hn
  have H := hide h
  cases hr : Nt.rowsB C
  · have HR := hide hr
    have e0 : Nt.fvI C = 0 := by simp [Nt.fvI, hr]
    rw [e0]
    clear h hn hr e0
    go_enter Try.func14, Try.ntmps14
    go_wp2_with fail
    refine (slr_eq HN hl H HR).mono ?_
    rintro e w1 ⟨rfl, hw1⟩
    obtain rfl : w = w1 := hw1.symm
    go_wp2_with fail
    go_ret2
    exact ⟨rfl, Below.refl _ _⟩
  · have HR := hide hr
    have e0 : Nt.fvI C = Nt.outI C 0 := by simp [Nt.fvI, hr]
    rw [e0]
    have HC := hide (slv_any (c := c) HN HR H)
    generalize Nt.outI C 0 = G at *
    clear h hn hr e0
    go_enter Try.func14, Try.ntmps14
    go_wp2_with fail
    refine (slr_eq HN hl H HR).mono ?_
    rintro e w1 ⟨rfl, hw1⟩
    obtain rfl : w = w1 := hw1.symm
    go_wp2_with fail
    refine HC.out.mono ?_
    rintro e w2 ⟨rfl, hb2⟩
    go_wp2_with fail
    go_ret2
    exact ⟨rfl, hb2⟩
end Go.Proofs.Ytnepjahhconodaa
namespace Go.Proofs.Ytnepjahhconodaa.Nt
open Bx (sumTo)

def roomAt (W F : List (List Int)) (i k : Nat) : Int := at2 W i k - at2 F i k + at2 F k i
def roomR (W F : List (List Int)) (i : Nat) : List Int := (List.range W.length).map (roomAt W F i)
def rooms (W F : List (List Int)) : List (List Int) := (List.range W.length).map (roomR W F)
theorem rooms_len (W F : List (List Int)) : (rooms W F).length = W.length := by simp [rooms]
theorem roomR_len (W F : List (List Int)) (i : Nat) : (roomR W F i).length = W.length := by simp [roomR]
theorem rooms_row (W F : List (List Int)) {i : Nat} (h : i < W.length) : (rooms W F).getD i [] = roomR W F i := by simp [rooms, h]
theorem roomR_at (W F : List (List Int)) {i k : Nat} (h : k < W.length) : (roomR W F i).getD k 0 = roomAt W F i k := by simp [roomR, h]
theorem rooms_at (W F : List (List Int)) {i k : Nat} (hi : i < W.length) (hk : k < W.length) : at2 (rooms W F) i k = roomAt W F i k := by rw [at2, rooms_row W F hi, roomR_at W F hk]
theorem rooms_snoc (W F : List (List Int)) {k : Nat} (hk : k < W.length) : (rooms W F).take k ++ [roomR W F k] = (rooms W F).take (k + 1) := by
  rw [List.take_add_one, List.getElem?_eq_getElem (by rw [rooms_len]; exact hk)]
  simp [rooms]
/-- Nowhere more than the width. -/
def withB (W F : List (List Int)) : Bool := (List.range W.length).all fun i => (List.range W.length).all fun k => decide (at2 F i k ≤ at2 W i k)
/-- As much in as out, but at the first hall and at the last one. -/
def passB (F : List (List Int)) : Bool := (List.range F.length).all fun i => decide (i = 0) || decide (F.length ≤ i + 1) || (outI F i == 0)
def flowB (W F : List (List Int)) : Bool := (rowsB F && decide (F.length = W.length)) && (withB W F && passB F)
/-- A flow of a net. -/
def nfB (W F : List (List Int)) : Bool := netB W && flowB W F
structure NF (W F : List (List Int)) : Prop where
  net : netB W = true
  rows : rowsB F = true
  len : F.length = W.length
  hi : ∀ i k, i < W.length → k < W.length → at2 F i k ≤ at2 W i k
  bal : ∀ i, 0 < i → i + 1 < W.length → outI F i = 0
theorem withB_iff {W F : List (List Int)} : withB W F = true ↔ ∀ i k, i < W.length → k < W.length → at2 F i k ≤ at2 W i k := by
  simp only [withB, List.all_eq_true, List.mem_range, decide_eq_true_eq]
  exact ⟨fun h i k hi hk => h i hi k hk, fun h i hi k hk => h i k hi hk⟩
theorem passB_iff {F : List (List Int)} : passB F = true ↔ ∀ i, 0 < i → i + 1 < F.length → outI F i = 0 := by
  simp only [passB, List.all_eq_true, List.mem_range, Bool.or_eq_true, decide_eq_true_eq, beq_iff_eq]
  refine ⟨fun h i h0 h1 => ?_, fun h i hi => ?_⟩
  · rcases h i (by omega) with (h | h) | h
    · omega
    · omega
    · exact h
  · by_cases e : i = 0
    · exact Or.inl (Or.inl e)
    · by_cases e2 : F.length ≤ i + 1
      · exact Or.inl (Or.inr e2)
      · exact Or.inr (h i (by omega) (by omega))
theorem nfB_iff {W F : List (List Int)} : nfB W F = true ↔ NF W F := by
  simp only [nfB, flowB, Bool.and_eq_true, decide_eq_true_eq, withB_iff, passB_iff]
  refine ⟨fun ⟨h1, ⟨h2, h3⟩, h4, h5⟩ => ⟨h1, h2, h3, h4, fun i h0 hi => h5 i h0 (by omega)⟩, fun h => ⟨h.net, ⟨h.rows, h.len⟩, h.hi, fun i h0 hi => h.bal i h0 (by rw [← h.len]; exact hi)⟩⟩
theorem NF.flow {W F : List (List Int)} (h : NF W F) : Fl.Flow W.length (at2 W) (at2 F) :=
  ⟨⟨fun i k hi hk => (rowsB_bd h.rows (i := i) (k := k) (by rw [h.len]; exact hi) (by rw [h.len]; exact hk)).1, h.hi⟩, fun i h0 hi => by have := h.bal i h0 hi; rw [outI, h.len] at this; exact this⟩
theorem NF.room_bd {W F : List (List Int)} (h : NF W F) {i k : Nat} (hi : i < W.length) (hk : k < W.length) : 0 ≤ roomAt W F i k ∧ roomAt W F i k ≤ 100 := by
  have h1 := rowsB_bd (netB_rows h.net) hi hk
  have h2 := rowsB_bd h.rows (i := i) (k := k) (by rw [h.len]; exact hi) (by rw [h.len]; exact hk)
  have h3 := rowsB_bd h.rows (i := k) (k := i) (by rw [h.len]; exact hk) (by rw [h.len]; exact hi)
  have h4 := h.hi i k hi hk
  unfold roomAt
  omega
/-- No flow at all. -/
def zeros (n : Nat) : List (List Int) := List.replicate n (List.replicate n 0)
theorem zeros_len (n : Nat) : (zeros n).length = n := by simp [zeros]
theorem zeros_row {n i : Nat} (h : i < n) : (zeros n).getD i [] = List.replicate n 0 := by simp [zeros, h]
theorem zeros_at (n i k : Nat) : at2 (zeros n) i k = 0 := by
  unfold at2
  by_cases h : i < n
  · rw [zeros_row h]
    by_cases hk : k < n <;> simp [hk]
  · simp [zeros, h]
theorem zeros_snoc {n k : Nat} (hk : k < n) : (zeros n).take k ++ [List.replicate n 0] = (zeros n).take (k + 1) := by
  rw [List.take_add_one, List.getElem?_eq_getElem (by rw [zeros_len]; exact hk)]
  simp [zeros]
theorem ex_zero {n : Nat} {f : Nat → Nat → Int} (h : ∀ i k, f i k = 0) (i : Nat) : Fl.ex n f i = 0 := by
  unfold Fl.ex
  have : sumTo (fun k => f i k - f k i) n = sumTo (fun _ => 0) n := Bx.sum_eq n fun k _ => by rw [h, h]; rfl
  rw [this, Bx.sum_const]; simp
theorem zeros_nf {W : List (List Int)} (h : netB W = true) : NF W (zeros W.length) := by
  have hl := rowsB_len (netB_rows h)
  refine ⟨h, ?_, zeros_len _, fun i k hi hk => ?_, fun i _ _ => ?_⟩
  · simp only [rowsB, Bool.and_eq_true]
    refine ⟨Pf.inB_of (by rw [zeros_len]; omega) (by rw [zeros_len]; omega), sqB_of fun i hi => ?_⟩
    rw [zeros_len] at hi ⊢
    rw [zeros_row hi, rowB_all (by simp)]
    exact Pf.allB_of fun j hj => by simp at hj; simp [hj, Pf.inB]
  · rw [zeros_at]; exact (rowsB_bd (netB_rows h) hi hk).1
  · rw [outI]; exact ex_zero (fun a b => zeros_at _ a b) i
/-- One number is another one. -/
def setM (F : List (List Int)) (i k : Nat) (x : Int) : List (List Int) := F.set i ((F.getD i []).set k x)
theorem setM_len (F : List (List Int)) (i k : Nat) (x : Int) : (setM F i k x).length = F.length := by simp [setM]
theorem setM_row (F : List (List Int)) (i k : Nat) (x : Int) (j : Nat) : ((setM F i k x).getD j []).length = (F.getD j []).length := by
  unfold setM
  by_cases hi : i < F.length
  · by_cases e : j = i
    · subst e; simp [hi]
    · simp [List.getElem?_set_ne (Ne.symm e)]
  · rw [List.set_eq_of_length_le (by omega)]
theorem setM_at {F : List (List Int)} {i k : Nat} {x : Int} (hi : i < F.length) (hk : k < (F.getD i []).length) (a b : Nat) : at2 (setM F i k x) a b = if a = i ∧ b = k then x else at2 F a b := by
  unfold at2 setM
  by_cases e : a = i
  · subst e
    simp only [List.getD_eq_getElem?_getD, List.getElem?_set_self hi, Option.getD_some, true_and]
    simp only [List.getD_eq_getElem?_getD] at hk
    by_cases e2 : b = k
    · subst e2; simp [List.getElem?_set_self hk]
    · rw [if_neg e2, List.getElem?_set_ne (Ne.symm e2)]
  · rw [if_neg (fun h => e h.1)]
    simp [List.getElem?_set_ne (Ne.symm e)]
/-- So much more from a to b: first less from b to a. -/
def stL (F : List (List Int)) (y : Int) (a b : Nat) : List (List Int) :=
  setM (setM F b a (at2 F b a - min y (at2 F b a))) a b (at2 (setM F b a (at2 F b a - min y (at2 F b a))) a b + (y - min y (at2 F b a)))
theorem stL_len (F : List (List Int)) (y : Int) (a b : Nat) : (stL F y a b).length = F.length := by simp [stL, setM_len]
theorem stL_row (F : List (List Int)) (y : Int) (a b j : Nat) : ((stL F y a b).getD j []).length = (F.getD j []).length := by simp only [stL, setM_row]
theorem stL_at {F : List (List Int)} {n a b : Nat} (y : Int) (hl : F.length = n) (hr : ∀ i, i < n → (F.getD i []).length = n) (ha : a < n) (hb : b < n) (hne : a ≠ b) (i k : Nat) : at2 (stL F y a b) i k = Fl.st (at2 F) y a b i k := by
  have h0 : at2 (setM F b a (at2 F b a - min y (at2 F b a))) a b = at2 F a b := by
    rw [setM_at (by omega) (by rw [hr b hb]; exact ha), if_neg (fun h => hne h.1)]
  rw [stL, setM_at (by rw [setM_len]; omega) (by rw [setM_row, hr a ha]; exact hb), h0]
  rw [setM_at (by omega) (by rw [hr b hb]; exact ha)]
  unfold Fl.st
  by_cases e1 : i = b ∧ k = a
  · rw [if_pos e1, if_pos e1, if_neg (fun e2 => hne (e2.1.symm.trans e1.1))]
  · rw [if_neg e1, if_neg e1]
/-- The first so many steps of a way. -/
def pushTo (y : Int) (F : List (List Int)) (P : List Int) : Nat → List (List Int)
  | 0 => F
  | k + 1 => stL (pushTo y F P k) y (P.getD k 0).toNat (P.getD (k + 1) 0).toNat
def pushL (y : Int) (F : List (List Int)) (P : List Int) : List (List Int) := pushTo y F P (P.length - 1)
theorem pushTo_len (y : Int) (F : List (List Int)) (P : List Int) : ∀ k, (pushTo y F P k).length = F.length
  | 0 => rfl
  | k + 1 => by rw [pushTo, stL_len, pushTo_len y F P k]
theorem pushTo_row (y : Int) (F : List (List Int)) (P : List Int) (j : Nat) : ∀ k, ((pushTo y F P k).getD j []).length = (F.getD j []).length
  | 0 => rfl
  | k + 1 => by rw [pushTo, stL_row, pushTo_row y F P j k]
/-- Halls of a way: unlike, each in the net, with room from each to the next one. -/
structure Way (R : List (List Int)) (n : Nat) (P : List Int) : Prop where
  len : 2 ≤ P.length
  first : P.getD 0 0 = 0
  last : P.getD (P.length - 1) 0 = (n : Int) - 1
  lo : ∀ i, i < P.length → 0 ≤ P.getD i 0 ∧ P.getD i 0 < n
  ne : ∀ i j, i < P.length → j < P.length → i ≠ j → P.getD i 0 ≠ P.getD j 0
  room : ∀ i, i + 1 < P.length → 0 < at2 R (P.getD i 0).toNat (P.getD (i + 1) 0).toNat
/-- Unlike numbers below n are at most n. -/
theorem few {P : List Int} {n k : Nat} (lo : ∀ i, i < k → 0 ≤ P.getD i 0 ∧ P.getD i 0 < n) (ne : ∀ i j, i < k → j < k → i ≠ j → P.getD i 0 ≠ P.getD j 0) : k ≤ n := by
  have hnd : ((List.range k).map fun i => (P.getD i 0).toNat).Nodup := by
    rw [List.nodup_iff_pairwise_ne, List.pairwise_map]
    refine List.Pairwise.imp_of_mem ?_ (List.nodup_iff_pairwise_ne.1 (List.nodup_range (n := k)))
    intro a b ha hb hab e
    rw [List.mem_range] at ha hb
    have h1 := lo a ha
    have h2 := lo b hb
    exact ne a b ha hb hab (by omega)
  have := hnd.length_le_of_subset (l₂ := List.range n) fun x hx => by
    obtain ⟨i, hi, rfl⟩ := List.mem_map.1 hx
    rw [List.mem_range] at hi ⊢
    have := lo i hi
    omega
  simpa using this
theorem Way.few {R : List (List Int)} {n : Nat} {P : List Int} (h : Way R n P) : P.length ≤ n := Nt.few h.lo h.ne
/-- The rooms along a way. -/
def along (R : List (List Int)) (P : List Int) : List Int := (List.range (P.length - 1)).map fun i => at2 R (P.getD i 0).toNat (P.getD (i + 1) 0).toNat
theorem along_len (R : List (List Int)) (P : List Int) : (along R P).length = P.length - 1 := by simp [along]
theorem along_at (R : List (List Int)) (P : List Int) {i : Nat} (h : i + 1 < P.length) : (along R P).getD i 0 = at2 R (P.getD i 0).toNat (P.getD (i + 1) 0).toNat := by
  have : i < P.length - 1 := by omega
  simp [along, this]
theorem along_snoc (R : List (List Int)) (P : List Int) {k : Nat} (hk : k + 1 < P.length) : (along R P).take k ++ [at2 R (P.getD k 0).toNat (P.getD (k + 1) 0).toNat] = (along R P).take (k + 1) := by
  rw [List.take_add_one, List.getElem?_eq_getElem (by rw [along_len]; omega)]
  simp [along]
/-- What holds behind the first so many steps of a push. -/
structure Psh (W F : List (List Int)) (y : Int) (P : List Int) (k : Nat) : Prop where
  cap : Fl.Cap W.length (at2 W) (at2 (pushTo y F P k))
  ex : ∀ i, Fl.ex W.length (at2 (pushTo y F P k)) i = Fl.ex W.length (at2 F) i + (if i = 0 then y else 0) - (if i = (P.getD k 0).toNat then y else 0)
  room : ∀ i, k ≤ i → i + 1 < P.length → y ≤ roomAt W (pushTo y F P k) (P.getD i 0).toNat (P.getD (i + 1) 0).toNat
theorem st_ext {F : List (List Int)} {f : Nat → Nat → Int} (h : ∀ i k, at2 F i k = f i k) : at2 F = f := funext fun i => funext fun k => h i k
theorem push_to {W F : List (List Int)} {y : Int} {P : List Int} (hf : NF W F) (hw : Way (rooms W F) W.length P) (hy : 0 ≤ y) (hle : ∀ i, i + 1 < P.length → y ≤ roomAt W F (P.getD i 0).toNat (P.getD (i + 1) 0).toNat) : ∀ k, k < P.length → Psh W F y P k
  | 0, _ => ⟨hf.flow.cap, fun i => by
      show Fl.ex W.length (at2 F) i = _
      rw [hw.first]
      show Fl.ex W.length (at2 F) i = Fl.ex W.length (at2 F) i + (if i = 0 then y else 0) - (if i = 0 then y else 0)
      omega, fun i _ hi => hle i hi⟩
  | k + 1, hk => by
    have ih := push_to hf hw hy hle k (by omega)
    have ha := hw.lo k (by omega)
    have hb := hw.lo (k + 1) hk
    have hne := hw.ne k (k + 1) (by omega) hk (by omega)
    obtain ⟨a, ea⟩ : ∃ a : Nat, P.getD k 0 = (a : Int) := ⟨(P.getD k 0).toNat, by omega⟩
    obtain ⟨b, eb⟩ : ∃ b : Nat, P.getD (k + 1) 0 = (b : Int) := ⟨(P.getD (k + 1) 0).toNat, by omega⟩
    have hab : a ≠ b := fun e => hne (by rw [ea, eb, e])
    have han : a < W.length := by omega
    have hbn : b < W.length := by omega
    have hstep : at2 (pushTo y F P (k + 1)) = Fl.st (at2 (pushTo y F P k)) y a b := st_ext fun i j => by
      rw [pushTo, ea, eb, Int.toNat_natCast, Int.toNat_natCast]
      exact stL_at y (by rw [pushTo_len, hf.len]) (fun i hi => by rw [pushTo_row, rowsB_row hf.rows (by rw [hf.len]; exact hi), hf.len]) han hbn hab i j
    have hr := ih.room k (Nat.le_refl _) hk
    rw [ea, eb, Int.toNat_natCast, Int.toNat_natCast] at hr
    refine ⟨?_, fun i => ?_, fun i hki hi => ?_⟩
    · rw [hstep]; exact Fl.st_cap ih.cap hab han hbn hy hr
    · rw [hstep, Fl.st_ex _ y hab han hbn i, ih.ex i, ea, eb, Int.toNat_natCast, Int.toNat_natCast]
      omega
    · have h1 := ih.room i (by omega) hi
      have hc := hw.lo i (by omega)
      have hd := hw.lo (i + 1) hi
      have n1 := hw.ne i k (by omega) (by omega) (by omega)
      have n2 := hw.ne (i + 1) k (by omega) (by omega) (by omega)
      unfold roomAt at h1 ⊢
      rw [hstep, Fl.st_else _ y (by omega) (by omega), Fl.st_else _ y (by omega) (by omega)]
      exact h1
theorem ex_out {F : List (List Int)} {n i : Nat} (hl : F.length = n) : outI F i = Fl.ex n (at2 F) i := by rw [outI, hl]
/-- What is pushed along a way is a flow, just so much more. -/
theorem push_nf {W F : List (List Int)} {y : Int} {P : List Int} (hf : NF W F) (hw : Way (rooms W F) W.length P) (hy : 0 ≤ y) (hle : ∀ i, i + 1 < P.length → y ≤ roomAt W F (P.getD i 0).toNat (P.getD (i + 1) 0).toNat) : NF W (pushL y F P) ∧ outI (pushL y F P) 0 = outI F 0 + y := by
  have h2 := hw.len
  have hp := push_to hf hw hy hle (P.length - 1) (by omega)
  have hW := rowsB_len (netB_rows hf.net)
  have hl : (pushL y F P).length = W.length := by rw [pushL, pushTo_len, hf.len]
  have hlast : (P.getD (P.length - 1) 0).toNat = W.length - 1 := by rw [hw.last]; omega
  refine ⟨⟨hf.net, ?_, hl, hp.cap.hi, fun i h0 hi => ?_⟩, ?_⟩
  · simp only [rowsB, Bool.and_eq_true]
    refine ⟨Pf.inB_of (by rw [hl]; omega) (by rw [hl]; omega), sqB_of fun i hi => ?_⟩
    have hrow : ((pushL y F P).getD i []).length = W.length := by rw [pushL, pushTo_row, rowsB_row hf.rows (by rw [hf.len, ← hl]; exact hi), hf.len]
    rw [hl] at hi ⊢
    rw [rowB_all hrow]
    refine Pf.allB_of fun j hj => ?_
    rw [hrow] at hj
    have h1 := hp.cap.lo i j hi hj
    have h2 := hp.cap.hi i j hi hj
    have h3 := rowsB_bd (netB_rows hf.net) hi hj
    exact Pf.inB_of h1 (by show at2 (pushL y F P) i j ≤ 50; unfold pushL; omega)
  · rw [ex_out hl, pushL, hp.ex i, hlast, if_neg (by omega), if_neg (by omega)]
    have := hf.bal i h0 hi
    rw [ex_out hf.len] at this
    omega
  · rw [ex_out hl, pushL, hp.ex 0, hlast, if_pos rfl, if_neg (by omega), ex_out hf.len]; omega
end Go.Proofs.Ytnepjahhconodaa.Nt
namespace Go.Proofs.Ytnepjahhconodaa
namespace Nt
theorem with_no {W F : List (List Int)} {i k : Nat} (hi : i < W.length) (hk : k < W.length) (h : at2 W i k < at2 F i k) : withB W F = false := by
  cases e : withB W F
  · rfl
  · have := withB_iff.1 e i k hi hk; omega
theorem pass_no {F : List (List Int)} {i : Nat} (h0 : 0 < i) (hi : i + 1 < F.length) (h : outI F i ≠ 0) : passB F = false := by
  cases e : passB F
  · rfl
  · exact absurd (passB_iff.1 e i h0 hi) h
/-- The arguments are as said. -/
def askB (W F : List (List Int)) : Bool := netB W && (rowsB F && decide (F.length = W.length))
theorem nf_eq (W F : List (List Int)) : nfB W F = (askB W F && (withB W F && passB F)) := by
  unfold nfB flowB askB
  cases netB W <;> simp
theorem flow_eq {W F : List (List Int)} (h : netB W = true) : nfB W F = flowB W F := by unfold nfB; rw [h]; rfl
end Nt
open Go.RowKit
open Bx (sumTo)
set_option maxRecDepth 100000 in
set_option maxHeartbeats 4000000 in
theorem slf_yes {aw af : Option Addr} {n c d : Nat} {W F : List (List Int)} {w : World} (HN : Hid (W.length = n)) (HM : Hid (F.length = n)) (HR : Hid (Nt.rowsB W = true)) (HS : Hid (Nt.rowsB F = true)) (HW : Hid (CRow w aw W)) (HA : Hid (CRow w af F)) :
    Calls Try.prog 61 #[.slice aw n c, .slice af n d] w fun e w' => e = .returned (.bool (Nt.withB W F && Nt.passB F)) ∧ Below w.heap.size w w' := by
  have HNO : Hid (∀ {i k : Nat}, i < n → k < n → Nt.at2 W i k < Nt.at2 F i k → (Nt.withB W F && Nt.passB F) = false) := hide fun hi hk h => by rw [Nt.with_no (by rw [HN.out]; exact hi) (by rw [HN.out]; exact hk) h]; rfl
  have HNP : Hid (∀ {i : Nat}, 0 < i → i + 1 < n → Nt.outI F i ≠ 0 → (Nt.withB W F && Nt.passB F) = false) := hide fun h0 hi h => by rw [Nt.pass_no h0 (by rw [HM.out]; exact hi) h, Bool.and_false]
  have HYE : Hid ((∀ a k, a < n → k < n → Nt.at2 F a k ≤ Nt.at2 W a k) → (∀ a, 0 < a → a + 1 < n → Nt.outI F a = 0) → (Nt.withB W F && Nt.passB F) = true) := hide fun h1 h2 => by
    rw [(Nt.withB_iff (W := W) (F := F)).2 (by rw [HN.out]; exact h1), (Nt.passB_iff (F := F)).2 (by rw [HM.out]; exact h2)]; rfl
  generalize (Nt.withB W F && Nt.passB F) = G at *
  have h8 := Nt.rowsB_len HR.out
  rw [HN.out] at h8
  obtain ⟨h2, h8⟩ := h8
  have hnl : n ≤ 1048576 := by omega
  have hne : ((n : Int) != (n : Int)) = false := by simp
  go_enter Try.func61, Try.ntmps61
  go_wp2_with fail
  refine (slr_eq HM hnl HA HS).mono ?_
  rintro e w1 ⟨rfl, hw1⟩
  obtain rfl : w = w1 := hw1.symm
  go_wp2_with fail
  go_loopw [4, 5, 6, 7, 20] (fun s4 _ _ _ sk wr => ∃ (i : Nat), s4 = .bool false ∧ sk = .int .i64 i ∧ i ≤ n ∧ Hid (∀ a k, a < i → k < n → Nt.at2 F a k ≤ Nt.at2 W a k) ∧ Hid (∀ a, 0 < a → a < i → a + 1 < n → Nt.outI F a = 0) ∧ Hid (Below w.heap.size w wr)) (fun _ _ _ _ sk _ => n - (intOf sk).toNat)
  case atStart => exact ⟨0, rfl, rfl, Nat.zero_le _, hide fun a k ha => absurd ha (Nat.not_lt_zero _), hide fun a _ ha => absurd ha (Nat.not_lt_zero _), hide (Below.refl _ _)⟩
  case round =>
    obtain ⟨i, rfl, rfl, hi, HK, HP, HB⟩ := hrel
    by_cases hlt : i < n
    · have i0 : (0 : Int) ≤ (i : Int) := by omega
      have i1 : (i : Int) < (n : Int) := by omega
      go_wp2_with fail
      go_loopw [4, 6, 7, 25] (fun s4 s6 _ sk wq => ∃ (k : Nat) (x : Int), s4 = .bool false ∧ s6 = .int .i64 x ∧ sk = .int .i64 k ∧ k ≤ n ∧ Hid (∀ j, j < k → Nt.at2 F i j ≤ Nt.at2 W i j) ∧ Hid (x = sumTo (fun k => Nt.at2 F i k - Nt.at2 F k i) k) ∧ Hid (Below w.heap.size w wq)) (fun _ _ _ sk _ => n - (intOf sk).toNat)
      case atStart => exact ⟨0, 0, rfl, rfl, rfl, Nat.zero_le _, hide fun a ha => absurd ha (Nat.not_lt_zero _), hide rfl, HB⟩
      case round =>
        clear HB
        obtain ⟨k, x, rfl, rfl, rfl, hk, HJ, HX, HB⟩ := hrel
        by_cases hkn : k < n
        · obtain ⟨b1, o1, b2, o2, c2, rfl, r1, r2⟩ := crow_at2 (HW.out.below HB.out) HN.out HR.out hlt hkn
          obtain ⟨b3, o3, b4, o4, c4, rfl, r3, r4⟩ := crow_at2 (HA.out.below HB.out) HM.out HS.out hlt hkn
          obtain ⟨b5, o5, b6, o6, c6, e5, r5, r6⟩ := crow_at2 (HA.out.below HB.out) HM.out HS.out hkn hlt
          cases e5
          have k0 : (0 : Int) ≤ (k : Int) := by omega
          have k1 : (k : Int) < (n : Int) := by omega
          have hb1 := Nt.rowsB_bd HS.out (i := i) (k := k) (by rw [HM.out]; exact hlt) (by rw [HM.out]; exact hkn)
          have hb2 := Nt.rowsB_bd HS.out (i := k) (k := i) (by rw [HM.out]; exact hkn) (by rw [HM.out]; exact hlt)
          have hs := Nt.sumTo_bd (f := fun k => Nt.at2 F i k - Nt.at2 F k i) (lo := -50) (hi := 50) k fun j hj => by
            have h1 := Nt.rowsB_bd HS.out (i := i) (k := j) (by rw [HM.out]; exact hlt) (by rw [HM.out]; omega)
            have h2 := Nt.rowsB_bd HS.out (i := j) (k := i) (by rw [HM.out]; omega) (by rw [HM.out]; exact hlt)
            show -50 ≤ Nt.at2 F i j - Nt.at2 F j i ∧ Nt.at2 F i j - Nt.at2 F j i ≤ 50
            omega
          rw [← HX.out] at hs
          have HX1 : Hid (x + (Nt.at2 F i k - Nt.at2 F k i) = sumTo (fun k => Nt.at2 F i k - Nt.at2 F k i) (k + 1)) := hide (by rw [HX.out]; rfl)
          have HNK := hide (fun h => HNO.out hlt hkn h)
          have HYK : Hid (Nt.at2 F i k ≤ Nt.at2 W i k → ∀ j, j < k + 1 → Nt.at2 F i j ≤ Nt.at2 W i j) := hide fun h j hj => by
            by_cases e : j = k
            · subst e; exact h
            · exact HJ.out j (by omega)
          generalize Nt.at2 W i k = y at *
          generalize Nt.at2 F i k = z at *
          generalize Nt.at2 F k i = u at *
          have x0 : -1000 ≤ x := by omega
          have x1 : x ≤ 1000 := by omega
          obtain ⟨z0, z1⟩ := hb1
          obtain ⟨u0, u1⟩ := hb2
          clear hs HX
          by_cases hyz : y < z
          · have H1 := hide (HNK.out hyz)
            go_wp2_with fail
            go_quiet (fail)
            go_wp2_with fail
            go_ret
            exact ⟨ret_bool H1.out.symm, below_drewN HB.out _⟩
          · have H1 := hide (HYK.out (by omega))
            go_wp2_with fail
            go_quiet (fail)
            go_wp2_with fail
            go_quiet (fail)
            go_wp2_with fail
            go_roundw
            case rel => exact ⟨k + 1, x + (z - u), rfl, by go_num, by go_num, by omega, H1, HX1, hide (below_drewN HB.out _)⟩
            case measure => simp only [intOf]; omega
        · have hke : k = n := by omega
          subst hke
          have HO : Hid (x = Nt.outI F i) := hide (by rw [HX.out, Nt.outI, Fl.ex, HM.out])
          have HK2 : Hid (∀ a j, a < i + 1 → j < k → Nt.at2 F a j ≤ Nt.at2 W a j) := hide fun a j ha hj => by
            by_cases e : a = i
            · subst e; exact HJ.out j hj
            · exact HK.out a j (by omega) hj
          have HPI : Hid ((0 < i → i + 1 < k → x = 0) → ∀ a, 0 < a → a < i + 1 → a + 1 < k → Nt.outI F a = 0) := hide fun h a h0 h1 h2 => by
            by_cases e : a = i
            · subst e; rw [← HO.out]; exact h h0 h2
            · exact HP.out a h0 (by omega) h2
          have HNI : Hid (0 < i → i + 1 < k → x ≠ 0 → G = false) := hide fun h0 h1 hx => HNP.out h0 h1 (by rw [← HO.out]; exact hx)
          clear HX HJ HO
          by_cases h0 : 0 < i
          · have h0' : ¬ (i : Int) ≤ 0 := by omega
            have h0'' : (0 : Int) < (i : Int) := by omega
            by_cases h1 : i + 1 < k
            · have h1' : (i : Int) < (k : Int) - 1 := by omega
              by_cases hx : x = 0
              · have H1 := hide (HPI.out fun _ _ => hx)
                subst hx
                go_wp2_with fail
                go_roundw
                case rel => exact ⟨i + 1, rfl, by go_num, by omega, HK2, H1, HB⟩
                case measure => simp only [intOf]; omega
              · have H1 := hide (HNI.out h0 h1 hx)
                have hx' : (x != (0 : Int)) = true := by simpa using hx
                go_wp2_with fail
                go_ret
                exact ⟨ret_bool H1.out.symm, HB.out⟩
            · have h1' : ¬ (i : Int) < (k : Int) - 1 := by omega
              have H1 := hide (HPI.out fun _ h => absurd h h1)
              go_wp2_with fail
              go_roundw
              case rel => exact ⟨i + 1, rfl, by go_num, by omega, HK2, H1, HB⟩
              case measure => simp only [intOf]; omega
          · have hi0 : i = 0 := by omega
            subst hi0
            have H1 := hide (HPI.out fun h => absurd h (Nat.lt_irrefl _))
            go_wp2_with fail
            go_roundw
            case rel => exact ⟨1, rfl, by go_num, by omega, HK2, H1, HB⟩
            case measure => simp only [intOf]; omega
    · have hke : i = n := by omega
      subst hke
      have H1 := hide (HYE.out HK.out fun a h0 h1 => HP.out a h0 (by omega) h1)
      go_wp2_with fail
      go_ret
      exact ⟨ret_bool H1.out.symm, HB.out⟩
set_option maxRecDepth 100000 in
set_option maxHeartbeats 1000000 in
theorem slf_w {aw af : Option Addr} {n m c d : Nat} {W F : List (List Int)} {w : World} (HN : Hid (W.length = n)) (HM : Hid (F.length = m)) (hm : m ≤ 1048576) (HR : Hid (Nt.rowsB W = true)) (HW : Hid (CRow w aw W)) (HA : Hid (CRow w af F)) :
    Calls Try.prog 61 #[.slice aw n c, .slice af m d] w fun e w' => e = .returned (.bool (Nt.flowB W F)) ∧ Below w.heap.size w w' := by
  cases hs : Nt.rowsB F
  · have HS := hide hs
    have e1 : Nt.flowB W F = false := by simp [Nt.flowB, hs]
    rw [e1]
    clear hs e1
    go_enter Try.func61, Try.ntmps61
    go_wp2_with fail
    refine (slr_eq HM hm HA HS).mono ?_
    rintro e w1 ⟨rfl, hw1⟩
    obtain rfl : w = w1 := hw1.symm
    go_wp2_with fail
    go_ret
    exact ⟨rfl, Below.refl _ _⟩
  · have HS := hide hs
    by_cases hmn : m = n
    · subst hmn
      have e1 : Nt.flowB W F = (Nt.withB W F && Nt.passB F) := by simp [Nt.flowB, hs, HN.out, HM.out]
      rw [e1]
      exact slf_yes HN HM HR HS HW HA
    · have e1 : Nt.flowB W F = false := by simp [Nt.flowB, HN.out, HM.out, hmn]
      have hne : ((m : Int) != (n : Int)) = true := by simp; omega
      rw [e1]
      clear hs e1
      go_enter Try.func61, Try.ntmps61
      go_wp2_with fail
      refine (slr_eq HM hm HA HS).mono ?_
      rintro e w1 ⟨rfl, hw1⟩
      obtain rfl : w = w1 := hw1.symm
      go_wp2_with fail
      go_ret
      exact ⟨rfl, Below.refl _ _⟩
end Go.Proofs.Ytnepjahhconodaa
namespace Go.Proofs.Ytnepjahhconodaa
open Go.RowKit

set_option maxRecDepth 100000 in
set_option maxHeartbeats 2000000 in
theorem slm_q {aw af : Option Addr} {n c d i k : Nat} {W F : List (List Int)} {w : World} (HN : Hid (W.length = n)) (hi : i < n) (hk : k < n) (HF : Hid (Nt.NF W F)) (HW : Hid (CRow w aw W)) (HA : Hid (CRow w af F)) :
    Calls Try.prog 42 #[.slice aw n c, .slice af n d, .int .i64 (i : Int), .int .i64 (k : Int)] w fun e w' => e = .returned (.int .i64 (Nt.roomAt W F i k)) ∧ ∃ q, w' = w.drewN q := by
  have hFn : F.length = n := HF.out.len.trans HN.out
  obtain ⟨b, off, b', off', ci, rfl, r1, r2⟩ := crow_at2 HW.out HN.out (Nt.netB_rows HF.out.net) hi hk
  obtain ⟨b1, off1, b2, off2, ci2, rfl, r3, r4⟩ := crow_at2 HA.out hFn HF.out.rows hi hk
  obtain ⟨b5, off5, b3, off3, ci3, e5, r5, r6⟩ := crow_at2 HA.out hFn HF.out.rows hk hi
  cases e5
  have h1 := Nt.rowsB_bd (Nt.netB_rows HF.out.net) (i := i) (k := k) (by rw [HN.out]; exact hi) (by rw [HN.out]; exact hk)
  have h2 := Nt.rowsB_bd HF.out.rows (i := i) (k := k) (by omega) (by omega)
  have h3 := Nt.rowsB_bd HF.out.rows (i := k) (k := i) (by omega) (by omega)
  unfold Nt.roomAt
  generalize Nt.at2 W i k = x at *
  generalize Nt.at2 F i k = y at *
  generalize Nt.at2 F k i = z at *
  obtain ⟨x0, x1⟩ := h1
  obtain ⟨y0, y1⟩ := h2
  obtain ⟨z0, z1⟩ := h3
  have i0 : (0 : Int) ≤ (i : Int) := by omega
  have i1 : (i : Int) < (n : Int) := by omega
  have k0 : (0 : Int) ≤ (k : Int) := by omega
  have k1 : (k : Int) < (n : Int) := by omega
  clear HN HF HW HA hFn
  go_enter Try.func42, Try.ntmps42
  go_wp2_with fail
  go_quiet (fail)
  go_wp2_with fail
  go_ret
  exact ⟨ret_int (by go_num), _, rfl⟩
theorem slm_any {aw af : Option Addr} {n c d i k : Nat} {W F : List (List Int)} {w : World} (HN : Hid (W.length = n)) (hi : i < n) (hk : k < n) (HF : Hid (Nt.NF W F)) (HW : Hid (CRow w aw W)) (HA : Hid (CRow w af F)) :
    Calls Try.prog 42 #[.slice aw n c, .slice af n d, .int .i64 (i : Int), .int .i64 (k : Int)] w fun e w' => e = .returned (.int .i64 (Nt.roomAt W F i k)) ∧ Below w.heap.size w w' :=
  (slm_q HN hi hk HF HW HA).mono fun _ _ ⟨h1, _, h2⟩ => ⟨h1, h2 ▸ below_drewN (Below.refl _ _) _⟩
theorem set_snoc {α : Type} (l : List α) (z y : α) {k : Nat} (hk : l.length = k) : (l ++ [z]).set k y = l ++ [y] := by subst hk; simp
theorem getD_end {α : Type} (l : List α) (z d : α) {k : Nat} (hk : l.length = k) : (l ++ [z]).getD k d = z := by subst hk; simp
set_option maxRecDepth 100000 in
set_option maxHeartbeats 8000000 in
theorem ro13_any {aw af : Option Addr} {n c d : Nat} {W F : List (List Int)} {w : World} (HN : Hid (W.length = n)) (HF : Hid (Nt.NF W F)) (HW : Hid (CRow w aw W)) (HA : Hid (CRow w af F)) :
    Calls Try.prog 18 #[.slice aw n c, .slice af n d] w fun e w' => ∃ v us, e = .returned v ∧ LL w' w.heap.size 25 3 1 ints v us (Nt.rooms W F) ∧ Below w.heap.size w w' := by
  have hFn : Hid (F.length = n) := hide (HF.out.len.trans HN.out)
  have HRW := hide (Nt.netB_rows HF.out.net)
  have h8 := Nt.rowsB_len HRW.out
  rw [HN.out] at h8
  obtain ⟨h2, h8⟩ := h8
  have hmk := makeI_run n (by omega)
  have HLR : Hid ((Nt.rooms W F).length = n) := hide ((Nt.rooms_len W F).trans HN.out)
  go_enter Try.func18, Try.ntmps18
  go_wp2_with fail
  go_loopw [5, 6, 7, 8, 9, 12] (fun s5 _ _ _ _ sk wr => ∃ (k : Nat) (us : List Value), sk = .int .i64 k ∧ k ≤ n ∧ Hid (LL wr w.heap.size 25 3 1 ints s5 us ((Nt.rooms W F).take k)) ∧ Hid (Below w.heap.size w wr)) (fun _ _ _ _ _ sk _ => n - (intOf sk).toNat)
  case atStart => exact ⟨0, [], rfl, Nat.zero_le _, hide (LL.nil _ _ _ _ _ _), hide (Below.refl _ _)⟩
  case round =>
    obtain ⟨k, us, rfl, hk, HL, HB⟩ := hrel
    by_cases hlt : k < n
    · obtain ⟨b, off, ai, ci, rfl, hb, q1, Q1⟩ := HW.out.at (i := k) (by rw [HN.out]; exact hlt)
      rw [Nt.rowsB_row HRW.out (i := k) (by rw [HN.out]; exact hlt), HN.out] at q1
      have r1 := (HB.out.cell (p := ⟨b, off + k, none⟩) hb).trans q1
      have HQ1 := hide Q1
      have j0 : (0 : Int) ≤ (k : Int) := by omega
      have j1 : (k : Int) < (n : Int) := by omega
      have hkl : ((Nt.rooms W F).take k).length = k := by rw [List.length_take, HLR.out]; omega
      obtain ⟨av, cv, ev⟩ := HL.out.form
      rw [hkl] at ev
      subst ev
      obtain ⟨G, cap, w1, p1, L1, B1⟩ := HL.out.pushRow (V := wr.alloc (.cells (madeCells #[.int .i64 0] n) 3)) (u := .slice (some ⟨wr.heap.size, 0, none⟩) n n) (r := List.replicate n 0) (below_new _ _) (by rw [List.length_replicate]; exact made_own wr n (by omega)) rfl (by rw [hkl]; omega) HB.out.size
      rw [hkl] at p1 L1
      rw [World.size_alloc] at p1
      generalize us ++ [Value.slice (some ⟨wr.heap.size, 0, none⟩) n n] = us2 at L1
      have HL1 := hide L1
      have HB1 := hide (HB.out.trans (B1.mono (Nat.le_refl _)))
      have HKL := hide hkl
      clear Q1 q1 L1 B1 HL hkl
      go_wp2_with (first | (at_builtin; refine Lib.wpList_append_run _ rfl (.tmp 17) (.tmp 21) 23 23 rfl _ _ rfl rfl _ _ (p1 _) ?_))
      clear p1 hmk HB r1
      go_loopw [8, 9, 25] (fun _ _ sj wq => ∃ (j : Nat) (zs : List Int), sj = .int .i64 j ∧ j ≤ n ∧ zs.length = n ∧ Hid (zs.take j = (Nt.roomR W F k).take j) ∧ Hid (LL wq w.heap.size 25 3 1 ints (.slice (some ⟨G, 0, none⟩) (k + 1) cap) us2 ((Nt.rooms W F).take k ++ [zs])) ∧ Hid (Below w.heap.size w wq)) (fun _ _ sj _ => n - (intOf sj).toNat)
      case atStart => exact ⟨0, List.replicate n 0, rfl, Nat.zero_le _, by simp, hide (by simp), HL1, HB1⟩
      case round =>
        clear HL1 HB1
        obtain ⟨j, zs, rfl, hj, hzl, HT, HL, HB⟩ := hrel
        by_cases hjn : j < n
        · have hR : ((Nt.rooms W F).take k ++ [zs]).length = k + 1 := by rw [List.length_append, HKL.out]; rfl
          have hrow := getD_end ((Nt.rooms W F).take k) zs [] HKL.out
          obtain ⟨g, cg, e1, r1, r2, hg0, hg1, L2⟩ := HL.out.write (i := k) (k := j) (x := Nt.roomAt W F k j) (by omega) (by rw [hrow]; omega)
          rw [hrow, set_snoc _ _ _ HKL.out] at L2
          rw [hrow] at r1 e1
          rw [hzl] at e1
          have hv := HL.out
          rw [← hR] at hv
          have r3 := hv.cell (i := k) (by omega)
          rw [e1] at r3
          obtain ⟨b1, off1, b2, off2, ci2, rfl, r4, r5⟩ := crow_at2 (HA.out.below HB.out) hFn.out HF.out.rows hlt hjn
          obtain ⟨b5, off5, b3, off3, ci3, e5, r6, r7⟩ := crow_at2 (HA.out.below HB.out) hFn.out HF.out.rows hjn hlt
          cases e5
          obtain ⟨bq, oq, rfl, r8⟩ := (HQ1.out.below HB.out).at (i := j) (by rw [Nt.rowsB_row HRW.out (i := k) (by rw [HN.out]; exact hlt), HN.out]; exact hjn)
          have k0 : (0 : Int) ≤ (j : Int) := by omega
          have k1 : (j : Int) < (n : Int) := by omega
          have jj : (k : Int) < (k : Int) + 1 := by omega
          have h1 := Nt.rowsB_bd HRW.out (i := k) (k := j) (by rw [HN.out]; exact hlt) (by rw [HN.out]; exact hjn)
          have h3 := Nt.rowsB_bd HF.out.rows (i := k) (k := j) (by rw [hFn.out]; exact hlt) (by rw [hFn.out]; exact hjn)
          have h4 := Nt.rowsB_bd HF.out.rows (i := j) (k := k) (by rw [hFn.out]; exact hjn) (by rw [hFn.out]; exact hlt)
          have HT2 : Hid ((zs.set j (Nt.roomAt W F k j)).take (j + 1) = (Nt.roomR W F k).take (j + 1)) := hide (by
            have := getD_set_take (Nt.roomR W F k) zs j (by rw [Nt.roomR_len, HN.out]; exact hzl) (by rw [Nt.roomR_len, HN.out]; exact hjn) HT.out
            rwa [Nt.roomR_at W F (by rw [HN.out]; exact hjn)] at this)
          have HL2 := hide L2
          have HB2 := hide (HB.out.setCell (p := ⟨g, j, none⟩) hg0 (.int .i64 (Nt.roomAt W F k j)))
          have r9 : wr.cell? ⟨bq, oq + j, none⟩ = some (.int .i64 (Nt.at2 W k j)) := r8
          unfold Nt.roomAt at HL2 HB2 HT2
          generalize Nt.at2 W k j = x at *
          generalize Nt.at2 F k j = y at *
          generalize Nt.at2 F j k = z at *
          generalize zs.getD j 0 = z0 at *
          obtain ⟨x0, x1⟩ := h1
          obtain ⟨y0, y1⟩ := h3
          obtain ⟨z1, z2⟩ := h4
          have wr1 : wrap64 (x - y) = x - y := wrap_id' _ (by omega) (by omega)
          have wr2 : wrap64 (x - y + z) = x - y + z := wrap_id' _ (by omega) (by omega)
          clear r8 hrow hv L2 e1 hR
          go_wp2_with fail
          go_region
          go_wp2_with fail
          go_roundw
          case rel => exact ⟨j + 1, zs.set j (x - y + z), by go_num, by omega, by simpa using hzl, HT2, hide (HL2.out.keep fun g _ _ => rfl), hide HB2.out.drew⟩
          case measure => simp only [intOf]; omega
        · have hje : j = n := by omega
          subst hje
          have HE : Hid ((Nt.rooms W F).take k ++ [zs] = (Nt.rooms W F).take (k + 1)) := hide (by
            have := HT.out
            rw [List.take_of_length_le (by omega), List.take_of_length_le (by rw [Nt.roomR_len, HN.out]; exact Nat.le_refl _)] at this
            rw [this]; exact Nt.rooms_snoc W F (by rw [HN.out]; exact hlt))
          have HL2 : Hid (LL wr w.heap.size 25 3 1 ints (.slice (some ⟨G, 0, none⟩) (k + 1) cap) us2 ((Nt.rooms W F).take (k + 1))) := hide (by rw [← HE.out]; exact HL.out)
          go_wp2_with fail
          go_roundw
          case rel => exact ⟨k + 1, us2, by go_num, by omega, HL2, HB⟩
          case measure => simp only [intOf]; omega
    · have hke : k = n := by omega
      subst hke
      have HE : Hid ((Nt.rooms W F).take k = Nt.rooms W F) := hide (List.take_of_length_le (by rw [HLR.out]; exact Nat.le_refl _))
      rw [HE.out] at HL
      clear hmk
      go_wp2_with fail
      go_ret
      exact ⟨_, us, rfl, HL.out, HB.out⟩
end Go.Proofs.Ytnepjahhconodaa
