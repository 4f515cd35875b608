/-
  Plain facts, of no program: the rings of an order, and that two numbers that change places make a ring more or one less.
-/
import Derived.Test.YtljccbnkibfimaaHa
namespace Go.Proofs.Ytljccbnkibfimaa.Od

/-- So many steps on. -/
def it (f : Nat → Nat) : Nat → Nat → Nat
  | 0, a => a
  | t + 1, a => f (it f t a)
theorem it_add (f : Nat → Nat) (a : Nat) : ∀ s t, it f (s + t) a = it f s (it f t a)
  | 0, t => by rw [Nat.zero_add]; rfl
  | s + 1, t => by rw [show s + 1 + t = (s + t) + 1 by omega]; simp only [it, it_add f a s t]
def Rch (f : Nat → Nat) (a b : Nat) : Prop := ∃ t, it f t a = b
theorem rch_refl (f : Nat → Nat) (a : Nat) : Rch f a a := ⟨0, rfl⟩
theorem rch_trans {f : Nat → Nat} {a b c : Nat} (h1 : Rch f a b) (h2 : Rch f b c) : Rch f a c := by
  obtain ⟨s, rfl⟩ := h1
  obtain ⟨t, rfl⟩ := h2
  exact ⟨t + s, it_add f a t s⟩
theorem rch_step (f : Nat → Nat) (a : Nat) : Rch f a (f a) := ⟨1, rfl⟩
theorem rch_next {f : Nat → Nat} {a b : Nat} (h : Rch f a b) : Rch f a (f b) := rch_trans h (rch_step f b)
/-- What is closed under a step is closed under all. -/
theorem rch_closed {f : Nat → Nat} {S : Nat → Prop} (hS : ∀ x, S x → S (f x)) {a b : Nat} (h : Rch f a b) (ha : S a) : S b := by
  obtain ⟨t, rfl⟩ := h
  induction t with
  | zero => exact ha
  | succ t ih => exact hS _ ih
/-- Steps within 0 up to n - 1, no two to the same. -/
def Turns (f : Nat → Nat) (n : Nat) : Prop := (∀ i, i < n → f i < n) ∧ ∀ i j, i < n → j < n → f i = f j → i = j
theorem it_lt {f : Nat → Nat} {n : Nat} (h : Turns f n) {a : Nat} (ha : a < n) : ∀ t, it f t a < n
  | 0 => ha
  | t + 1 => h.1 _ (it_lt h ha t)
theorem it_inj {f : Nat → Nat} {n : Nat} (h : Turns f n) {a b : Nat} (ha : a < n) (hb : b < n) : ∀ t, it f t a = it f t b → a = b
  | 0, e => e
  | t + 1, e => it_inj h ha hb t (h.2 _ _ (it_lt h ha t) (it_lt h hb t) e)
theorem back {f : Nat → Nat} {n : Nat} (h : Turns f n) {a : Nat} (ha : a < n) : ∃ p, 1 ≤ p ∧ it f p a = a := by
  have : ∃ i j, i < j ∧ it f i a = it f j a := by
    apply Classical.byContradiction
    intro hn
    have hd : ((List.range (n + 1)).map fun t => it f t a).Nodup := by
      rw [List.nodup_iff_pairwise_ne, List.pairwise_iff_getElem]
      intro i j hi hj hij e
      simp at e
      exact hn ⟨i, j, hij, e⟩
    have := hd.length_le_of_subset (l₂ := List.range n) (fun x hx => by
      simp at hx
      obtain ⟨t, _, rfl⟩ := hx
      simpa using it_lt h ha t)
    simp at this
    omega
  obtain ⟨i, j, hij, e⟩ := this
  refine ⟨j - i, by omega, ?_⟩
  have e2 : it f i (it f (j - i) a) = it f i a := by rw [← it_add, show i + (j - i) = j by omega]; exact e.symm
  exact it_inj h (it_lt h ha _) ha i e2
theorem back_many {f : Nat → Nat} {a p : Nat} (h : it f p a = a) : ∀ k, it f (k * p) a = a
  | 0 => by rw [Nat.zero_mul]; rfl
  | k + 1 => by rw [Nat.succ_mul, it_add, h, back_many h k]
theorem rch_symm {f : Nat → Nat} {n : Nat} (h : Turns f n) {a b : Nat} (ha : a < n) (hr : Rch f a b) : Rch f b a := by
  obtain ⟨t, rfl⟩ := hr
  obtain ⟨p, hp, e⟩ := back h ha
  have hle : t ≤ t * p := Nat.le_mul_of_pos_right t hp
  refine ⟨t * p - t, ?_⟩
  rw [← it_add, show t * p - t + t = t * p by omega]
  exact back_many e t
theorem least {P : Nat → Prop} (h : ∃ q, P q) : ∃ q, P q ∧ ∀ s, s < q → ¬ P s := by
  obtain ⟨q, hq⟩ := h
  induction q using Nat.strongRecOn with
  | _ q ih =>
    by_cases hs : ∃ s, s < q ∧ P s
    · obtain ⟨s, hs, hp⟩ := hs
      exact ih s hs hp
    · exact ⟨q, hq, fun s hs' hp => hs ⟨s, hs', hp⟩⟩

/-- Two places changed. -/
def Twist (f g : Nat → Nat) : Prop := g 0 = f 1 ∧ g 1 = f 0 ∧ ∀ i, 2 ≤ i → g i = f i
theorem Twist.symm {f g : Nat → Nat} (h : Twist f g) : Twist g f := ⟨h.2.1.symm, h.1.symm, fun i hi => (h.2.2 i hi).symm⟩
theorem twist_far {f g : Nat → Nat} (h : Twist f g) {c : Nat} (h0 : c ≠ 0) (h1 : c ≠ 1) : g c = f c := h.2.2 c (by omega)
/-- Rings that did not meet do meet. -/
theorem twist_reach {f g : Nat → Nat} {n : Nat} (hf : Turns f n) (ht : Twist f g) (h1 : 1 < n) (hn : ¬ Rch f 0 1) {x : Nat} (hx : Rch f 1 x) : Rch g 0 x := by
  have h10 : ¬ Rch f 1 0 := fun h => hn (rch_symm hf h1 h)
  have each : ∀ t, Rch g 0 (it f (t + 1) 1) := by
    intro t
    induction t with
    | zero => rw [show it f (0 + 1) 1 = g 0 from ht.1.symm]; exact rch_step g 0
    | succ t ih =>
      have hc0 : it f (t + 1) 1 ≠ 0 := fun e => h10 ⟨t + 1, e⟩
      by_cases hc1 : it f (t + 1) 1 = 1
      · show Rch g 0 (f (it f (t + 1) 1))
        rw [hc1, ← ht.1]; exact rch_step g 0
      · show Rch g 0 (f (it f (t + 1) 1))
        rw [← twist_far ht hc0 hc1]
        exact rch_next ih
  obtain ⟨t, rfl⟩ := hx
  cases t with
  | zero =>
    obtain ⟨p, hp, e⟩ := back hf h1
    have := each (p - 1)
    rw [show p - 1 + 1 = p by omega, e] at this
    exact this
  | succ t => exact each t
theorem twist_reach' {f g : Nat → Nat} {n : Nat} (hf : Turns f n) (ht : Twist f g) (h1 : 1 < n) (hn : ¬ Rch f 0 1) {x : Nat} (hx : Rch f 0 x) : Rch g 1 x := by
  have each : ∀ t, Rch g 1 (it f (t + 1) 0) := by
    intro t
    induction t with
    | zero => rw [show it f (0 + 1) 0 = g 1 from ht.2.1.symm]; exact rch_step g 1
    | succ t ih =>
      have hc1 : it f (t + 1) 0 ≠ 1 := fun e => hn ⟨t + 1, e⟩
      by_cases hc0 : it f (t + 1) 0 = 0
      · show Rch g 1 (f (it f (t + 1) 0))
        rw [hc0, ← ht.2.1]; exact rch_step g 1
      · show Rch g 1 (f (it f (t + 1) 0))
        rw [← twist_far ht hc0 hc1]
        exact rch_next ih
  obtain ⟨t, rfl⟩ := hx
  cases t with
  | zero =>
    obtain ⟨p, hp, e⟩ := back hf (show 0 < n by omega)
    have := each (p - 1)
    rw [show p - 1 + 1 = p by omega, e] at this
    exact this
  | succ t => exact each t
theorem twist_iff {f g : Nat → Nat} {n : Nat} (hf : Turns f n) (ht : Twist f g) (h1 : 1 < n) (hn : ¬ Rch f 0 1) {a b : Nat} (ha : a < n) :
    Rch g a b ↔ Rch f a b ∨ ((Rch f 0 a ∨ Rch f 1 a) ∧ (Rch f 0 b ∨ Rch f 1 b)) := by
  have g01 : Rch g 0 1 := twist_reach hf ht h1 hn (rch_refl f 1)
  have g10 : Rch g 1 0 := twist_reach' hf ht h1 hn (rch_refl f 0)
  have to : ∀ x, Rch f 0 x ∨ Rch f 1 x → Rch g 0 x ∧ Rch g 1 x := by
    intro x hx
    rcases hx with hx | hx
    · have := twist_reach' hf ht h1 hn hx; exact ⟨rch_trans g01 this, this⟩
    · have := twist_reach hf ht h1 hn hx; exact ⟨this, rch_trans g10 this⟩
  have cl : ∀ x, (Rch f 0 x ∨ Rch f 1 x) → (Rch f 0 (g x) ∨ Rch f 1 (g x)) := by
    intro x hx
    by_cases e0 : x = 0
    · subst e0; rw [ht.1]; exact Or.inr (rch_step f 1)
    · by_cases e1 : x = 1
      · subst e1; rw [ht.2.1]; exact Or.inl (rch_step f 0)
      · rw [twist_far ht e0 e1]
        exact hx.elim (fun h => Or.inl (rch_next h)) (fun h => Or.inr (rch_next h))
  have frm : ∀ x, (Rch f 0 x ∨ Rch f 1 x) → Rch g x 0 := by
    intro x hx
    -- g turns too
    have hg : Turns g n := by
      refine ⟨fun i hi => ?_, fun i j hi hj e => ?_⟩
      · by_cases e0 : i = 0
        · subst e0; rw [ht.1]; exact hf.1 1 h1
        · by_cases e1 : i = 1
          · subst e1; rw [ht.2.1]; exact hf.1 0 (by omega)
          · rw [twist_far ht e0 e1]; exact hf.1 i hi
      · by_cases i0 : i = 0 <;> by_cases i1 : i = 1 <;> by_cases j0 : j = 0 <;> by_cases j1 : j = 1 <;> first
          | omega
          | (subst i0; subst j1; rw [ht.1, ht.2.1] at e; have := hf.2 1 0 h1 (by omega) e; omega)
          | (subst i1; subst j0; rw [ht.1, ht.2.1] at e; have := hf.2 0 1 (by omega) h1 e; omega)
          | (subst i0; rw [ht.1, twist_far ht j0 j1] at e; have := hf.2 1 j h1 hj e; omega)
          | (subst i1; rw [ht.2.1, twist_far ht j0 j1] at e; have := hf.2 0 j (by omega) hj e; omega)
          | (subst j0; rw [ht.1, twist_far ht i0 i1] at e; have := hf.2 i 1 hi h1 e; omega)
          | (subst j1; rw [ht.2.1, twist_far ht i0 i1] at e; have := hf.2 i 0 hi (by omega) e; omega)
          | (rw [twist_far ht i0 i1, twist_far ht j0 j1] at e; exact hf.2 i j hi hj e)
    exact rch_symm hg (by omega) (to x hx).1
  by_cases hA : Rch f 0 a ∨ Rch f 1 a
  · constructor
    · intro h
      exact Or.inr ⟨hA, rch_closed (S := fun x => Rch f 0 x ∨ Rch f 1 x) cl h hA⟩
    · intro h
      have hB : Rch f 0 b ∨ Rch f 1 b := by
        rcases h with h | h
        · exact hA.elim (fun k => Or.inl (rch_trans k h)) (fun k => Or.inr (rch_trans k h))
        · exact h.2
      exact rch_trans (frm a hA) (to b hB).1
  · -- away from both rings nothing changes
    have far : ∀ t, it g t a = it f t a := by
      intro t
      induction t with
      | zero => rfl
      | succ t ih =>
        show g (it g t a) = f (it f t a)
        rw [ih]
        refine twist_far ht (fun e => hA (Or.inl (rch_symm hf ha ⟨t, e⟩))) (fun e => hA (Or.inr (rch_symm hf ha ⟨t, e⟩)))
    constructor
    · rintro ⟨t, e⟩
      exact Or.inl ⟨t, by rw [← far]; exact e⟩
    · rintro (⟨t, e⟩ | h)
      · exact ⟨t, by rw [far]; exact e⟩
      · exact absurd h.1 hA
/-- A ring that both lie in falls apart. -/
theorem twist_apart {f g : Nat → Nat} {n : Nat} (hg : Turns g n) (ht : Twist f g) (h1 : 1 < n) (h : Rch f 0 1) : ¬ Rch g 0 1 := by
  obtain ⟨q, hq, hmin⟩ := least (P := fun q => it f q 0 = 1) h
  have hq0 : q ≠ 0 := fun e => by subst e; simp [it] at hq
  have hne : ∀ s, 1 ≤ s → s < q → it f s 0 ≠ 0 := by
    intro s h1 h2 e
    refine hmin (q - s) (by omega) ?_
    rw [show q = (q - s) + s by omega, it_add, e] at hq
    exact hq
  intro h01
  have h10 : Rch g 1 0 := rch_symm hg (by omega) h01
  have := rch_closed (S := fun x => ∃ s, 1 ≤ s ∧ s ≤ q ∧ it f s 0 = x) (f := g) (fun x hx => by
    obtain ⟨s, hs1, hs2, rfl⟩ := hx
    by_cases e : s = q
    · subst e
      rw [hq, ht.2.1]
      exact ⟨1, Nat.le_refl _, by omega, rfl⟩
    · rw [twist_far ht (hne s hs1 (by omega)) (hmin s (by omega))]
      exact ⟨s + 1, by omega, by omega, rfl⟩) h10 ⟨q, by omega, Nat.le_refl _, hq⟩
  obtain ⟨s, hs1, hs2, e⟩ := this
  by_cases hs : s = q
  · subst hs; rw [hq] at e; omega
  · exact hne s hs1 (by omega) e

theorem getD_set {l : List Bool} {k i : Nat} (hi : i < l.length) : (l.set k true).getD i true = if i = k then true else l.getD i true := by
  simp only [List.getD_eq_getElem?_getD, List.getElem?_set]
  by_cases e : k = i
  · subst e; simp [hi]
  · rw [if_neg e, if_neg (show ¬ i = k by omega)]
/-- Along a ring: what was gone to before, and all that is met. -/
theorem gone_spec {xs : List Int} {n : Nat} (hb : ∀ i, i < n → nth xs i < n) : ∀ (c : Nat) (l : List Bool) (k : Nat), l.count false = c → l.length = n → k < n →
    (∀ i, i < n → l.getD i true = true → l.getD (nth xs i) true = true ∨ nth xs i = k) →
    (∀ i, i < n → l.getD i true = true → (gone xs l k).getD i true = true) ∧ (gone xs l k).getD k true = true ∧
    (∀ i, i < n → (gone xs l k).getD i true = true → (gone xs l k).getD (nth xs i) true = true) ∧
    (∀ i, i < n → (gone xs l k).getD i true = true → l.getD i true = true ∨ Rch (nth xs) k i)
  | c, l, k, hc, hl, hk, hP => by
    cases h : l.getD k true
    · have hcs := count_set h
      have hS : ∀ i, i < n → (l.set k true).getD i true = if i = k then true else l.getD i true := fun i hi => getD_set (by omega)
      cases c with
      | zero => omega
      | succ c =>
        obtain ⟨r1, r2, r3, r4⟩ := gone_spec hb c (l.set k true) (nth xs k) (by omega) (by simpa using hl) (hb k hk) (by
          intro i hi hti
          rw [hS i hi] at hti
          by_cases e : i = k
          · subst e; exact Or.inr rfl
          · rw [if_neg e] at hti
            left
            rw [hS _ (hb i hi)]
            rcases hP i hi hti with h1 | h1
            · split
              · rfl
              · exact h1
            · rw [if_pos h1])
        rw [gone_step h]
        refine ⟨fun i hi hti => r1 i hi (by rw [hS i hi]; split; rfl; exact hti), r1 k hk (by rw [hS k hk, if_pos rfl]), r3, fun i hi hti => ?_⟩
        rcases r4 i hi hti with h1 | h1
        · rw [hS i hi] at h1
          by_cases e : i = k
          · subst e; exact Or.inr (rch_refl _ _)
          · rw [if_neg e] at h1; exact Or.inl h1
        · exact Or.inr (rch_trans (rch_step _ k) h1)
    · rw [gone_stop h]
      refine ⟨fun _ _ h => h, h, fun i hi hti => ?_, fun _ _ h => Or.inl h⟩
      rcases hP i hi hti with h1 | h1
      · exact h1
      · rw [h1]; exact h
theorem marks {xs : List Int} {n : Nat} (hb : ∀ i, i < n → nth xs i < n) : ∀ i, i ≤ n →
    (∀ j, j < n → ((ringsTo xs n i).1.getD j true = true ↔ ∃ a, a < i ∧ Rch (nth xs) a j)) ∧ (∀ j, j < n → (ringsTo xs n i).1.getD j true = true → (ringsTo xs n i).1.getD (nth xs j) true = true)
  | 0, _ => by
    have e : ∀ j, j < n → (ringsTo xs n 0).1.getD j true = false := fun j hj => by simp [ringsTo, hj]
    refine ⟨fun j hj => ?_, fun j hj h => ?_⟩
    · rw [e j hj]; simp
    · rw [e j hj] at h; cases h
  | i + 1, hi => by
    obtain ⟨h1, h2⟩ := marks hb i (by omega)
    obtain ⟨r1, r2, r3, r4⟩ := gone_spec hb _ (ringsTo xs n i).1 i rfl (ringsTo_len xs n i) (by omega) (fun j hj h => Or.inl (h2 j hj h))
    have e : (ringsTo xs n (i + 1)).1 = gone xs (ringsTo xs n i).1 i := rfl
    rw [e]
    refine ⟨fun j hj => ⟨fun h => ?_, ?_⟩, r3⟩
    · rcases r4 j hj h with h3 | h3
      · obtain ⟨a, ha, hr⟩ := (h1 j hj).1 h3
        exact ⟨a, by omega, hr⟩
      · exact ⟨i, by omega, h3⟩
    · rintro ⟨a, ha, hr⟩
      by_cases ea : a = i
      · subst ea
        have key : ∀ t, it (nth xs) t a < n ∧ (gone xs (ringsTo xs n a).1 a).getD (it (nth xs) t a) true = true := by
          intro t
          induction t with
          | zero => exact ⟨by show a < n; omega, r2⟩
          | succ t ih => exact ⟨hb _ ih.1, r3 _ ih.1 ih.2⟩
        obtain ⟨t, rfl⟩ := hr
        exact (key t).2
      · exact r1 j hj ((h1 j hj).2 ⟨a, by omega, hr⟩)
theorem rings_step {xs : List Int} {n i : Nat} (hb : ∀ i, i < n → nth xs i < n) (hi : i < n) :
    ((∃ a, a < i ∧ Rch (nth xs) a i) → (ringsTo xs n (i + 1)).2 = (ringsTo xs n i).2) ∧ ((¬ ∃ a, a < i ∧ Rch (nth xs) a i) → (ringsTo xs n (i + 1)).2 = (ringsTo xs n i).2 + 1) := by
  have h := (marks hb i (by omega)).1 i hi
  have e : (ringsTo xs n (i + 1)).2 = if (ringsTo xs n i).1.getD i true = false then (ringsTo xs n i).2 + 1 else (ringsTo xs n i).2 := rfl
  rw [e]
  constructor
  · intro hx
    rw [if_neg (by rw [h.2 hx]; decide)]
  · intro hx
    rw [if_pos]
    cases hc : (ringsTo xs n i).1.getD i true
    · rfl
    · exact absurd (h.1 hc) hx
theorem turns_of {xs : List Int} {n : Nat} (h : ordB xs n = true) : Turns (nth xs) n := by
  obtain ⟨_, _, h2⟩ := ordB_iff.1 h
  refine ⟨fun i hi => nth_lt h hi, fun i j hi hj e => h2 i j hi hj ?_⟩
  rw [nth_cast h hi, nth_cast h hj, e]
theorem twist_swap {xs : List Int} {n : Nat} (h : ordB xs n = true) (h1 : 1 < n) : Twist (nth xs) (nth (swap xs 0 1)) := by
  have hl := ordB_len h
  have e : ∀ i, i < n → (swap xs 0 1).getD i 0 = if i = 1 then xs.getD 0 0 else if i = 0 then xs.getD 1 0 else xs.getD i 0 := fun i hi => swap_get xs (by omega) (by omega) (by omega)
  refine ⟨?_, ?_, fun i hi => ?_⟩
  · unfold nth; rw [e 0 (by omega)]; simp
  · unfold nth; rw [e 1 (by omega)]; simp
  · by_cases hin : i < n
    · unfold nth; rw [e i hin, if_neg (by omega), if_neg (by omega)]
    · unfold nth
      rw [List.getD_eq_getElem?_getD, List.getD_eq_getElem?_getD, List.getElem?_eq_none (by rw [swap_len]; omega), List.getElem?_eq_none (by omega)]
/-- Where 0 and 1 lie apart, one ring less behind the change. -/
theorem rings_less {xs zs : List Int} {n : Nat} (h : ordB xs n = true) (hz : ordB zs n = true) (ht : Twist (nth xs) (nth zs)) (h1 : 1 < n) (hn : ¬ Rch (nth xs) 0 1) : rings xs = rings zs + 1 := by
  have tf := turns_of h
  have tg := turns_of hz
  have key : ∀ i, 2 ≤ i → i ≤ n → (ringsTo xs n i).2 = (ringsTo zs n i).2 + 1 := by
    intro i h2
    induction i with
    | zero => omega
    | succ i ih =>
      intro hin
      by_cases e : i = 1
      · subst e
        have z0 : ∀ f : Nat → Nat, ¬ ∃ a, a < 0 ∧ Rch f a 0 := fun f ⟨a, ha, _⟩ => by omega
        have a1 : (ringsTo xs n 1).2 = (ringsTo xs n 0).2 + 1 := (rings_step (i := 0) tf.1 (by omega)).2 (z0 _)
        have b1 : (ringsTo zs n 1).2 = (ringsTo zs n 0).2 + 1 := (rings_step (i := 0) tg.1 (by omega)).2 (z0 _)
        have a2 : (ringsTo xs n (1 + 1)).2 = (ringsTo xs n 1).2 + 1 := (rings_step (i := 1) tf.1 (by omega)).2 (fun ⟨a, ha, hr⟩ => by
          have : a = 0 := by omega
          subst this; exact hn hr)
        have b2 : (ringsTo zs n (1 + 1)).2 = (ringsTo zs n 1).2 := (rings_step (i := 1) tg.1 (by omega)).1 ⟨0, by omega, twist_reach tf ht h1 hn (rch_refl _ 1)⟩
        have c1 : (ringsTo xs n 0).2 = 0 := rfl
        have c2 : (ringsTo zs n 0).2 = 0 := rfl
        omega
      · have ih' := ih (by omega) (by omega)
        have same : (∃ a, a < i ∧ Rch (nth xs) a i) ↔ ∃ a, a < i ∧ Rch (nth zs) a i := by
          constructor
          · rintro ⟨a, ha, hr⟩
            exact ⟨a, ha, (twist_iff tf ht h1 hn (by omega)).2 (Or.inl hr)⟩
          · rintro ⟨a, ha, hr⟩
            rcases (twist_iff tf ht h1 hn (by omega)).1 hr with h3 | ⟨_, h3 | h3⟩
            · exact ⟨a, ha, h3⟩
            · exact ⟨0, by omega, h3⟩
            · exact ⟨1, by omega, h3⟩
        by_cases hx : ∃ a, a < i ∧ Rch (nth xs) a i
        · rw [(rings_step tf.1 (by omega)).1 hx, (rings_step tg.1 (by omega)).1 (same.1 hx), ih']
        · rw [(rings_step tf.1 (by omega)).2 hx, (rings_step tg.1 (by omega)).2 (fun k => hx (same.2 k)), ih']
  rw [rings, rings, ordB_len h, ordB_len hz]
  exact key n (by omega) (Nat.le_refl _)
/-- Two that change places make a ring more or one less. -/
theorem rings_swap {xs : List Int} {n : Nat} (h : ordB xs n = true) (h1 : 1 < n) : rings (swap xs 0 1) = rings xs + 1 ∨ rings xs = rings (swap xs 0 1) + 1 := by
  have hz := swap_ord h (show 0 < n by omega) h1
  have ht := twist_swap h h1
  by_cases hn : Rch (nth xs) 0 1
  · exact Or.inl (rings_less hz h ht.symm h1 (twist_apart (turns_of hz) ht h1 hn))
  · exact Or.inr (rings_less h hz ht h1 hn)
end Go.Proofs.Ytljccbnkibfimaa.Od
