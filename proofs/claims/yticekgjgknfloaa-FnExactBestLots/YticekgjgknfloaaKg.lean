/-
  Plain facts, of no program: items into boxes of 20, first fit: fewer than twice the least; from the greatest on, of nine items at most, eleven ninths of the fewest and six ninths at most (Johnson).
-/
import Derived.Test.YticekgjgknfloaaPf
namespace Go.Proofs.Yticekgjgknfloaa.Bx

abbrev Fn := Nat → Int
theorem if_ge {c : Prop} [Decidable c] {x : Int} (h : 0 ≤ x) : 0 ≤ if c then x else 0 := by
  split
  · exact h
  · exact Int.le_refl _
def sumTo (f : Fn) : Nat → Int
  | 0 => 0
  | k + 1 => sumTo f k + f k
theorem sum_add (f g : Fn) : ∀ n, sumTo (fun i => f i + g i) n = sumTo f n + sumTo g n
  | 0 => rfl
  | n + 1 => by simp only [sumTo]; rw [sum_add f g n]; omega
theorem sum_le {f g : Fn} : ∀ n, (∀ i, i < n → f i ≤ g i) → sumTo f n ≤ sumTo g n
  | 0, _ => Int.le_refl _
  | n + 1, h => by
    have h1 := sum_le n (fun i hi => h i (by omega))
    have h2 := h n (by omega)
    simp only [sumTo]; omega
theorem sum_eq {f g : Fn} (n : Nat) (h : ∀ i, i < n → f i = g i) : sumTo f n = sumTo g n :=
  Int.le_antisymm (sum_le n fun i hi => Int.le_of_eq (h i hi)) (sum_le n fun i hi => Int.le_of_eq (h i hi).symm)
theorem sum_const (c : Int) : ∀ n : Nat, sumTo (fun _ => c) n = c * (n : Int)
  | 0 => by simp [sumTo]
  | n + 1 => by simp only [sumTo]; rw [sum_const c n, Int.natCast_succ, Int.mul_add]; omega
theorem sum_pos {f : Fn} (n : Nat) (h : ∀ i, i < n → 0 ≤ f i) : 0 ≤ sumTo f n := by
  have := sum_le (f := fun _ => 0) n h
  rw [sum_const] at this
  omega
theorem sum_mono {f : Fn} {m : Nat} : ∀ n, m ≤ n → (∀ i, i < n → 0 ≤ f i) → sumTo f m ≤ sumTo f n
  | 0, h, _ => by
    have : m = 0 := by omega
    subst this; exact Int.le_refl _
  | n + 1, h, hp => by
    by_cases e : m = n + 1
    · subst e; exact Int.le_refl _
    · have h1 := sum_mono (f := f) (m := m) n (by omega) (fun i hi => hp i (by omega))
      have h2 := hp n (by omega)
      simp only [sumTo]; omega
/-- Just one counts. -/
theorem sum_only {f : Fn} {x : Nat} : ∀ n, x < n → (∀ i, i < n → i ≠ x → f i = 0) → sumTo f n = f x
  | 0, h, _ => by omega
  | n + 1, h, hz => by
    simp only [sumTo]
    by_cases e : x = n
    · subst e
      have : sumTo f x = sumTo (fun _ => 0) x := sum_eq x fun i hi => hz i (by omega) (by omega)
      rw [this, sum_const]; omega
    · rw [sum_only n (by omega) (fun i hi hne => hz i (by omega) hne), hz n (by omega) (fun e' => e e'.symm)]; omega
theorem sum_ge_one {f : Fn} {x n : Nat} (hx : x < n) (hp : ∀ i, i < n → 0 ≤ f i) : f x ≤ sumTo f n := by
  have h1 : sumTo (fun i => if i = x then f x else 0) n = f x := by
    rw [sum_only n hx]
    · simp
    · intro i _ hne; simp [hne]
  rw [← h1]
  refine sum_le n fun i hi => ?_
  by_cases e : i = x
  · subst e; simp
  · simp [e]; exact hp i hi
theorem sum_ge_two {f : Fn} {x y n : Nat} (hx : x < n) (hy : y < n) (hxy : x ≠ y) (hp : ∀ i, i < n → 0 ≤ f i) : f x + f y ≤ sumTo f n := by
  have h1 : sumTo (fun i => if i = x then f x else 0) n = f x := by
    rw [sum_only n hx]
    · simp
    · intro i _ hne; simp [hne]
  have h2 : sumTo (fun i => if i = y then f y else 0) n = f y := by
    rw [sum_only n hy]
    · simp
    · intro i _ hne; simp [hne]
  rw [← h1, ← h2, ← sum_add]
  refine sum_le n fun i hi => ?_
  by_cases e : i = x
  · subst e; simp [hxy]
  · by_cases e' : i = y
    · subst e'; simp [e]
    · simp [e, e']; exact hp i hi

/-- What lies in a box of the first k. -/
def lev (q : Nat → Nat) (x : Fn) (k b : Nat) : Int := sumTo (fun j => if q j = b then x j else 0) k
theorem lev_succ (q : Nat → Nat) (x : Fn) (k b : Nat) : lev q x (k + 1) b = lev q x k b + if q k = b then x k else 0 := rfl
theorem lev_sum (q : Nat → Nat) (x : Fn) (n : Nat) : ∀ N, sumTo (fun b => lev q x N b) n = sumTo (fun i => if q i < n then x i else 0) N
  | 0 => by
    have : sumTo (fun b => lev q x 0 b) n = sumTo (fun _ => 0) n := sum_eq n fun i _ => rfl
    rw [this, sum_const]; simp [sumTo]
  | N + 1 => by
    have e : sumTo (fun b => lev q x (N + 1) b) n = sumTo (fun b => lev q x N b + if q N = b then x N else 0) n := sum_eq n fun i _ => rfl
    rw [e, sum_add, lev_sum q x n N]
    simp only [sumTo]
    congr 1
    by_cases h : q N < n
    · rw [if_pos h, sum_only n h]
      · simp
      · intro i _ hne; rw [if_neg (fun e => hne e.symm)]
    · rw [if_neg h]
      have : sumTo (fun b => if q N = b then x N else 0) n = sumTo (fun _ => 0) n := sum_eq n fun i hi => by
        rw [if_neg]; omega
      rw [this, sum_const]; omega
theorem lev_all {q : Nat → Nat} {x : Fn} {n N : Nat} (h : ∀ i, i < N → q i < n) : sumTo (fun b => lev q x N b) n = sumTo x N := by
  rw [lev_sum]
  exact sum_eq N fun i hi => by rw [if_pos (h i hi)]
theorem lev_nonneg {q : Nat → Nat} {x : Fn} {k : Nat} (hx : ∀ i, i < k → 0 ≤ x i) (b : Nat) : 0 ≤ lev q x k b :=
  sum_pos k fun i hi => if_ge (hx i hi)
theorem lev_mono {q : Nat → Nat} {x : Fn} {k m : Nat} (hkm : k ≤ m) (hx : ∀ i, i < m → 0 ≤ x i) (b : Nat) : lev q x k b ≤ lev q x m b :=
  sum_mono m hkm fun i hi => if_ge (hx i hi)
theorem lev_one {q : Nat → Nat} {x : Fn} {k i b : Nat} (hi : i < k) (e : q i = b) (hx : ∀ i, i < k → 0 ≤ x i) : x i ≤ lev q x k b := by
  have := sum_ge_one (f := fun j => if q j = b then x j else 0) hi (fun j hj => if_ge (hx j hj))
  rw [if_pos e] at this
  exact this
theorem lev_two {q : Nat → Nat} {x : Fn} {k i j b : Nat} (hi : i < k) (hj : j < k) (hij : i ≠ j) (e : q i = b) (e' : q j = b) (hx : ∀ i, i < k → 0 ≤ x i) : x i + x j ≤ lev q x k b := by
  have := sum_ge_two (f := fun j => if q j = b then x j else 0) hi hj hij (fun j hj => if_ge (hx j hj))
  rw [if_pos e, if_pos e'] at this
  exact this
theorem lev_le {q : Nat → Nat} {x y : Fn} {k b : Nat} (h : ∀ i, i < k → q i = b → x i ≤ y i) : lev q x k b ≤ lev q y k b :=
  sum_le k fun i hi => by
    by_cases e : q i = b
    · simp [e]; exact h i hi e
    · simp [e]
theorem lev_scale (q : Nat → Nat) (c : Int) (b : Nat) : ∀ k, lev q (fun _ => c) k b = c * lev q (fun _ => 1) k b
  | 0 => by simp [lev, sumTo]
  | k + 1 => by
    rw [lev_succ, lev_succ, lev_scale q c b k, Int.mul_add]
    split <;> simp
theorem lev_none {q : Nat → Nat} {x : Fn} {k b : Nat} (h : ∀ i, i < k → q i ≠ b) : lev q x k b = 0 := by
  have : lev q x k b = sumTo (fun _ => 0) k := sum_eq k fun i hi => by rw [if_neg (h i hi)]
  rw [this, sum_const]; omega
theorem lev_some {q : Nat → Nat} {x : Fn} {k b : Nat} (h : lev q x k b ≠ 0) : ∃ i, i < k ∧ q i = b := by
  apply Classical.byContradiction
  intro hn
  exact h (lev_none fun i hi e => hn ⟨i, hi, e⟩)
theorem lev_only {q : Nat → Nat} {x : Fn} {k i b : Nat} (hi : i < k) (e : q i = b) (h : ∀ j, j < k → j ≠ i → q j ≠ b) : lev q x k b = x i := by
  have := sum_only (f := fun j => if q j = b then x j else 0) k hi (fun j hj hne => by rw [if_neg (h j hj hne)])
  rw [if_pos e] at this
  exact this
/-- How many lie in a box of the first k. -/
abbrev num (q : Nat → Nat) (k b : Nat) : Int := lev q (fun _ => 1) k b
theorem num_one {q : Nat → Nat} {k i b : Nat} (hi : i < k) (e : q i = b) : 1 ≤ num q k b := lev_one (x := fun _ => 1) hi e (fun _ _ => by omega)
theorem num_two {q : Nat → Nat} {k i j b : Nat} (hi : i < k) (hj : j < k) (hij : i ≠ j) (e : q i = b) (e' : q j = b) : 2 ≤ num q k b := lev_two (x := fun _ => 1) hi hj hij e e' (fun _ _ => by omega)
theorem num_alone {q : Nat → Nat} {k i b : Nat} (hi : i < k) (e : q i = b) (h : num q k b ≤ 1) : ∀ j, j < k → j ≠ i → q j ≠ b := by
  intro j hj hne e'
  have := num_two hj hi hne e' e
  omega

/-- A packing into n boxes. -/
structure Pk (x : Fn) (N n : Nat) (p : Nat → Nat) : Prop where
  lt : ∀ i, i < N → p i < n
  le : ∀ b, b < n → lev p x N b ≤ 20
/-- Each item in the first box in which it had room. -/
structure FF (x : Fn) (N : Nat) (q : Nat → Nat) : Prop where
  full : ∀ i, i < N → ∀ b, b < q i → 20 < lev q x i b + x i
  room : ∀ i, i < N → lev q x i (q i) + x i ≤ 20
structure It (x : Fn) (N : Nat) : Prop where
  lo : ∀ i, i < N → 1 ≤ x i
  hi : ∀ i, i < N → x i ≤ 20
theorem It.ge {x : Fn} {N : Nat} (h : It x N) {k : Nat} (hk : k ≤ N) : ∀ i, i < k → 0 ≤ x i := fun i hi => by have := h.lo i (by omega); omega
/-- Boxes are begun in order. -/
theorem FF.before {x : Fn} {N : Nat} {q : Nat → Nat} (h : FF x N q) (hx : It x N) {i b : Nat} (hi : i < N) (hb : b < q i) : ∃ j, j < i ∧ q j = b := by
  have h1 := h.full i hi b hb
  have h2 := hx.hi i hi
  exact lev_some (x := x) (k := i) (by omega)
theorem FF.le {x : Fn} {N : Nat} {q : Nat → Nat} (h : FF x N q) : ∀ k, k ≤ N → ∀ b, lev q x k b ≤ 20
  | 0, _, b => by simp [lev, sumTo]
  | k + 1, hk, b => by
    rw [lev_succ]
    by_cases e : q k = b
    · subst e; simp; exact h.room k (by omega)
    · simp [e]; exact FF.le h k (by omega) b
/-- Two boxes together have more than one has room for. -/
theorem FF.two {x : Fn} {N : Nat} {q : Nat → Nat} (h : FF x N q) (hx : It x N) {i b : Nat} (hi : i < N) (hb : b < q i) : 20 < lev q x N b + lev q x N (q i) := by
  have h1 := h.full i hi b hb
  have h2 := lev_mono (q := q) (show i ≤ N by omega) (hx.ge (Nat.le_refl _)) b
  have h3 := lev_one (q := q) hi rfl (hx.ge (Nat.le_refl _))
  omega
/-- The boxes used: s of them. -/
structure Many (q : Nat → Nat) (N s : Nat) : Prop where
  lt : ∀ i, i < N → q i < s
  all : ∀ b, b < s → ∃ i, i < N ∧ q i = b
theorem pairs {x : Fn} {N s : Nat} {q : Nat → Nat} (h : FF x N q) (hx : It x N) (hs : Many q N s) : ∀ m, 2 * m ≤ s → 21 * (m : Int) ≤ sumTo (fun b => lev q x N b) (2 * m)
  | 0, _ => by simp [sumTo]
  | m + 1, hm => by
    have h1 := pairs h hx hs m (by omega)
    obtain ⟨i, hi, e⟩ := hs.all (2 * m + 1) (by omega)
    have h2 := h.two hx hi (b := 2 * m) (by omega)
    rw [e] at h2
    have e2 : 2 * (m + 1) = 2 * m + 1 + 1 := by omega
    rw [e2]
    simp only [sumTo]
    omega
/-- First fit needs fewer than twice as many as the least. -/
theorem ff_twice {x : Fn} {N s m : Nat} {q : Nat → Nat} (h : FF x N q) (hx : It x N) (hs : Many q N s) (hm : 1 ≤ m) (hsum : sumTo x N ≤ 20 * (m : Int)) : s + 1 ≤ 2 * m := by
  apply Classical.byContradiction
  intro hn
  have h1 := pairs h hx hs m (by omega)
  have h2 := sum_mono (f := fun b => lev q x N b) (m := 2 * m) s (by omega) (fun b _ => lev_nonneg (hx.ge (Nat.le_refl _)) b)
  rw [lev_all hs.lt] at h2
  omega

/-- How many of the first k lie behind the first n boxes. -/
def ov (q : Nat → Nat) (n : Nat) : Nat → Nat
  | 0 => 0
  | k + 1 => ov q n k + if n ≤ q k then 1 else 0
theorem ov_sum {x : Fn} {N n : Nat} {q : Nat → Nat} (h : FF x N q) (hx : It x N) : ∀ k, k ≤ N → ov q n k ≤ n → 21 * (ov q n k : Int) ≤ sumTo (fun b => lev q x N b) (ov q n k) + sumTo (fun i => if n ≤ q i then x i else 0) k
  | 0, _, _ => by simp [ov, sumTo]
  | k + 1, hk, ho => by
    by_cases hq : n ≤ q k
    · have e : ov q n (k + 1) = ov q n k + 1 := by simp [ov, hq]
      rw [e] at ho ⊢
      have h1 := ov_sum (n := n) h hx k (by omega) (by omega)
      have h2 := h.full k (by omega) (ov q n k) (by omega)
      have h3 := lev_mono (q := q) (show k ≤ N by omega) (hx.ge (Nat.le_refl _)) (ov q n k)
      simp only [sumTo, if_pos hq]
      omega
    · have e : ov q n (k + 1) = ov q n k := by simp [ov, hq]
      rw [e] at ho ⊢
      have h1 := ov_sum (n := n) h hx k (by omega) ho
      simp only [sumTo, if_neg hq]
      omega
/-- Behind as many boxes as are enough lie fewer items than these boxes are. -/
theorem ov_few {x : Fn} {N n : Nat} {q p : Nat → Nat} (h : FF x N q) (hx : It x N) (hp : Pk x N n p) (hn : 1 ≤ n) : ∀ k, k ≤ N → ov q n k < n
  | 0, _ => by simp [ov]; omega
  | k + 1, hk => by
    have h0 := ov_few h hx hp hn k (by omega)
    by_cases hq : n ≤ q k
    · have e : ov q n (k + 1) = ov q n k + 1 := by simp [ov, hq]
      apply Classical.byContradiction
      intro hc
      have e2 : ov q n (k + 1) = n := by omega
      have h1 := ov_sum (n := n) h hx (k + 1) hk (by omega)
      rw [e2] at h1
      rw [lev_sum] at h1
      have h2 := sum_mono (f := fun i => if n ≤ q i then x i else 0) (m := k + 1) N hk (fun i hi => if_ge (hx.ge (Nat.le_refl _) i hi))
      have h3 : sumTo (fun i => if q i < n then x i else 0) N + sumTo (fun i => if n ≤ q i then x i else 0) N = sumTo x N := by
        rw [← sum_add]
        refine sum_eq N fun i _ => ?_
        by_cases hl : q i < n
        · rw [if_pos hl, if_neg (by omega)]; omega
        · rw [if_neg hl, if_pos (by omega)]; omega
      have h4 : sumTo x N ≤ 20 * (n : Int) := by
        rw [← lev_all hp.lt, ← sum_const]
        exact sum_le n fun b hb => hp.le b hb
      omega
    · have e : ov q n (k + 1) = ov q n k := by simp [ov, hq]
      omega
theorem ov_num (q : Nat → Nat) (n : Nat) : ∀ k, sumTo (fun b => num q k b) n + (ov q n k : Int) = (k : Int) := by
  intro k
  rw [lev_sum]
  induction k with
  | zero => simp [sumTo, ov]
  | succ k ih =>
    simp only [sumTo, ov]
    by_cases h : n ≤ q k
    · simp [h, show ¬ q k < n by omega]; omega
    · simp [h, show q k < n by omega]; omega
/-- Items of which no two have room in one box are no more than boxes. -/
theorem apart {x : Fn} {N n t : Nat} {p : Nat → Nat} (hx : It x N) (hp : Pk x N n p) (ht : t ≤ N) (h : ∀ i j, i < j → j < t → 20 < x i + x j) : t ≤ n := by
  have h1 : ∀ b, b < n → num p t b ≤ 1 := by
    intro b hb
    apply Classical.byContradiction
    intro hc
    obtain ⟨i, hi, e⟩ := lev_some (q := p) (x := fun _ => 1) (k := t) (b := b) (fun e => by have e2 : num p t b = 0 := e; omega)
    have hno : ¬ ∀ j, j < t → j ≠ i → p j ≠ b := fun hall => by
      have e2 : num p t b = 1 := lev_only (x := fun _ => 1) hi e hall
      omega
    have : ∃ j, j < t ∧ j ≠ i ∧ p j = b := by
      apply Classical.byContradiction
      intro hn
      exact hno fun j hj hne e' => hn ⟨j, hj, hne, e'⟩
    obtain ⟨j, hj, hne, e'⟩ := this
    have h2 := lev_two (x := x) (k := N) (show i < N by omega) (show j < N by omega) (fun e => hne e.symm) e e' (hx.ge (Nat.le_refl _))
    have h3 := hp.le b hb
    rcases Nat.lt_or_gt_of_ne hne with c | c
    · have := h j i c hi; omega
    · have := h i j c hj; omega
  have h2 : sumTo (fun b => num p t b) n = sumTo (fun _ => 1) t := lev_all fun i hi => hp.lt i (by omega)
  have h3 := sum_le (f := fun b => num p t b) (g := fun _ => 1) n h1
  rw [h2, sum_const, sum_const] at h3
  omega

/-- The first item that did not go into the first n boxes is of a third at most. -/
theorem third {x : Fn} {N n t : Nat} {q p : Nat → Nat} (h : FF x N q) (hx : It x N) (hp : Pk x N n p) (hd : ∀ i j, i ≤ j → j < N → x j ≤ x i) (ht : t < N) (hq : q t = n) (hf : ∀ i, i < t → q i < n) : x t ≤ 6 := by
  apply Classical.byContradiction
  intro hc
  have hge : ∀ k, k ≤ t + 1 → ∀ r : Nat → Nat, ∀ b, 7 * num r k b ≤ lev r x k b := by
    intro k hk r b
    rw [← lev_scale r 7 b k]
    exact lev_le fun i hi _ => by have := hd i t (by omega) ht; omega
  -- weights: two for one alone in its box, else one
  have hw : ∃ w : Fn, (∀ i, i < t → num q t (q i) = 1 → w i = 2) ∧ (∀ i, i < t → num q t (q i) ≠ 1 → w i = 1) ∧ w t = 1 :=
    ⟨fun i => if i < t ∧ num q t (q i) = 1 then 2 else 1, fun i h1 h2 => by simp [h1, h2], fun i h1 h2 => by simp [h2], by simp⟩
  obtain ⟨w, w2, w1, wt⟩ := hw
  have hlen : ∀ b, b < n → lev q w t b = 2 := by
    intro b hb
    obtain ⟨j, hj, ej⟩ := h.before hx ht (b := b) (by rw [hq]; exact hb)
    have n1 := num_one hj ej
    have n2 := hge t (by omega) q b
    have n3 := h.le t (by omega) b
    by_cases e1 : num q t b = 1
    · have h1 : lev q w t b ≤ lev q (fun _ => 2) t b := lev_le fun i hi e => by rw [w2 i hi (by rw [e]; exact e1)]; omega
      have h2 : lev q (fun _ => 2) t b ≤ lev q w t b := lev_le fun i hi e => by rw [w2 i hi (by rw [e]; exact e1)]; omega
      rw [lev_scale] at h1 h2
      have e2 : lev q (fun _ => 1) t b = 1 := e1
      omega
    · have h1 : lev q w t b ≤ lev q (fun _ => 1) t b := lev_le fun i hi e => by rw [w1 i hi (by rw [e]; exact e1)]; omega
      have h2 : lev q (fun _ => 1) t b ≤ lev q w t b := lev_le fun i hi e => by rw [w1 i hi (by rw [e]; exact e1)]; omega
      have e2 : lev q (fun _ => 1) t b = num q t b := rfl
      omega
  have htot : sumTo w (t + 1) = 2 * (n : Int) + 1 := by
    simp only [sumTo]
    rw [wt, ← lev_all (q := q) (x := w) hf, sum_eq n hlen, sum_const]
  have hbox : ∀ b, b < n → lev p w (t + 1) b ≤ 2 := by
    intro b hb
    have l20 : lev p x (t + 1) b ≤ 20 := by
      have := lev_mono (q := p) (show t + 1 ≤ N by omega) (hx.ge (Nat.le_refl _)) b
      have := hp.le b hb
      omega
    by_cases hs : ∃ i, i < t ∧ p i = b ∧ num q t (q i) = 1
    · obtain ⟨i, hi, e, e1⟩ := hs
      have hal : lev q x t (q i) = x i := lev_only hi rfl (num_alone hi rfl (by omega))
      have hfu := h.full t ht (q i) (by rw [hq]; exact hf i hi)
      rw [hal] at hfu
      have hone : ∀ j, j < t + 1 → j ≠ i → p j ≠ b := fun j hj hne e' => by
        have h1 := lev_two (x := x) (k := t + 1) (show i < t + 1 by omega) hj (fun e => hne e.symm) e e' (hx.ge (by omega))
        have h2 := hd j t (by omega) ht
        omega
      rw [lev_only (show i < t + 1 by omega) e hone, w2 i hi e1]
      omega
    · have h1 : lev p w (t + 1) b ≤ lev p (fun _ => 1) (t + 1) b := lev_le fun i hi e => by
        by_cases hit : i = t
        · subst hit; rw [wt]; omega
        · rw [w1 i (by omega) (fun e1 => hs ⟨i, by omega, e, e1⟩)]; omega
      have h2 := hge (t + 1) (Nat.le_refl _) p b
      have e2 : lev p (fun _ => 1) (t + 1) b = num p (t + 1) b := rfl
      omega
  have h1 : sumTo (fun b => lev p w (t + 1) b) n = sumTo w (t + 1) := lev_all fun i hi => hp.lt i (by omega)
  have h2 := sum_le (f := fun b => lev p w (t + 1) b) (g := fun _ => 2) n hbox
  rw [h1, htot, sum_const] at h2
  omega
theorem first_at {P : Nat → Prop} : ∀ k, P k → ∃ m, m ≤ k ∧ P m ∧ ∀ j, j < m → ¬ P j := by
  intro k
  induction k using Nat.strongRecOn with
  | _ k ih =>
    intro hk
    by_cases h : ∃ j, j < k ∧ P j
    · obtain ⟨j, hj, hp⟩ := h
      obtain ⟨m, h1, h2, h3⟩ := ih j hj hp
      exact ⟨m, by omega, h2, h3⟩
    · exact ⟨k, Nat.le_refl _, hk, fun j hj hp => h ⟨j, hj, hp⟩⟩
/-- From the greatest on, of nine at most. -/
theorem johnson {x : Fn} {N n s : Nat} {q p : Nat → Nat} (h : FF x N q) (hx : It x N) (hs : Many q N s) (hp : Pk x N n p) (hd : ∀ i j, i ≤ j → j < N → x j ≤ x i) (hN : N ≤ 9) : 9 * s ≤ 11 * n + 6 := by
  apply Classical.byContradiction
  intro hc
  have hsN : s ≤ N := by
    -- each box has an item
    have h1 : sumTo (fun _ => 1) s ≤ sumTo (fun b => num q N b) s := sum_le s fun b hb => by
      obtain ⟨i, hi, e⟩ := hs.all b hb
      exact num_one hi e
    have h2 : sumTo (fun b => num q N b) s = sumTo (fun _ => 1) N := lev_all hs.lt
    rw [h2, sum_const, sum_const] at h1
    omega
  have hn : 1 ≤ n := by
    apply Classical.byContradiction
    intro h0
    by_cases hN0 : 0 < N
    · have := hp.lt 0 hN0; omega
    · omega
  have hlt : n < s := by omega
  have hov := ov_few h hx hp hn N (Nat.le_refl _)
  have hnum := ov_num q n N
  -- the first item behind n boxes
  obtain ⟨i0, hi0, e0⟩ := hs.all n hlt
  obtain ⟨t, ht0, ⟨htN, hqt⟩, hmin⟩ := first_at (P := fun i => i < N ∧ q i = n) i0 ⟨hi0, e0⟩
  have hf : ∀ i, i < t → q i < n := by
    intro i hi
    apply Classical.byContradiction
    intro hge
    by_cases e : q i = n
    · exact hmin i hi ⟨by omega, e⟩
    · obtain ⟨j, hj, ej⟩ := h.before hx (i := i) (by omega) (b := n) (by omega)
      exact hmin j (by omega) ⟨by omega, ej⟩
  have h6 := third h hx hp hd htN hqt hf
  have small : ∀ i, i < N → n ≤ q i → x i ≤ 6 := by
    intro i hi hq
    have : t ≤ i := by
      apply Classical.byContradiction
      intro hl
      have := hf i (by omega)
      omega
    have := hd t i this hi
    omega
  -- a box that is full for such an item has three of them
  have three : ∀ b, n ≤ b → b + 1 < s → 3 ≤ num q N b := by
    intro b hb hbs
    obtain ⟨i, hi, e⟩ := hs.all (b + 1) hbs
    have h1 := h.full i hi b (by omega)
    have h2 := small i hi (by omega)
    have h3 : lev q x i b ≤ lev q (fun _ => 6) i b := lev_le fun j hj e => small j (by omega) (by omega)
    rw [lev_scale] at h3
    have h4 : lev q (fun _ => 1) i b ≤ lev q (fun _ => 1) N b := lev_mono (by omega) (fun _ _ => by omega) b
    have e5 : num q N b = lev q (fun _ => 1) N b := rfl
    omega
  have htot : sumTo (fun b => num q N b) s = (N : Int) := by
    have h2 : sumTo (fun b => num q N b) s = sumTo (fun _ => 1) N := lev_all hs.lt
    rw [h2, sum_const]; omega
  have hge0 : ∀ b, b < s → 0 ≤ num q N b := fun b _ => lev_nonneg (fun _ _ => by omega) b
  have one : ∀ b, b < s → 1 ≤ num q N b := fun b hb => by
    obtain ⟨i, hi, e⟩ := hs.all b hb
    exact num_one hi e
  by_cases hs2 : n + 2 ≤ s
  · have h3 := three n (Nat.le_refl _) (by omega)
    have h4 := one (n + 1) (by omega)
    have h5 := sum_mono (f := fun b => num q N b) (m := n + 1 + 1) s (by omega) hge0
    simp only [sumTo] at h5
    have hn5 : 5 ≤ n := by omega
    by_cases hs3 : n + 3 ≤ s
    · have h6 := three (n + 1) (by omega) (by omega)
      have h7 := one (n + 2) (by omega)
      have h8 := sum_mono (f := fun b => num q N b) (m := n + 2 + 1) s (by omega) hge0
      simp only [sumTo] at h8
      have h9 := sum_le (f := fun _ => 1) (g := fun b => num q N b) n (fun b hb => one b (by omega))
      rw [sum_const] at h9
      omega
    · -- five boxes with one item each
      have hn' : n = 5 := by omega
      have hsum5 : sumTo (fun b => num q N b) n ≤ 5 := by omega
      have h9 := sum_le (f := fun _ => 1) (g := fun b => num q N b) n (fun b hb => one b (by omega))
      rw [sum_const] at h9
      have each : ∀ b, b < n → num q N b ≤ 1 := by
        intro b hb
        apply Classical.byContradiction
        intro hgt
        have h1 : sumTo (fun c => num q N c - 1) n = sumTo (fun b => num q N b) n - (n : Int) := by
          have := sum_add (fun b => num q N b) (fun _ => -1) n
          rw [sum_const] at this
          have e : sumTo (fun c => num q N c - 1) n = sumTo (fun i => num q N i + -1) n := sum_eq n fun i _ => by omega
          omega
        have h2 := sum_ge_one (f := fun c => num q N c - 1) hb (fun c hc => by have := one c (by omega); omega)
        omega
      have hap := apart (t := t + 1) hx hp (by omega) (fun i j hij hj => by
        have hit : i < t := by omega
        have h1 := h.full t htN (q i) (by rw [hqt]; exact hf i hit)
        have hal : num q t (q i) ≤ 1 := by
          have h2 : num q t (q i) ≤ num q N (q i) := lev_mono (by omega) (fun _ _ => by omega) _
          have h3 := each (q i) (hf i hit)
          omega
        have h4 : lev q x t (q i) = x i := lev_only hit rfl (num_alone hit rfl hal)
        have h5 := hd j t (by omega) htN
        omega)
      -- t is at least n
      have h10 := sum_le (f := fun _ => 1) (g := fun b => num q t b) n (fun b hb => by
        obtain ⟨j, hj, ej⟩ := h.before hx htN (b := b) (by rw [hqt]; exact hb)
        exact num_one hj ej)
      have h11 : sumTo (fun b => num q t b) n = sumTo (fun _ => 1) t := lev_all hf
      rw [h11, sum_const, sum_const] at h10
      omega
  · -- one box more
    have : s = n + 1 := by omega
    have h1 : n = 1 := by omega
    have h5 := sum_mono (f := fun b => num q N b) (m := n + 1) s (by omega) hge0
    simp only [sumTo] at h5
    have := one n (by omega)
    omega
end Go.Proofs.Yticekgjgknfloaa.Bx
