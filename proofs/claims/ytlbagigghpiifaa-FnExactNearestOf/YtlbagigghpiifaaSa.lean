/-
  Plain facts, of no program: places shared out, gains and losses in lowest terms, the first best of a list.
-/
import Derived.Test.YtlbagigghpiifaaPf
import Derived.Test.YtlbagigghpiifaaMath
namespace Go.Proofs.Ytlbagigghpiifaa.Sh

def flowB (fs : List Int) : Bool := Pf.inB fs.length 1 8 && Pf.allB fs 1 30
def kindsB (fs : List Int) (p : Int) : Bool := flowB fs && Pf.inB p fs.length 40
def sharedB (fs cs : List Int) : Bool := flowB fs && decide (cs.length = fs.length) && Pf.allB cs 1 40 && decide (cs.sum ≤ 40)
theorem flowB_yes {fs : List Int} (h : flowB fs = true) : 1 ≤ fs.length ∧ fs.length ≤ 8 ∧ Pf.allB fs 1 30 = true := by
  simp only [flowB, Bool.and_eq_true] at h
  have := Pf.inB_yes h.1
  exact ⟨by omega, by omega, h.2⟩
theorem flowB_at {fs : List Int} (h : flowB fs = true) {i : Nat} (hi : i < fs.length) : 1 ≤ fs.getD i 0 ∧ fs.getD i 0 ≤ 30 := Pf.inB_yes (Pf.allB_get (flowB_yes h).2.2 hi)
theorem kindsB_yes {fs : List Int} {p : Int} (h : kindsB fs p = true) : flowB fs = true ∧ (fs.length : Int) ≤ p ∧ p ≤ 40 := by
  simp only [kindsB, Bool.and_eq_true] at h
  exact ⟨h.1, Pf.inB_yes h.2⟩
theorem sharedB_yes {fs cs : List Int} (h : sharedB fs cs = true) : flowB fs = true ∧ cs.length = fs.length ∧ Pf.allB cs 1 40 = true ∧ cs.sum ≤ 40 := by
  simp only [sharedB, Bool.and_eq_true, decide_eq_true_eq] at h
  exact ⟨h.1.1.1, h.1.1.2, h.1.2, h.2⟩
theorem sharedB_of {fs cs : List Int} (h1 : flowB fs = true) (h2 : cs.length = fs.length) (h3 : Pf.allB cs 1 40 = true) (h4 : cs.sum ≤ 40) : sharedB fs cs = true := by
  simp [sharedB, h1, h2, h3, h4]
theorem sharedB_at {fs cs : List Int} (h : sharedB fs cs = true) {i : Nat} (hi : i < fs.length) : 1 ≤ cs.getD i 0 ∧ cs.getD i 0 ≤ 40 := Pf.inB_yes (Pf.allB_get (sharedB_yes h).2.2.1 (by rw [(sharedB_yes h).2.1]; exact hi))

def mk (n d : Int) : Int × Int := (Fr.mkN n d, Fr.mkD n d)
def goodF (p : Int × Int) : Bool := Fr.goodB p.1 p.2
def less (p q : Int × Int) : Bool := Fr.lessB p.1 p.2 q.1 q.2
def more (p q : Int × Int) : Bool := less q p
def cost (f c : Int) : Int × Int := mk f c
def gain (f c : Int) : Int × Int := mk f (c * (c + 1))
def loss (f c : Int) : Int × Int := mk f (c * (c - 1))
theorem mk_facts (n d : Int) (hd : 0 < d) : ∃ G, 0 < G ∧ n = G * (mk n d).1 ∧ d = G * (mk n d).2 ∧ Fr.g (mk n d).1 (mk n d).2 = 1 := by
  have hg := Fr.g_pos n d (by omega)
  obtain ⟨k, hk⟩ := Fr.g_dvdl n d
  obtain ⟨l, hl⟩ := Fr.g_dvdr n d
  have en : (mk n d).1 = k := by
    show Fr.mkN n d = k
    unfold Fr.mkN; rw [if_neg (by omega)]
    conv => lhs; lhs; rw [hk]
    exact Int.mul_tdiv_cancel_left k (by omega)
  have ed : (mk n d).2 = l := by
    show Fr.mkD n d = l
    unfold Fr.mkD; rw [if_neg (by omega)]
    conv => lhs; lhs; rw [hl]
    exact Int.mul_tdiv_cancel_left l (by omega)
  refine ⟨Fr.g n d, hg, by rw [en]; exact hk, by rw [ed]; exact hl, ?_⟩
  rw [en, ed]
  have h1 : Fr.g n d = Fr.g n d * Fr.g k l := by
    have e : Fr.g (Fr.g n d * k) (Fr.g n d * l) = Fr.g n d * Fr.g k l := by
      generalize Fr.g n d = G at *
      unfold Fr.g
      rw [Int.gcd_mul_left]
      have : (G.natAbs : Int) = G := by omega
      rw [Int.natCast_mul, this]
    rw [← hk, ← hl] at e
    exact e
  have h2 : Fr.g n d * Fr.g k l = Fr.g n d * 1 := by omega
  exact Int.eq_of_mul_eq_mul_left (by omega) h2
theorem mk_good {n d : Int} (hn0 : -1000000000 ≤ n) (hn1 : n ≤ 1000000000) (hd0 : 0 < d) (hd1 : d ≤ 1000000000) : goodF (mk n d) = true := by
  obtain ⟨G, hG, en, ed, hg⟩ := mk_facts n d hd0
  have a1 := Fr.mkN_abs n d
  have a2 := Fr.mkD_abs n d
  unfold goodF
  rw [Fr.goodB_iff]
  have hp : 0 < (mk n d).2 := by
    rcases Int.lt_or_le 0 (mk n d).2 with h | h
    · exact h
    · have : G * (mk n d).2 ≤ 0 := Int.mul_nonpos_of_nonneg_of_nonpos (by omega) h
      omega
  have e1 : (mk n d).1 = Fr.mkN n d := rfl
  have e2 : (mk n d).2 = Fr.mkD n d := rfl
  refine ⟨by omega, by omega, by omega, by omega, hg⟩
theorem mk_less {a b c d : Int} (hb : 0 < b) (hd : 0 < d) : less (mk a b) (mk c d) = decide (a * d < c * b) := by
  obtain ⟨G, hG, ea, eb, _⟩ := mk_facts a b hb
  obtain ⟨H, hH, ec, ed, _⟩ := mk_facts c d hd
  generalize mk a b = p at *
  generalize mk c d = q at *
  unfold less Fr.lessB
  have hGH : 0 < G * H := Int.mul_pos hG hH
  have e1 : a * d = G * H * (p.1 * q.2) := by rw [ea, ed]; ac_rfl
  have e2 : c * b = G * H * (q.1 * p.2) := by rw [ec, eb]; ac_rfl
  rw [e1, e2]
  congr 1
  exact propext ⟨fun h => Int.mul_lt_mul_of_pos_left h hGH, fun h => Int.lt_of_mul_lt_mul_left h (by omega)⟩
theorem good_pos {p : Int × Int} (h : goodF p = true) : 1 ≤ p.2 := (Fr.good_bd _ _ h).2.2.1
/-- Not less, then less or as great. -/
theorem less_trans' {p q r : Int × Int} (hp : goodF p = true) (hq : goodF q = true) (hr : goodF r = true) (h1 : less p q = true) (h2 : less r q = false) : less p r = true := by
  have dp := good_pos hp
  have dq := good_pos hq
  have dr := good_pos hr
  unfold less Fr.lessB at *
  simp only [decide_eq_true_eq, decide_eq_false_iff_not] at *
  have a1 : p.1 * q.2 * r.2 < q.1 * p.2 * r.2 := Int.mul_lt_mul_of_pos_right h1 (by omega)
  have a2 : q.1 * r.2 * p.2 ≤ r.1 * q.2 * p.2 := Int.mul_le_mul_of_nonneg_right (by omega) (by omega)
  have e1 : p.1 * q.2 * r.2 = q.2 * (p.1 * r.2) := by ac_rfl
  have e2 : q.1 * p.2 * r.2 = q.1 * r.2 * p.2 := by ac_rfl
  have e3 : r.1 * q.2 * p.2 = q.2 * (r.1 * p.2) := by ac_rfl
  exact Int.lt_of_mul_lt_mul_left (a := q.2) (by omega) (by omega)
theorem less_trans'' {p q r : Int × Int} (hp : goodF p = true) (hq : goodF q = true) (hr : goodF r = true) (h1 : less q p = false) (h2 : less q r = true) : less p r = true := by
  have dp := good_pos hp
  have dq := good_pos hq
  have dr := good_pos hr
  unfold less Fr.lessB at *
  simp only [decide_eq_true_eq, decide_eq_false_iff_not] at *
  have a1 : p.1 * q.2 * r.2 ≤ q.1 * p.2 * r.2 := Int.mul_le_mul_of_nonneg_right (by omega) (by omega)
  have a2 : q.1 * r.2 * p.2 < r.1 * q.2 * p.2 := Int.mul_lt_mul_of_pos_right h2 (by omega)
  have e1 : p.1 * q.2 * r.2 = q.2 * (p.1 * r.2) := by ac_rfl
  have e2 : q.1 * p.2 * r.2 = q.1 * r.2 * p.2 := by ac_rfl
  have e3 : r.1 * q.2 * p.2 = q.2 * (r.1 * p.2) := by ac_rfl
  exact Int.lt_of_mul_lt_mul_left (a := q.2) (by omega) (by omega)
theorem less_irr (p : Int × Int) : less p p = false := by unfold less Fr.lessB; simp
theorem less_asymm {p q : Int × Int} (h : less p q = true) : less q p = false := by
  unfold less Fr.lessB at *; simp only [decide_eq_true_eq, decide_eq_false_iff_not] at *; omega

/-- The number of the first best one of the first k, as r tells which is better. -/
def best (r : Int × Int → Int × Int → Bool) (xs : List (Int × Int)) : Nat → Nat
  | 0 => 0
  | k + 1 => if r (xs.getD k (0, 0)) (xs.getD (best r xs k) (0, 0)) = true then k else best r xs k
theorem best_lt (r : Int × Int → Int × Int → Bool) (xs : List (Int × Int)) : ∀ k, best r xs (k + 1) < k + 1
  | 0 => by unfold best; split <;> simp [best]
  | k + 1 => by
    have := best_lt r xs k
    rw [best]; split <;> omega
theorem best_le (r : Int × Int → Int × Int → Bool) (xs : List (Int × Int)) (k : Nat) (h : 0 < k) : best r xs k < k := by
  obtain ⟨m, rfl⟩ : ∃ m, k = m + 1 := ⟨k - 1, by omega⟩
  exact best_lt r xs m
theorem best_step_yes {r : Int × Int → Int × Int → Bool} {xs : List (Int × Int)} {k : Nat} (h : r (xs.getD k (0, 0)) (xs.getD (best r xs k) (0, 0)) = true) : best r xs (k + 1) = k := by
  rw [best, if_pos h]
theorem best_step_no {r : Int × Int → Int × Int → Bool} {xs : List (Int × Int)} {k : Nat} (h : r (xs.getD k (0, 0)) (xs.getD (best r xs k) (0, 0)) = false) : best r xs (k + 1) = best r xs k := by
  rw [best, if_neg (by rw [h]; simp)]
/-- No one of the first k is more than the best. -/
theorem best_more {xs : List (Int × Int)} (hg : ∀ i, i < xs.length → goodF (xs.getD i (0, 0)) = true) : ∀ k, k ≤ xs.length → ∀ i, i < k → less (xs.getD (best more xs k) (0, 0)) (xs.getD i (0, 0)) = false
  | 0, _, i, hi => by omega
  | k + 1, hk, i, hi => by
    have ih := best_more hg k (by omega)
    cases h : more (xs.getD k (0, 0)) (xs.getD (best more xs k) (0, 0))
    · rw [best_step_no h]
      by_cases e : i = k
      · subst e; exact h
      · exact ih i (by omega)
    · rw [best_step_yes h]
      by_cases e : i = k
      · subst e; exact less_irr _
      · have hik := ih i (by omega)
        cases hh : less (xs.getD k (0, 0)) (xs.getD i (0, 0))
        · rfl
        · have hb : best more xs k < k := best_le _ _ _ (by omega)
          have h' : less (xs.getD (best more xs k) (0, 0)) (xs.getD k (0, 0)) = true := h
          have := less_trans' (hg _ (by omega)) (hg k (by omega)) (hg i (by omega)) h' (less_asymm hh)
          rw [this] at hik; cases hik
theorem best_less {xs : List (Int × Int)} (hg : ∀ i, i < xs.length → goodF (xs.getD i (0, 0)) = true) : ∀ k, k ≤ xs.length → ∀ i, i < k → less (xs.getD i (0, 0)) (xs.getD (best less xs k) (0, 0)) = false
  | 0, _, i, hi => by omega
  | k + 1, hk, i, hi => by
    have ih := best_less hg k (by omega)
    cases h : less (xs.getD k (0, 0)) (xs.getD (best less xs k) (0, 0))
    · rw [best_step_no h]
      by_cases e : i = k
      · subst e; exact h
      · exact ih i (by omega)
    · rw [best_step_yes h]
      by_cases e : i = k
      · subst e; exact less_irr _
      · have hik := ih i (by omega)
        cases hh : less (xs.getD i (0, 0)) (xs.getD k (0, 0))
        · rfl
        · have hb : best less xs k < k := best_le _ _ _ (by omega)
          have := less_trans' (hg i (by omega)) (hg k (by omega)) (hg _ (by omega)) hh (less_asymm h)
          rw [this] at hik; cases hik

/-- What f tells of each kind. -/
def each (f : Int → Int → Int × Int) (fs cs : List Int) : List (Int × Int) := (List.range fs.length).map fun i => f (fs.getD i 0) (cs.getD i 0)
theorem each_len (f : Int → Int → Int × Int) (fs cs : List Int) : (each f fs cs).length = fs.length := by simp [each]
theorem each_at (f : Int → Int → Int × Int) (fs cs : List Int) {i : Nat} (hi : i < fs.length) : (each f fs cs).getD i (0, 0) = f (fs.getD i 0) (cs.getD i 0) := by
  simp [each, hi]
def next (fs cs : List Int) : Nat := best more (each gain fs cs) fs.length
theorem next_lt {fs : List Int} (cs : List Int) (h : 0 < fs.length) : next fs cs < fs.length := best_le _ _ _ h
theorem mul_bds {c d : Int} (h0 : 1 ≤ c) (h1 : c ≤ 40) (k0 : 0 < d) (k1 : d ≤ 41) : 0 < c * d ∧ c * d ≤ 1640 := by
  have a : 0 < c * d := Int.mul_pos (by omega) k0
  have b : c * d ≤ 40 * 41 := Int.mul_le_mul h1 k1 (by omega) (by omega)
  exact ⟨a, by omega⟩
theorem gain_den {c : Int} (h0 : 1 ≤ c) (h1 : c ≤ 40) : 0 < c * (c + 1) ∧ c * (c + 1) ≤ 1640 := mul_bds h0 h1 (by omega) (by omega)
theorem loss_den {c : Int} (h0 : 1 < c) (h1 : c ≤ 40) : 0 < c * (c - 1) ∧ c * (c - 1) ≤ 1640 := mul_bds (by omega) h1 (by omega) (by omega)
theorem gain_good {f c : Int} (f0 : 1 ≤ f) (f1 : f ≤ 30) (h0 : 1 ≤ c) (h1 : c ≤ 40) : goodF (gain f c) = true := by
  have := gain_den h0 h1
  exact mk_good (by omega) (by omega) this.1 (by omega)
theorem loss_good {f c : Int} (f0 : 1 ≤ f) (f1 : f ≤ 30) (h0 : 1 < c) (h1 : c ≤ 40) : goodF (loss f c) = true := by
  have := loss_den h0 h1
  exact mk_good (by omega) (by omega) this.1 (by omega)
theorem cost_good {f c : Int} (f0 : 1 ≤ f) (f1 : f ≤ 30) (h0 : 1 ≤ c) (h1 : c ≤ 40) : goodF (cost f c) = true := mk_good (by omega) (by omega) (by omega) (by omega)
/-- A kind's own gain is below its own loss. -/
theorem own_less {f c : Int} (f0 : 1 ≤ f) (h0 : 1 < c) (h1 : c ≤ 40) : less (loss f c) (gain f c) = false := by
  have a := gain_den (c := c) (by omega) h1
  have b := loss_den h0 h1
  unfold loss gain
  rw [mk_less b.1 a.1]
  simp only [decide_eq_false_iff_not, Int.not_lt]
  refine Int.mul_le_mul_of_nonneg_left ?_ (by omega)
  exact Int.mul_le_mul_of_nonneg_left (by omega) (by omega)

/-- The counts, from one each on. -/
def share (fs : List Int) : Nat → List Int
  | 0 => List.replicate fs.length 1
  | n + 1 => (share fs n).set (next fs (share fs n)) ((share fs n).getD (next fs (share fs n)) 0 + 1)
theorem share_len (fs : List Int) : ∀ n, (share fs n).length = fs.length
  | 0 => by simp [share]
  | n + 1 => by rw [share]; simp [share_len fs n]
theorem set_sum : ∀ (cs : List Int) (i : Nat) (x : Int), i < cs.length → (cs.set i x).sum = cs.sum - cs.getD i 0 + x
  | [], _, _, h => by simp at h
  | c :: r, 0, x, _ => by simp; omega
  | c :: r, i + 1, x, h => by
    have ih := set_sum r i x (by simpa using h)
    simp only [List.set_cons_succ, List.sum_cons, List.getD_cons_succ]
    omega
theorem share_sum {fs : List Int} (h : 0 < fs.length) : ∀ n, (share fs n).sum = fs.length + n
  | 0 => by simp [share]
  | n + 1 => by
    rw [share, set_sum _ _ _ (by rw [share_len]; exact next_lt _ h), share_sum h n]
    omega
theorem set_get (cs : List Int) (i j : Nat) (x : Int) (hi : i < cs.length) : (cs.set i x).getD j 0 = if j = i then x else cs.getD j 0 := by
  by_cases e : j = i
  · subst e; simp [hi]
  · rw [if_neg e]
    simp only [List.getD_eq_getElem?_getD]
    rw [List.getElem?_set_ne (by omega)]
theorem share_ge {fs : List Int} (h : 0 < fs.length) : ∀ n i, i < fs.length → 1 ≤ (share fs n).getD i 0
  | 0, i, hi => by simp [share, hi]
  | n + 1, i, hi => by
    have ih := share_ge h n
    rw [share, set_get _ _ _ _ (by rw [share_len]; exact next_lt _ h)]
    split
    · have := ih _ (next_lt (share fs n) h); omega
    · exact ih i hi
theorem le_sum {cs : List Int} (h : ∀ i, i < cs.length → 1 ≤ cs.getD i 0) : (cs.length : Int) ≤ cs.sum := by
  induction cs with
  | nil => simp
  | cons c r ih =>
    have h0 := h 0 (by simp)
    have ih' := ih fun i hi => by simpa using h (i + 1) (by simpa using hi)
    simp at h0
    simp only [List.length_cons, List.sum_cons]
    omega
theorem at_le_sum : ∀ {cs : List Int}, (∀ i, i < cs.length → 1 ≤ cs.getD i 0) → ∀ i, i < cs.length → cs.getD i 0 + (cs.length - 1 : Int) ≤ cs.sum
  | [], _, i, hi => by simp at hi
  | c :: r, h, 0, _ => by
    have := le_sum (cs := r) fun i hi => by simpa using h (i + 1) (by simpa using hi)
    simp only [List.getD_cons_zero, List.length_cons, List.sum_cons]
    omega
  | c :: r, h, i + 1, hi => by
    have h0 := h 0 (by simp)
    simp at h0
    have := at_le_sum (cs := r) (fun i hi => by simpa using h (i + 1) (by simpa using hi)) i (by simpa using hi)
    simp only [List.getD_cons_succ, List.length_cons, List.sum_cons]
    omega
theorem share_shared {fs : List Int} (h : flowB fs = true) (n : Nat) (hn : fs.length + n ≤ 40) : sharedB fs (share fs n) = true := by
  have hf := flowB_yes h
  have hs := share_sum (fs := fs) (by omega) n
  refine sharedB_of h (share_len fs n) (Pf.allB_of fun i hi => ?_) (by rw [hs]; omega)
  rw [share_len] at hi
  have h1 := share_ge (fs := fs) (by omega) n
  have h2 := at_le_sum (cs := share fs n) (fun i hi => h1 i (by rwa [share_len] at hi)) i (by rwa [share_len])
  rw [hs, share_len] at h2
  exact Pf.inB_of (h1 i hi) (by omega)

/-- What the model asks: no kind with more than one has a loss below another one's gain. -/
def stableAt (fs cs : List Int) (i : Nat) : Bool := cs.getD i 0 == 1 || (List.range fs.length).all fun k => k == i || !less (loss (fs.getD i 0) (cs.getD i 0)) (gain (fs.getD k 0) (cs.getD k 0))
def stableB (fs cs : List Int) : Bool := (List.range fs.length).all fun i => stableAt fs cs i
/-- The losses of the first k kinds that have more than one. -/
def losses (fs cs : List Int) : Nat → List (Int × Int)
  | 0 => []
  | k + 1 => if 1 < cs.getD k 0 then losses fs cs k ++ [loss (fs.getD k 0) (cs.getD k 0)] else losses fs cs k
theorem losses_len (fs cs : List Int) : ∀ k, (losses fs cs k).length ≤ k
  | 0 => by simp [losses]
  | k + 1 => by
    have := losses_len fs cs k
    rw [losses]; split <;> simp <;> omega
theorem losses_mem {fs cs : List Int} {p : Int × Int} : ∀ {k}, p ∈ losses fs cs k ↔ ∃ i, i < k ∧ 1 < cs.getD i 0 ∧ p = loss (fs.getD i 0) (cs.getD i 0)
  | 0 => by simp [losses]
  | k + 1 => by
    rw [losses]
    constructor
    · intro h
      split at h
      · rename_i hc
        rcases List.mem_append.1 h with h | h
        · obtain ⟨i, hi, h1, h2⟩ := losses_mem.1 h; exact ⟨i, by omega, h1, h2⟩
        · exact ⟨k, by omega, hc, by simpa using h⟩
      · obtain ⟨i, hi, h1, h2⟩ := losses_mem.1 h; exact ⟨i, by omega, h1, h2⟩
    · rintro ⟨i, hi, h1, h2⟩
      by_cases e : i = k
      · subst e; rw [if_pos h1]; subst h2; simp
      · have := losses_mem.2 ⟨i, show i < k by omega, h1, h2⟩
        split
        · exact List.mem_append_left _ this
        · exact this
/-- What the program asks: the least loss against the greatest gain. -/
def calmB (fs cs : List Int) : Bool :=
  if (losses fs cs fs.length).length = 0 then true else
    !less ((losses fs cs fs.length).getD (best less (losses fs cs fs.length) (losses fs cs fs.length).length) (0, 0)) (gain (fs.getD (next fs cs) 0) (cs.getD (next fs cs) 0))
theorem getD_mem {α : Type} (xs : List α) (d : α) {i : Nat} (h : i < xs.length) : xs.getD i d ∈ xs := by rw [Pf.getD_lt _ _ h]; exact List.getElem_mem h
theorem losses_good {fs cs : List Int} (h : sharedB fs cs = true) : ∀ i, i < (losses fs cs fs.length).length → goodF ((losses fs cs fs.length).getD i (0, 0)) = true := fun i hi => by
  obtain ⟨j, hj, hc, e⟩ := losses_mem.1 (getD_mem _ (0, 0) hi)
  have f1 := flowB_at (sharedB_yes h).1 hj
  have c1 := sharedB_at h hj
  rw [e]; exact loss_good f1.1 f1.2 hc c1.2
theorem gains_good {fs cs : List Int} (h : sharedB fs cs = true) : ∀ i, i < (each gain fs cs).length → goodF ((each gain fs cs).getD i (0, 0)) = true := fun i hi => by
  rw [each_len] at hi
  have f1 := flowB_at (sharedB_yes h).1 hi
  have c1 := sharedB_at h hi
  rw [each_at _ _ _ hi]; exact gain_good f1.1 f1.2 c1.1 c1.2
theorem next_best {fs cs : List Int} (h : sharedB fs cs = true) {k : Nat} (hk : k < fs.length) : less (gain (fs.getD (next fs cs) 0) (cs.getD (next fs cs) 0)) (gain (fs.getD k 0) (cs.getD k 0)) = false := by
  have := best_more (gains_good h) fs.length (by rw [each_len]; exact Nat.le_refl _) k hk
  rw [each_at _ _ _ hk] at this
  rw [show best more (each gain fs cs) fs.length = next fs cs from rfl, each_at _ _ _ (next_lt cs (by omega))] at this
  exact this
theorem calm_eq {fs cs : List Int} (h : sharedB fs cs = true) : calmB fs cs = stableB fs cs := by
  have hf := flowB_yes (sharedB_yes h).1
  have hpos : 0 < fs.length := by omega
  have gat : ∀ k, k < fs.length → goodF (gain (fs.getD k 0) (cs.getD k 0)) = true := fun k hk => by
    have f1 := flowB_at (sharedB_yes h).1 hk
    have c1 := sharedB_at h hk
    exact gain_good f1.1 f1.2 c1.1 c1.2
  have lat : ∀ k, k < fs.length → 1 < cs.getD k 0 → goodF (loss (fs.getD k 0) (cs.getD k 0)) = true := fun k hk hc => by
    have f1 := flowB_at (sharedB_yes h).1 hk
    have c1 := sharedB_at h hk
    exact loss_good f1.1 f1.2 hc c1.2
  cases hs : stableB fs cs
  · -- some loss is below another one's gain
    have : ∃ i, i < fs.length ∧ stableAt fs cs i = false := by
      simp only [stableB, List.all_eq_false, List.mem_range] at hs
      obtain ⟨i, hi, h2⟩ := hs
      exact ⟨i, hi, by simpa using h2⟩
    obtain ⟨i, hi, hst⟩ := this
    simp only [stableAt, Bool.or_eq_false_iff, List.all_eq_false, List.mem_range] at hst
    obtain ⟨hc1, k, hk, h2⟩ := hst
    simp only [Bool.or_eq_true, not_or, Bool.not_eq_true', Bool.not_eq_false, beq_iff_eq] at h2
    have hc : 1 < cs.getD i 0 := by
      have := sharedB_at h hi
      have : cs.getD i 0 ≠ 1 := by simpa using hc1
      omega
    have hm : loss (fs.getD i 0) (cs.getD i 0) ∈ losses fs cs fs.length := losses_mem.2 ⟨i, hi, hc, rfl⟩
    obtain ⟨j, hj, ej⟩ := List.getElem_of_mem hm
    have hne : ¬ (losses fs cs fs.length).length = 0 := by omega
    unfold calmB
    rw [if_neg hne]
    have hb := best_less (losses_good h) _ (Nat.le_refl _) j hj
    rw [Pf.getD_lt _ _ hj, ej] at hb
    have hbl := best_le less (losses fs cs fs.length) _ (show 0 < (losses fs cs fs.length).length by omega)
    have t1 := less_trans'' (losses_good h _ hbl) (lat i hi hc) (gat k hk) hb (by simpa using h2.2)
    have t2 := less_trans' (losses_good h _ hbl) (gat k hk) (gat _ (next_lt cs hpos)) t1 (next_best h hk)
    rw [t2]; rfl
  · unfold calmB
    split
    · rfl
    · rename_i hne
      have hbl := best_le less (losses fs cs fs.length) _ (show 0 < (losses fs cs fs.length).length by omega)
      obtain ⟨i, hi, hc, e⟩ := losses_mem.1 (getD_mem (losses fs cs fs.length) (0, 0) hbl)
      rw [e]
      have hn := next_lt (fs := fs) cs hpos
      by_cases hin : next fs cs = i
      · rw [hin]
        have := own_less (f := fs.getD i 0) (c := cs.getD i 0) (flowB_at (sharedB_yes h).1 hi).1 hc (sharedB_at h hi).2
        rw [this]; rfl
      · simp only [stableB, List.all_eq_true, List.mem_range] at hs
        have h1 := hs i hi
        simp only [stableAt, Bool.or_eq_true, List.all_eq_true, List.mem_range, beq_iff_eq] at h1
        rcases h1 with h1 | h1
        · omega
        · rcases h1 _ hn with h2 | h2
          · omega
          · exact h2
end Go.Proofs.Ytlbagigghpiifaa.Sh
