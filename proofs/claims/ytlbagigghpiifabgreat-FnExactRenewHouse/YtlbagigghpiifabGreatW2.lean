/-
  In one: Sa, C, E, G, Sb, Ha17, Hb17, Hc17, Hd17, F, J, Sc, He17, Hf17.
-/
import Derived.Test.YtlbagigghpiifabGreatW1
import Derived.Deep.QuietTactic
import Derived.BigQuiet
import Derived.Deep.RegionHeld3
import Derived.OwnWalk
import Derived.Laws.AppendOwn
import Derived.Shelf.Abstract
import Derived.Shelf.SlSortCmp.Insertion1
namespace Go.Proofs.YtlbagigghpiifabGreat.Sh

def flowB (fs : List Int) : Bool := Pf.inB fs.length 1 8 && Pf.allB fs 1 30
def kindsB (fs : List Int) (p : Int) : Bool := flowB fs && Pf.inB p fs.length 40
def sharedB (fs cs : List Int) : Bool := flowB fs && decide (cs.length = fs.length) && Pf.allB cs 1 40 && decide (cs.sum ≤ 40)
theorem flowB_yes {fs : List Int} (h : flowB fs = true) : 1 ≤ fs.length ∧ fs.length ≤ 8 ∧ Pf.allB fs 1 30 = true := by
  simp only [flowB, Bool.and_eq_true] at h
  have := Pf.inB_yes h.1
  exact ⟨by omega, by omega, h.2⟩
theorem flowB_at {fs : List Int} (h : flowB fs = true) {i : Nat} (hi : i < fs.length) : 1 ≤ fs.getD i 0 ∧ fs.getD i 0 ≤ 30 := Pf.inB_yes (Pf.allB_get (flowB_yes h).2.2 hi)
theorem kindsB_yes {fs : List Int} {p : Int} (h : kindsB fs p = true) : flowB fs = true ∧ (fs.length : Int) ≤ p ∧ p ≤ 40 := by
  simp only [kindsB, Bool.and_eq_true] at h
  exact ⟨h.1, Pf.inB_yes h.2⟩
theorem sharedB_yes {fs cs : List Int} (h : sharedB fs cs = true) : flowB fs = true ∧ cs.length = fs.length ∧ Pf.allB cs 1 40 = true ∧ cs.sum ≤ 40 := by
  simp only [sharedB, Bool.and_eq_true, decide_eq_true_eq] at h
  exact ⟨h.1.1.1, h.1.1.2, h.1.2, h.2⟩
theorem sharedB_of {fs cs : List Int} (h1 : flowB fs = true) (h2 : cs.length = fs.length) (h3 : Pf.allB cs 1 40 = true) (h4 : cs.sum ≤ 40) : sharedB fs cs = true := by
  simp [sharedB, h1, h2, h3, h4]
theorem sharedB_at {fs cs : List Int} (h : sharedB fs cs = true) {i : Nat} (hi : i < fs.length) : 1 ≤ cs.getD i 0 ∧ cs.getD i 0 ≤ 40 := Pf.inB_yes (Pf.allB_get (sharedB_yes h).2.2.1 (by rw [(sharedB_yes h).2.1]; exact hi))

def mk (n d : Int) : Int × Int := (Fr.mkN n d, Fr.mkD n d)
def goodF (p : Int × Int) : Bool := Fr.goodB p.1 p.2
def less (p q : Int × Int) : Bool := Fr.lessB p.1 p.2 q.1 q.2
def more (p q : Int × Int) : Bool := less q p
def cost (f c : Int) : Int × Int := mk f c
def gain (f c : Int) : Int × Int := mk f (c * (c + 1))
def loss (f c : Int) : Int × Int := mk f (c * (c - 1))
theorem mk_facts (n d : Int) (hd : 0 < d) : ∃ G, 0 < G ∧ n = G * (mk n d).1 ∧ d = G * (mk n d).2 ∧ Fr.g (mk n d).1 (mk n d).2 = 1 := by
  have hg := Fr.g_pos n d (by omega)
  obtain ⟨k, hk⟩ := Fr.g_dvdl n d
  obtain ⟨l, hl⟩ := Fr.g_dvdr n d
  have en : (mk n d).1 = k := by
    show Fr.mkN n d = k
    unfold Fr.mkN; rw [if_neg (by omega)]
    conv => lhs; lhs; rw [hk]
    exact Int.mul_tdiv_cancel_left k (by omega)
  have ed : (mk n d).2 = l := by
    show Fr.mkD n d = l
    unfold Fr.mkD; rw [if_neg (by omega)]
    conv => lhs; lhs; rw [hl]
    exact Int.mul_tdiv_cancel_left l (by omega)
  refine ⟨Fr.g n d, hg, by rw [en]; exact hk, by rw [ed]; exact hl, ?_⟩
  rw [en, ed]
  have h1 : Fr.g n d = Fr.g n d * Fr.g k l := by
    have e : Fr.g (Fr.g n d * k) (Fr.g n d * l) = Fr.g n d * Fr.g k l := by
      generalize Fr.g n d = G at *
      unfold Fr.g
      rw [Int.gcd_mul_left]
      have : (G.natAbs : Int) = G := by omega
      rw [Int.natCast_mul, this]
    rw [← hk, ← hl] at e
    exact e
  have h2 : Fr.g n d * Fr.g k l = Fr.g n d * 1 := by omega
  exact Int.eq_of_mul_eq_mul_left (by omega) h2
theorem mk_good {n d : Int} (hn0 : -1000000000 ≤ n) (hn1 : n ≤ 1000000000) (hd0 : 0 < d) (hd1 : d ≤ 1000000000) : goodF (mk n d) = true := by
  obtain ⟨G, hG, en, ed, hg⟩ := mk_facts n d hd0
  have a1 := Fr.mkN_abs n d
  have a2 := Fr.mkD_abs n d
  unfold goodF
  rw [Fr.goodB_iff]
  have hp : 0 < (mk n d).2 := by
    rcases Int.lt_or_le 0 (mk n d).2 with h | h
    · exact h
    · have : G * (mk n d).2 ≤ 0 := Int.mul_nonpos_of_nonneg_of_nonpos (by omega) h
      omega
  have e1 : (mk n d).1 = Fr.mkN n d := rfl
  have e2 : (mk n d).2 = Fr.mkD n d := rfl
  refine ⟨by omega, by omega, by omega, by omega, hg⟩
theorem mk_less {a b c d : Int} (hb : 0 < b) (hd : 0 < d) : less (mk a b) (mk c d) = decide (a * d < c * b) := by
  obtain ⟨G, hG, ea, eb, _⟩ := mk_facts a b hb
  obtain ⟨H, hH, ec, ed, _⟩ := mk_facts c d hd
  generalize mk a b = p at *
  generalize mk c d = q at *
  unfold less Fr.lessB
  have hGH : 0 < G * H := Int.mul_pos hG hH
  have e1 : a * d = G * H * (p.1 * q.2) := by rw [ea, ed]; ac_rfl
  have e2 : c * b = G * H * (q.1 * p.2) := by rw [ec, eb]; ac_rfl
  rw [e1, e2]
  congr 1
  exact propext ⟨fun h => Int.mul_lt_mul_of_pos_left h hGH, fun h => Int.lt_of_mul_lt_mul_left h (by omega)⟩
theorem good_pos {p : Int × Int} (h : goodF p = true) : 1 ≤ p.2 := (Fr.good_bd _ _ h).2.2.1
/-- Not less, then less or as great. -/
theorem less_trans' {p q r : Int × Int} (hp : goodF p = true) (hq : goodF q = true) (hr : goodF r = true) (h1 : less p q = true) (h2 : less r q = false) : less p r = true := by
  have dp := good_pos hp
  have dq := good_pos hq
  have dr := good_pos hr
  unfold less Fr.lessB at *
  simp only [decide_eq_true_eq, decide_eq_false_iff_not] at *
  have a1 : p.1 * q.2 * r.2 < q.1 * p.2 * r.2 := Int.mul_lt_mul_of_pos_right h1 (by omega)
  have a2 : q.1 * r.2 * p.2 ≤ r.1 * q.2 * p.2 := Int.mul_le_mul_of_nonneg_right (by omega) (by omega)
  have e1 : p.1 * q.2 * r.2 = q.2 * (p.1 * r.2) := by ac_rfl
  have e2 : q.1 * p.2 * r.2 = q.1 * r.2 * p.2 := by ac_rfl
  have e3 : r.1 * q.2 * p.2 = q.2 * (r.1 * p.2) := by ac_rfl
  exact Int.lt_of_mul_lt_mul_left (a := q.2) (by omega) (by omega)
theorem less_trans'' {p q r : Int × Int} (hp : goodF p = true) (hq : goodF q = true) (hr : goodF r = true) (h1 : less q p = false) (h2 : less q r = true) : less p r = true := by
  have dp := good_pos hp
  have dq := good_pos hq
  have dr := good_pos hr
  unfold less Fr.lessB at *
  simp only [decide_eq_true_eq, decide_eq_false_iff_not] at *
  have a1 : p.1 * q.2 * r.2 ≤ q.1 * p.2 * r.2 := Int.mul_le_mul_of_nonneg_right (by omega) (by omega)
  have a2 : q.1 * r.2 * p.2 < r.1 * q.2 * p.2 := Int.mul_lt_mul_of_pos_right h2 (by omega)
  have e1 : p.1 * q.2 * r.2 = q.2 * (p.1 * r.2) := by ac_rfl
  have e2 : q.1 * p.2 * r.2 = q.1 * r.2 * p.2 := by ac_rfl
  have e3 : r.1 * q.2 * p.2 = q.2 * (r.1 * p.2) := by ac_rfl
  exact Int.lt_of_mul_lt_mul_left (a := q.2) (by omega) (by omega)
theorem less_irr (p : Int × Int) : less p p = false := by unfold less Fr.lessB; simp
theorem less_asymm {p q : Int × Int} (h : less p q = true) : less q p = false := by
  unfold less Fr.lessB at *; simp only [decide_eq_true_eq, decide_eq_false_iff_not] at *; omega

/-- The number of the first best one of the first k, as r tells which is better. -/
def best (r : Int × Int → Int × Int → Bool) (xs : List (Int × Int)) : Nat → Nat
  | 0 => 0
  | k + 1 => if r (xs.getD k (0, 0)) (xs.getD (best r xs k) (0, 0)) = true then k else best r xs k
theorem best_lt (r : Int × Int → Int × Int → Bool) (xs : List (Int × Int)) : ∀ k, best r xs (k + 1) < k + 1
  | 0 => by unfold best; split <;> simp [best]
  | k + 1 => by
    have := best_lt r xs k
    rw [best]; split <;> omega
theorem best_le (r : Int × Int → Int × Int → Bool) (xs : List (Int × Int)) (k : Nat) (h : 0 < k) : best r xs k < k := by
  obtain ⟨m, rfl⟩ : ∃ m, k = m + 1 := ⟨k - 1, by omega⟩
  exact best_lt r xs m
theorem best_step_yes {r : Int × Int → Int × Int → Bool} {xs : List (Int × Int)} {k : Nat} (h : r (xs.getD k (0, 0)) (xs.getD (best r xs k) (0, 0)) = true) : best r xs (k + 1) = k := by
  rw [best, if_pos h]
theorem best_step_no {r : Int × Int → Int × Int → Bool} {xs : List (Int × Int)} {k : Nat} (h : r (xs.getD k (0, 0)) (xs.getD (best r xs k) (0, 0)) = false) : best r xs (k + 1) = best r xs k := by
  rw [best, if_neg (by rw [h]; simp)]
/-- No one of the first k is more than the best. -/
theorem best_more {xs : List (Int × Int)} (hg : ∀ i, i < xs.length → goodF (xs.getD i (0, 0)) = true) : ∀ k, k ≤ xs.length → ∀ i, i < k → less (xs.getD (best more xs k) (0, 0)) (xs.getD i (0, 0)) = false
  | 0, _, i, hi => by omega
  | k + 1, hk, i, hi => by
    have ih := best_more hg k (by omega)
    cases h : more (xs.getD k (0, 0)) (xs.getD (best more xs k) (0, 0))
    · rw [best_step_no h]
      by_cases e : i = k
      · subst e; exact h
      · exact ih i (by omega)
    · rw [best_step_yes h]
      by_cases e : i = k
      · subst e; exact less_irr _
      · have hik := ih i (by omega)
        cases hh : less (xs.getD k (0, 0)) (xs.getD i (0, 0))
        · rfl
        · have hb : best more xs k < k := best_le _ _ _ (by omega)
          have h' : less (xs.getD (best more xs k) (0, 0)) (xs.getD k (0, 0)) = true := h
          have := less_trans' (hg _ (by omega)) (hg k (by omega)) (hg i (by omega)) h' (less_asymm hh)
          rw [this] at hik; cases hik
theorem best_less {xs : List (Int × Int)} (hg : ∀ i, i < xs.length → goodF (xs.getD i (0, 0)) = true) : ∀ k, k ≤ xs.length → ∀ i, i < k → less (xs.getD i (0, 0)) (xs.getD (best less xs k) (0, 0)) = false
  | 0, _, i, hi => by omega
  | k + 1, hk, i, hi => by
    have ih := best_less hg k (by omega)
    cases h : less (xs.getD k (0, 0)) (xs.getD (best less xs k) (0, 0))
    · rw [best_step_no h]
      by_cases e : i = k
      · subst e; exact h
      · exact ih i (by omega)
    · rw [best_step_yes h]
      by_cases e : i = k
      · subst e; exact less_irr _
      · have hik := ih i (by omega)
        cases hh : less (xs.getD i (0, 0)) (xs.getD k (0, 0))
        · rfl
        · have hb : best less xs k < k := best_le _ _ _ (by omega)
          have := less_trans' (hg i (by omega)) (hg k (by omega)) (hg _ (by omega)) hh (less_asymm h)
          rw [this] at hik; cases hik

/-- What f tells of each kind. -/
def each (f : Int → Int → Int × Int) (fs cs : List Int) : List (Int × Int) := (List.range fs.length).map fun i => f (fs.getD i 0) (cs.getD i 0)
theorem each_len (f : Int → Int → Int × Int) (fs cs : List Int) : (each f fs cs).length = fs.length := by simp [each]
theorem each_at (f : Int → Int → Int × Int) (fs cs : List Int) {i : Nat} (hi : i < fs.length) : (each f fs cs).getD i (0, 0) = f (fs.getD i 0) (cs.getD i 0) := by
  simp [each, hi]
def next (fs cs : List Int) : Nat := best more (each gain fs cs) fs.length
theorem next_lt {fs : List Int} (cs : List Int) (h : 0 < fs.length) : next fs cs < fs.length := best_le _ _ _ h
theorem mul_bds {c d : Int} (h0 : 1 ≤ c) (h1 : c ≤ 40) (k0 : 0 < d) (k1 : d ≤ 41) : 0 < c * d ∧ c * d ≤ 1640 := by
  have a : 0 < c * d := Int.mul_pos (by omega) k0
  have b : c * d ≤ 40 * 41 := Int.mul_le_mul h1 k1 (by omega) (by omega)
  exact ⟨a, by omega⟩
theorem gain_den {c : Int} (h0 : 1 ≤ c) (h1 : c ≤ 40) : 0 < c * (c + 1) ∧ c * (c + 1) ≤ 1640 := mul_bds h0 h1 (by omega) (by omega)
theorem loss_den {c : Int} (h0 : 1 < c) (h1 : c ≤ 40) : 0 < c * (c - 1) ∧ c * (c - 1) ≤ 1640 := mul_bds (by omega) h1 (by omega) (by omega)
theorem gain_good {f c : Int} (f0 : 1 ≤ f) (f1 : f ≤ 30) (h0 : 1 ≤ c) (h1 : c ≤ 40) : goodF (gain f c) = true := by
  have := gain_den h0 h1
  exact mk_good (by omega) (by omega) this.1 (by omega)
theorem loss_good {f c : Int} (f0 : 1 ≤ f) (f1 : f ≤ 30) (h0 : 1 < c) (h1 : c ≤ 40) : goodF (loss f c) = true := by
  have := loss_den h0 h1
  exact mk_good (by omega) (by omega) this.1 (by omega)
theorem cost_good {f c : Int} (f0 : 1 ≤ f) (f1 : f ≤ 30) (h0 : 1 ≤ c) (h1 : c ≤ 40) : goodF (cost f c) = true := mk_good (by omega) (by omega) (by omega) (by omega)
/-- A kind's own gain is below its own loss. -/
theorem own_less {f c : Int} (f0 : 1 ≤ f) (h0 : 1 < c) (h1 : c ≤ 40) : less (loss f c) (gain f c) = false := by
  have a := gain_den (c := c) (by omega) h1
  have b := loss_den h0 h1
  unfold loss gain
  rw [mk_less b.1 a.1]
  simp only [decide_eq_false_iff_not, Int.not_lt]
  refine Int.mul_le_mul_of_nonneg_left ?_ (by omega)
  exact Int.mul_le_mul_of_nonneg_left (by omega) (by omega)

/-- The counts, from one each on. -/
def share (fs : List Int) : Nat → List Int
  | 0 => List.replicate fs.length 1
  | n + 1 => (share fs n).set (next fs (share fs n)) ((share fs n).getD (next fs (share fs n)) 0 + 1)
theorem share_len (fs : List Int) : ∀ n, (share fs n).length = fs.length
  | 0 => by simp [share]
  | n + 1 => by rw [share]; simp [share_len fs n]
theorem set_sum : ∀ (cs : List Int) (i : Nat) (x : Int), i < cs.length → (cs.set i x).sum = cs.sum - cs.getD i 0 + x
  | [], _, _, h => by simp at h
  | c :: r, 0, x, _ => by simp; omega
  | c :: r, i + 1, x, h => by
    have ih := set_sum r i x (by simpa using h)
    simp only [List.set_cons_succ, List.sum_cons, List.getD_cons_succ]
    omega
theorem share_sum {fs : List Int} (h : 0 < fs.length) : ∀ n, (share fs n).sum = fs.length + n
  | 0 => by simp [share]
  | n + 1 => by
    rw [share, set_sum _ _ _ (by rw [share_len]; exact next_lt _ h), share_sum h n]
    omega
theorem set_get (cs : List Int) (i j : Nat) (x : Int) (hi : i < cs.length) : (cs.set i x).getD j 0 = if j = i then x else cs.getD j 0 := by
  by_cases e : j = i
  · subst e; simp [hi]
  · rw [if_neg e]
    simp only [List.getD_eq_getElem?_getD]
    rw [List.getElem?_set_ne (by omega)]
theorem share_ge {fs : List Int} (h : 0 < fs.length) : ∀ n i, i < fs.length → 1 ≤ (share fs n).getD i 0
  | 0, i, hi => by simp [share, hi]
  | n + 1, i, hi => by
    have ih := share_ge h n
    rw [share, set_get _ _ _ _ (by rw [share_len]; exact next_lt _ h)]
    split
    · have := ih _ (next_lt (share fs n) h); omega
    · exact ih i hi
theorem le_sum {cs : List Int} (h : ∀ i, i < cs.length → 1 ≤ cs.getD i 0) : (cs.length : Int) ≤ cs.sum := by
  induction cs with
  | nil => simp
  | cons c r ih =>
    have h0 := h 0 (by simp)
    have ih' := ih fun i hi => by simpa using h (i + 1) (by simpa using hi)
    simp at h0
    simp only [List.length_cons, List.sum_cons]
    omega
theorem at_le_sum : ∀ {cs : List Int}, (∀ i, i < cs.length → 1 ≤ cs.getD i 0) → ∀ i, i < cs.length → cs.getD i 0 + (cs.length - 1 : Int) ≤ cs.sum
  | [], _, i, hi => by simp at hi
  | c :: r, h, 0, _ => by
    have := le_sum (cs := r) fun i hi => by simpa using h (i + 1) (by simpa using hi)
    simp only [List.getD_cons_zero, List.length_cons, List.sum_cons]
    omega
  | c :: r, h, i + 1, hi => by
    have h0 := h 0 (by simp)
    simp at h0
    have := at_le_sum (cs := r) (fun i hi => by simpa using h (i + 1) (by simpa using hi)) i (by simpa using hi)
    simp only [List.getD_cons_succ, List.length_cons, List.sum_cons]
    omega
theorem share_shared {fs : List Int} (h : flowB fs = true) (n : Nat) (hn : fs.length + n ≤ 40) : sharedB fs (share fs n) = true := by
  have hf := flowB_yes h
  have hs := share_sum (fs := fs) (by omega) n
  refine sharedB_of h (share_len fs n) (Pf.allB_of fun i hi => ?_) (by rw [hs]; omega)
  rw [share_len] at hi
  have h1 := share_ge (fs := fs) (by omega) n
  have h2 := at_le_sum (cs := share fs n) (fun i hi => h1 i (by rwa [share_len] at hi)) i (by rwa [share_len])
  rw [hs, share_len] at h2
  exact Pf.inB_of (h1 i hi) (by omega)

/-- What the model asks: no kind with more than one has a loss below another one's gain. -/
def stableAt (fs cs : List Int) (i : Nat) : Bool := cs.getD i 0 == 1 || (List.range fs.length).all fun k => k == i || !less (loss (fs.getD i 0) (cs.getD i 0)) (gain (fs.getD k 0) (cs.getD k 0))
def stableB (fs cs : List Int) : Bool := (List.range fs.length).all fun i => stableAt fs cs i
/-- The losses of the first k kinds that have more than one. -/
def losses (fs cs : List Int) : Nat → List (Int × Int)
  | 0 => []
  | k + 1 => if 1 < cs.getD k 0 then losses fs cs k ++ [loss (fs.getD k 0) (cs.getD k 0)] else losses fs cs k
theorem losses_len (fs cs : List Int) : ∀ k, (losses fs cs k).length ≤ k
  | 0 => by simp [losses]
  | k + 1 => by
    have := losses_len fs cs k
    rw [losses]; split <;> simp <;> omega
theorem losses_mem {fs cs : List Int} {p : Int × Int} : ∀ {k}, p ∈ losses fs cs k ↔ ∃ i, i < k ∧ 1 < cs.getD i 0 ∧ p = loss (fs.getD i 0) (cs.getD i 0)
  | 0 => by simp [losses]
  | k + 1 => by
    rw [losses]
    constructor
    · intro h
      split at h
      · rename_i hc
        rcases List.mem_append.1 h with h | h
        · obtain ⟨i, hi, h1, h2⟩ := losses_mem.1 h; exact ⟨i, by omega, h1, h2⟩
        · exact ⟨k, by omega, hc, by simpa using h⟩
      · obtain ⟨i, hi, h1, h2⟩ := losses_mem.1 h; exact ⟨i, by omega, h1, h2⟩
    · rintro ⟨i, hi, h1, h2⟩
      by_cases e : i = k
      · subst e; rw [if_pos h1]; subst h2; simp
      · have := losses_mem.2 ⟨i, show i < k by omega, h1, h2⟩
        split
        · exact List.mem_append_left _ this
        · exact this
/-- What the program asks: the least loss against the greatest gain. -/
def calmB (fs cs : List Int) : Bool :=
  if (losses fs cs fs.length).length = 0 then true else
    !less ((losses fs cs fs.length).getD (best less (losses fs cs fs.length) (losses fs cs fs.length).length) (0, 0)) (gain (fs.getD (next fs cs) 0) (cs.getD (next fs cs) 0))
theorem getD_mem {α : Type} (xs : List α) (d : α) {i : Nat} (h : i < xs.length) : xs.getD i d ∈ xs := by rw [Pf.getD_lt _ _ h]; exact List.getElem_mem h
theorem losses_good {fs cs : List Int} (h : sharedB fs cs = true) : ∀ i, i < (losses fs cs fs.length).length → goodF ((losses fs cs fs.length).getD i (0, 0)) = true := fun i hi => by
  obtain ⟨j, hj, hc, e⟩ := losses_mem.1 (getD_mem _ (0, 0) hi)
  have f1 := flowB_at (sharedB_yes h).1 hj
  have c1 := sharedB_at h hj
  rw [e]; exact loss_good f1.1 f1.2 hc c1.2
theorem gains_good {fs cs : List Int} (h : sharedB fs cs = true) : ∀ i, i < (each gain fs cs).length → goodF ((each gain fs cs).getD i (0, 0)) = true := fun i hi => by
  rw [each_len] at hi
  have f1 := flowB_at (sharedB_yes h).1 hi
  have c1 := sharedB_at h hi
  rw [each_at _ _ _ hi]; exact gain_good f1.1 f1.2 c1.1 c1.2
theorem next_best {fs cs : List Int} (h : sharedB fs cs = true) {k : Nat} (hk : k < fs.length) : less (gain (fs.getD (next fs cs) 0) (cs.getD (next fs cs) 0)) (gain (fs.getD k 0) (cs.getD k 0)) = false := by
  have := best_more (gains_good h) fs.length (by rw [each_len]; exact Nat.le_refl _) k hk
  rw [each_at _ _ _ hk] at this
  rw [show best more (each gain fs cs) fs.length = next fs cs from rfl, each_at _ _ _ (next_lt cs (by omega))] at this
  exact this
theorem calm_eq {fs cs : List Int} (h : sharedB fs cs = true) : calmB fs cs = stableB fs cs := by
  have hf := flowB_yes (sharedB_yes h).1
  have hpos : 0 < fs.length := by omega
  have gat : ∀ k, k < fs.length → goodF (gain (fs.getD k 0) (cs.getD k 0)) = true := fun k hk => by
    have f1 := flowB_at (sharedB_yes h).1 hk
    have c1 := sharedB_at h hk
    exact gain_good f1.1 f1.2 c1.1 c1.2
  have lat : ∀ k, k < fs.length → 1 < cs.getD k 0 → goodF (loss (fs.getD k 0) (cs.getD k 0)) = true := fun k hk hc => by
    have f1 := flowB_at (sharedB_yes h).1 hk
    have c1 := sharedB_at h hk
    exact loss_good f1.1 f1.2 hc c1.2
  cases hs : stableB fs cs
  · -- some loss is below another one's gain
    have : ∃ i, i < fs.length ∧ stableAt fs cs i = false := by
      simp only [stableB, List.all_eq_false, List.mem_range] at hs
      obtain ⟨i, hi, h2⟩ := hs
      exact ⟨i, hi, by simpa using h2⟩
    obtain ⟨i, hi, hst⟩ := this
    simp only [stableAt, Bool.or_eq_false_iff, List.all_eq_false, List.mem_range] at hst
    obtain ⟨hc1, k, hk, h2⟩ := hst
    simp only [Bool.or_eq_true, not_or, Bool.not_eq_true', Bool.not_eq_false, beq_iff_eq] at h2
    have hc : 1 < cs.getD i 0 := by
      have := sharedB_at h hi
      have : cs.getD i 0 ≠ 1 := by simpa using hc1
      omega
    have hm : loss (fs.getD i 0) (cs.getD i 0) ∈ losses fs cs fs.length := losses_mem.2 ⟨i, hi, hc, rfl⟩
    obtain ⟨j, hj, ej⟩ := List.getElem_of_mem hm
    have hne : ¬ (losses fs cs fs.length).length = 0 := by omega
    unfold calmB
    rw [if_neg hne]
    have hb := best_less (losses_good h) _ (Nat.le_refl _) j hj
    rw [Pf.getD_lt _ _ hj, ej] at hb
    have hbl := best_le less (losses fs cs fs.length) _ (show 0 < (losses fs cs fs.length).length by omega)
    have t1 := less_trans'' (losses_good h _ hbl) (lat i hi hc) (gat k hk) hb (by simpa using h2.2)
    have t2 := less_trans' (losses_good h _ hbl) (gat k hk) (gat _ (next_lt cs hpos)) t1 (next_best h hk)
    rw [t2]; rfl
  · unfold calmB
    split
    · rfl
    · rename_i hne
      have hbl := best_le less (losses fs cs fs.length) _ (show 0 < (losses fs cs fs.length).length by omega)
      obtain ⟨i, hi, hc, e⟩ := losses_mem.1 (getD_mem (losses fs cs fs.length) (0, 0) hbl)
      rw [e]
      have hn := next_lt (fs := fs) cs hpos
      by_cases hin : next fs cs = i
      · rw [hin]
        have := own_less (f := fs.getD i 0) (c := cs.getD i 0) (flowB_at (sharedB_yes h).1 hi).1 hc (sharedB_at h hi).2
        rw [this]; rfl
      · simp only [stableB, List.all_eq_true, List.mem_range] at hs
        have h1 := hs i hi
        simp only [stableAt, Bool.or_eq_true, List.all_eq_true, List.mem_range, beq_iff_eq] at h1
        rcases h1 with h1 | h1
        · omega
        · rcases h1 _ hn with h2 | h2
          · omega
          · exact h2
end Go.Proofs.YtlbagigghpiifabGreat.Sh
namespace Go.Proofs.YtlbagigghpiifabGreat
open Go.RowKit

theorem lt3 {a b : Nat} (h : a + 1 + 1 < b) : a < b ∧ a + 1 < b := ⟨by omega, by omega⟩
theorem fracs_no (P : Program) (f : FuncId) (args : Array Value) (w : World) (a b : Int) (c : Bool) (ha : a = 0) (hb : b = 0) (hc : c = false)
    (h : Calls P f args w fun e w' => e = .returned (.tuple #[.agg #[.int .i64 0, .int .i64 0], .bool false]) ∧ Below w.heap.size w w') :
    Calls P f args w fun e w' => e = .returned (.tuple #[.agg #[.int .i64 a, .int .i64 b], .bool c]) ∧ Below w.heap.size w w' := by
  subst ha; subst hb; subst hc; exact h

set_option maxHeartbeats 400000 in
theorem add_no1 (n1 d1 n2 d2 : Int) (w : World) (h1 : Fr.goodB n1 d1 = false) :
    Calls Tryz.prog 84 #[.agg #[.int .i64 n1, .int .i64 d1], .agg #[.int .i64 n2, .int .i64 d2]] w fun e w' => e = .returned (.tuple #[.agg #[.int .i64 0, .int .i64 0], .bool false]) ∧ Below w.heap.size w w' := by
  go_enter Tryz.func84, Tryz.ntmps84
  go_wp2_with fail
  refine (good_no h1).mono ?_
  rintro e w1 ⟨rfl, hb1⟩
  obtain ⟨hc1, hf1⟩ := bcell hb1
  have hz1 : w.heap.size + 1 + 1 < w1.heap.size := by have := hb1.size; simp at this; omega
  obtain ⟨hx1, hy1⟩ := lt3 hz1
  go_wp2_with fail
  exact bodyPost_ret (v := .tuple #[.agg #[.int .i64 0, .int .i64 0], .bool false]) (by simp [results, Tryz.results84, go_sem, hc1]) rfl ⟨rfl, ((((((Below.refl _ _).alloc (Nat.le_refl _) _).alloc (by simp) _).alloc (by simp; omega) _).trans (hb1.mono (by simp; omega))).setCell (by simp; omega) _).setCell (by simp; omega) _⟩

set_option maxHeartbeats 400000 in
theorem add_no2 (n1 d1 n2 d2 : Int) (w : World) (h1 : Fr.goodB n1 d1 = true) (h2 : Fr.goodB n2 d2 = false) :
    Calls Tryz.prog 84 #[.agg #[.int .i64 n1, .int .i64 d1], .agg #[.int .i64 n2, .int .i64 d2]] w fun e w' => e = .returned (.tuple #[.agg #[.int .i64 0, .int .i64 0], .bool false]) ∧ Below w.heap.size w w' := by
  go_enter Tryz.func84, Tryz.ntmps84
  go_wp2_with fail
  refine (good_yes h1).mono ?_
  rintro e w1 ⟨rfl, hb1⟩
  obtain ⟨hc1, hf1⟩ := bcell hb1
  have hz1 : w.heap.size + 1 + 1 < w1.heap.size := by have := hb1.size; simp at this; omega
  obtain ⟨hx1, hy1⟩ := lt3 hz1
  go_wp2_with fail
  refine (good_no h2).mono ?_
  rintro e w2 ⟨rfl, hb2⟩
  obtain ⟨hc2, hf2⟩ := bcell hb2
  have hz2 : w.heap.size + 1 + 1 < w2.heap.size := by have := hb2.size; omega
  obtain ⟨hx2, hy2⟩ := lt3 hz2
  go_wp2_with fail
  exact bodyPost_ret (v := .tuple #[.agg #[.int .i64 0, .int .i64 0], .bool false]) (by simp [results, Tryz.results84, go_sem, hc1, hc2, hz1]) rfl ⟨rfl, (((((((Below.refl _ _).alloc (Nat.le_refl _) _).alloc (by simp) _).alloc (by simp; omega) _).trans (hb1.mono (by simp; omega))).trans (hb2.mono (by omega))).setCell (by simp; omega) _).setCell (by simp; omega) _⟩

set_option maxHeartbeats 800000 in
theorem add_yes (n1 d1 n2 d2 : Int) (w : World) (h1 : Fr.goodB n1 d1 = true) (h2 : Fr.goodB n2 d2 = true) :
    Calls Tryz.prog 84 #[.agg #[.int .i64 n1, .int .i64 d1], .agg #[.int .i64 n2, .int .i64 d2]] w fun e w' => e = .returned (.tuple #[.agg #[.int .i64 (Fr.fitN (Fr.mkN (n1 * d2 + n2 * d1) (d1 * d2)) (Fr.mkD (n1 * d2 + n2 * d1) (d1 * d2))), .int .i64 (Fr.fitD (Fr.mkN (n1 * d2 + n2 * d1) (d1 * d2)) (Fr.mkD (n1 * d2 + n2 * d1) (d1 * d2)))], .bool (Fr.goodB (Fr.mkN (n1 * d2 + n2 * d1) (d1 * d2)) (Fr.mkD (n1 * d2 + n2 * d1) (d1 * d2)))]) ∧ Below w.heap.size w w' := by
  obtain ⟨a0, a1, a2, a3⟩ := Fr.good_bd n1 d1 h1
  obtain ⟨b0, b1, b2, b3⟩ := Fr.good_bd n2 d2 h2
  have m1 := wrap_mul n1 d2 (by omega) (by omega) (by omega) (by omega)
  have m2 := wrap_mul n2 d1 (by omega) (by omega) (by omega) (by omega)
  have m3 := wrap_mul d1 d2 (by omega) (by omega) (by omega) (by omega)
  have k1 := Fr.mul_bd n1 d2 (by omega) (by omega) (by omega) (by omega)
  have k2 := Fr.mul_bd n2 d1 (by omega) (by omega) (by omega) (by omega)
  have k3 := Fr.mul_bd d1 d2 (by omega) (by omega) (by omega) (by omega)
  have k4 := Fr.den_pos d1 d2 (by omega) (by omega)
  have m4 : wrap64 (n1 * d2 + n2 * d1) = n1 * d2 + n2 * d1 := wrap_id _ (by omega) (by omega)
  obtain ⟨k10, k11⟩ := k1
  obtain ⟨k20, k21⟩ := k2
  obtain ⟨k30, k31⟩ := k3
  have H1 := hide h1
  have H2 := hide h2
  clear h1 h2
  go_enter Tryz.func84, Tryz.ntmps84
  go_wp2_with fail
  refine (good_yes H1.out).mono ?_
  rintro e w1 ⟨rfl, hb1⟩
  obtain ⟨hc1, hf1⟩ := bcell hb1
  have hz1 : w.heap.size + 1 + 1 < w1.heap.size := by have := hb1.size; simp at this; omega
  obtain ⟨hx1, hy1⟩ := lt3 hz1
  go_wp2_with fail
  refine (good_yes H2.out).mono ?_
  rintro e w2 ⟨rfl, hb2⟩
  obtain ⟨hc2, hf2⟩ := bcell hb2
  have hz2 : w.heap.size + 1 + 1 < w2.heap.size := by have := hb2.size; omega
  obtain ⟨hx2, hy2⟩ := lt3 hz2
  go_wp2_with fail
  refine (lowest_any (n1 * d2 + n2 * d1) (d1 * d2) _ (by omega) (by omega) (by omega) (by omega) (by omega)).mono ?_
  rintro e w3 ⟨rfl, hb3⟩
  obtain ⟨hc3, hf3⟩ := bcell hb3
  have hz3 : w.heap.size + 1 + 1 < w3.heap.size := by have := hb3.size; omega
  obtain ⟨hx3, hy3⟩ := lt3 hz3
  go_wp2_with fail
  refine (only_any (Fr.mkN (n1 * d2 + n2 * d1) (d1 * d2)) (Fr.mkD (n1 * d2 + n2 * d1) (d1 * d2)) _).mono ?_
  rintro e w4 ⟨rfl, hb4⟩
  obtain ⟨hc4, hf4⟩ := bcell hb4
  have hz4 : w.heap.size + 1 + 1 < w4.heap.size := by have := hb4.size; omega
  obtain ⟨hx4, hy4⟩ := lt3 hz4
  go_wp2_with fail
  exact bodyPost_ret (v := .tuple #[.agg #[.int .i64 (Fr.fitN (Fr.mkN (n1 * d2 + n2 * d1) (d1 * d2)) (Fr.mkD (n1 * d2 + n2 * d1) (d1 * d2))), .int .i64 (Fr.fitD (Fr.mkN (n1 * d2 + n2 * d1) (d1 * d2)) (Fr.mkD (n1 * d2 + n2 * d1) (d1 * d2)))], .bool (Fr.goodB (Fr.mkN (n1 * d2 + n2 * d1) (d1 * d2)) (Fr.mkD (n1 * d2 + n2 * d1) (d1 * d2)))]) (by simp [results, Tryz.results84, go_sem, hc1, hc2, hc3, hc4, hz1, hz2, hz3]) rfl ⟨rfl, (((((((((Below.refl _ _).alloc (Nat.le_refl _) _).alloc (by simp) _).alloc (by simp; omega) _).trans (hb1.mono (by simp; omega))).trans (hb2.mono (by omega))).trans (hb3.mono (by omega))).trans (hb4.mono (by omega))).setCell (by simp; omega) _).setCell (by simp; omega) _⟩


end Go.Proofs.YtlbagigghpiifabGreat
namespace Go.Proofs.YtlbagigghpiifabGreat
open Go.RowKit

set_option maxHeartbeats 400000 in
theorem fits_yes (n d : Int) (w : World) (h : Fr.goodB n d = true) :
    Calls Tryz.prog 95 #[.agg #[.int .i64 n, .int .i64 d]] w fun e w' => e = .returned (.tuple #[.agg #[.int .i64 n, .int .i64 d], .bool true]) ∧ Below w.heap.size w w' := by
  go_enter Tryz.func95, Tryz.ntmps95
  go_wp2_with (go_at_call 111; refine (sgood_yes h).mono ?_; rintro e w1 ⟨rfl, hb⟩; obtain ⟨hc, hf⟩ := bcell hb; have hz : w.heap.size + 1 < w1.heap.size := by have := hb.size; simp at this; omega)
  exact bodyPost_ret (v := .tuple #[.agg #[.int .i64 n, .int .i64 d], .bool true]) (by simp [results, Tryz.results95, go_sem, hc]) rfl ⟨rfl, (((((Below.refl _ _).alloc (Nat.le_refl _) _).alloc (by simp) _).trans (hb.mono (by simp; omega))).setCell (by simp) _).setCell (by simp) _⟩

set_option maxHeartbeats 400000 in
theorem fits_no (n d : Int) (w : World) (h : Fr.goodB n d = false) :
    Calls Tryz.prog 95 #[.agg #[.int .i64 n, .int .i64 d]] w fun e w' => e = .returned (.tuple #[.agg #[.int .i64 0, .int .i64 0], .bool false]) ∧ Below w.heap.size w w' := by
  go_enter Tryz.func95, Tryz.ntmps95
  go_wp2_with (go_at_call 111; refine (sgood_no h).mono ?_; rintro e w1 ⟨rfl, hb⟩; obtain ⟨hc, hf⟩ := bcell hb; have hz : w.heap.size + 1 < w1.heap.size := by have := hb.size; simp at this; omega)
  exact bodyPost_ret (v := .tuple #[.agg #[.int .i64 0, .int .i64 0], .bool false]) (by simp [results, Tryz.results95, go_sem, hc]) rfl ⟨rfl, (((((Below.refl _ _).alloc (Nat.le_refl _) _).alloc (by simp) _).trans (hb.mono (by simp; omega))).setCell (by simp) _).setCell (by simp) _⟩

theorem fits_any (n d : Int) (w : World) :
    Calls Tryz.prog 95 #[.agg #[.int .i64 n, .int .i64 d]] w fun e w' => e = .returned (.tuple #[.agg #[.int .i64 (Fr.fitN n d), .int .i64 (Fr.fitD n d)], .bool (Fr.goodB n d)]) ∧ Below w.heap.size w w' := by
  unfold Fr.fitN Fr.fitD
  cases h : Fr.goodB n d
  · simpa using fits_no n d w h
  · simpa using fits_yes n d w h

set_option maxHeartbeats 400000 in
theorem both_n1 (n1 d1 n2 d2 : Int) (w : World) (h1 : Fr.goodB n1 d1 = false) :
    Calls Tryz.prog 94 #[.agg #[.int .i64 n1, .int .i64 d1], .agg #[.int .i64 n2, .int .i64 d2]] w fun e w' => e = .returned (.bool false) ∧ Below w.heap.size w w' := by
  go_enter Tryz.func94, Tryz.ntmps94
  go_wp2_with fail
  refine (sgood_no h1).mono ?_
  rintro e w1 ⟨rfl, hb1⟩
  go_wp2_with fail
  go_ret
  exact ⟨rfl, (((Below.refl _ _).alloc (Nat.le_refl _) _).alloc (by simp) _).trans (hb1.mono (by simp; omega))⟩

set_option maxHeartbeats 400000 in
theorem both_n2 (n1 d1 n2 d2 : Int) (w : World) (h1 : Fr.goodB n1 d1 = true) :
    Calls Tryz.prog 94 #[.agg #[.int .i64 n1, .int .i64 d1], .agg #[.int .i64 n2, .int .i64 d2]] w fun e w' => e = .returned (.bool (Fr.goodB n2 d2)) ∧ Below w.heap.size w w' := by
  go_enter Tryz.func94, Tryz.ntmps94
  go_wp2_with fail
  refine (sgood_yes h1).mono ?_
  rintro e w1 ⟨rfl, hb1⟩
  obtain ⟨hc1, hf1⟩ := bcell hb1
  have hz1 : w.heap.size + 1 < w1.heap.size := by have := hb1.size; simp at this; omega
  go_wp2_with fail
  refine (sgood_any n2 d2 _).mono ?_
  rintro e w2 ⟨rfl, hb2⟩
  go_wp2_with fail
  go_ret
  exact ⟨rfl, ((((Below.refl _ _).alloc (Nat.le_refl _) _).alloc (by simp) _).trans (hb1.mono (by simp; omega))).trans (hb2.mono (by omega))⟩

theorem both_any (n1 d1 n2 d2 : Int) (w : World) :
    Calls Tryz.prog 94 #[.agg #[.int .i64 n1, .int .i64 d1], .agg #[.int .i64 n2, .int .i64 d2]] w fun e w' => e = .returned (.bool (Fr.goodB n1 d1 && Fr.goodB n2 d2)) ∧ Below w.heap.size w w' := by
  cases h : Fr.goodB n1 d1
  · simpa using both_n1 n1 d1 n2 d2 w h
  · simpa using both_n2 n1 d1 n2 d2 w h
theorem both_yes {n1 d1 n2 d2 : Int} {w : World} (h1 : Fr.goodB n1 d1 = true) (h2 : Fr.goodB n2 d2 = true) :
    Calls Tryz.prog 94 #[.agg #[.int .i64 n1, .int .i64 d1], .agg #[.int .i64 n2, .int .i64 d2]] w fun e w' => e = .returned (.bool true) ∧ Below w.heap.size w w' := by have := both_any n1 d1 n2 d2 w; rwa [h1, h2] at this
theorem both_no {n1 d1 n2 d2 : Int} {w : World} (h : (Fr.goodB n1 d1 && Fr.goodB n2 d2) = false) :
    Calls Tryz.prog 94 #[.agg #[.int .i64 n1, .int .i64 d1], .agg #[.int .i64 n2, .int .i64 d2]] w fun e w' => e = .returned (.bool false) ∧ Below w.heap.size w w' := by have := both_any n1 d1 n2 d2 w; rwa [h] at this

set_option maxHeartbeats 800000 in
theorem sadd_any (n1 d1 n2 d2 : Int) (w : World) (a0 : -1000000000 ≤ n1) (a1 : n1 ≤ 1000000000) (a2 : 1 ≤ d1) (a3 : d1 ≤ 1000000000) (b0 : -1000000000 ≤ n2) (b1 : n2 ≤ 1000000000) (b2 : 1 ≤ d2) (b3 : d2 ≤ 1000000000) :
    Calls Tryz.prog 96 #[.agg #[.int .i64 n1, .int .i64 d1], .agg #[.int .i64 n2, .int .i64 d2]] w fun e w' => e = .returned (.agg #[.int .i64 (Fr.mkN (n1 * d2 + n2 * d1) (d1 * d2)), .int .i64 (Fr.mkD (n1 * d2 + n2 * d1) (d1 * d2))]) ∧ Below w.heap.size w w' := by
  have m1 := wrap_mul n1 d2 (by omega) (by omega) (by omega) (by omega)
  have m2 := wrap_mul n2 d1 (by omega) (by omega) (by omega) (by omega)
  have m3 := wrap_mul d1 d2 (by omega) (by omega) (by omega) (by omega)
  have k1 := Fr.mul_bd n1 d2 (by omega) (by omega) (by omega) (by omega)
  have k2 := Fr.mul_bd n2 d1 (by omega) (by omega) (by omega) (by omega)
  have k3 := Fr.mul_bd d1 d2 (by omega) (by omega) (by omega) (by omega)
  have k4 := Fr.den_pos d1 d2 (by omega) (by omega)
  have m4 : wrap64 (n1 * d2 + n2 * d1) = n1 * d2 + n2 * d1 := wrap_id _ (by omega) (by omega)
  obtain ⟨k10, k11⟩ := k1
  obtain ⟨k20, k21⟩ := k2
  obtain ⟨k30, k31⟩ := k3
  go_enter Tryz.func96, Tryz.ntmps96
  go_wp2_with fail
  refine (make_any (n1 * d2 + n2 * d1) (d1 * d2) _ (by omega) (by omega) (by omega) (by omega) (by omega)).mono ?_
  rintro e w1 ⟨rfl, hb1⟩
  obtain ⟨hc1, hf1⟩ := bcell hb1
  have hz1 : w.heap.size + 1 + 1 < w1.heap.size := by have := hb1.size; simp at this; omega
  obtain ⟨hx1, hy1⟩ := lt3 hz1
  go_wp2_with fail
  exact bodyPost_ret (v := .agg #[.int .i64 (Fr.mkN (n1 * d2 + n2 * d1) (d1 * d2)), .int .i64 (Fr.mkD (n1 * d2 + n2 * d1) (d1 * d2))]) (by simp [results, Tryz.results96, go_sem, hc1]) rfl ⟨rfl, ((((((Below.refl _ _).alloc (Nat.le_refl _) _).alloc (by simp) _).alloc (by simp; omega) _).trans (hb1.mono (by simp; omega))).setCell (by simp; omega) _).setCell (by simp; omega) _⟩

set_option maxHeartbeats 400000 in
theorem sAdd_no (n1 d1 n2 d2 : Int) (w : World) (h : (Fr.goodB n1 d1 && Fr.goodB n2 d2) = false) :
    Calls Tryz.prog 72 #[.agg #[.int .i64 n1, .int .i64 d1], .agg #[.int .i64 n2, .int .i64 d2]] w fun e w' => e = .returned (.tuple #[.agg #[.int .i64 0, .int .i64 0], .bool false]) ∧ Below w.heap.size w w' := by
  have H := hide h
  clear h
  go_enter Tryz.func72, Tryz.ntmps72
  go_wp2_with fail
  refine (both_no H.out).mono ?_
  rintro e w1 ⟨rfl, hb1⟩
  obtain ⟨hc1, hf1⟩ := bcell hb1
  have hz1 : w.heap.size + 1 + 1 < w1.heap.size := by have := hb1.size; simp at this; omega
  obtain ⟨hx1, hy1⟩ := lt3 hz1
  go_wp2_with fail
  exact bodyPost_ret (v := .tuple #[.agg #[.int .i64 0, .int .i64 0], .bool false]) (by simp [results, Tryz.results72, go_sem, hc1]) rfl ⟨rfl, ((((((Below.refl _ _).alloc (Nat.le_refl _) _).alloc (by simp) _).alloc (by simp; omega) _).trans (hb1.mono (by simp; omega))).setCell (by simp; omega) _).setCell (by simp; omega) _⟩

set_option maxHeartbeats 800000 in
theorem sAdd_yes (n1 d1 n2 d2 : Int) (w : World) (h1 : Fr.goodB n1 d1 = true) (h2 : Fr.goodB n2 d2 = true) :
    Calls Tryz.prog 72 #[.agg #[.int .i64 n1, .int .i64 d1], .agg #[.int .i64 n2, .int .i64 d2]] w fun e w' => e = .returned (.tuple #[.agg #[.int .i64 (Fr.fitN (Fr.mkN (n1 * d2 + n2 * d1) (d1 * d2)) (Fr.mkD (n1 * d2 + n2 * d1) (d1 * d2))), .int .i64 (Fr.fitD (Fr.mkN (n1 * d2 + n2 * d1) (d1 * d2)) (Fr.mkD (n1 * d2 + n2 * d1) (d1 * d2)))], .bool (Fr.goodB (Fr.mkN (n1 * d2 + n2 * d1) (d1 * d2)) (Fr.mkD (n1 * d2 + n2 * d1) (d1 * d2)))]) ∧ Below w.heap.size w w' := by
  obtain ⟨a0, a1, a2, a3⟩ := Fr.good_bd n1 d1 h1
  obtain ⟨b0, b1, b2, b3⟩ := Fr.good_bd n2 d2 h2
  have u0 := a0
  have H1 := hide h1
  have H2 := hide h2
  clear h1 h2
  go_enter Tryz.func72, Tryz.ntmps72
  go_wp2_with fail
  refine (both_yes H1.out H2.out).mono ?_
  rintro e w1 ⟨rfl, hb1⟩
  obtain ⟨hc1, hf1⟩ := bcell hb1
  have hz1 : w.heap.size + 1 + 1 < w1.heap.size := by have := hb1.size; simp at this; omega
  obtain ⟨hx1, hy1⟩ := lt3 hz1
  go_wp2_with fail
  refine (sadd_any n1 d1 n2 d2 _ a0 a1 a2 a3 b0 b1 b2 b3).mono ?_
  rintro e w2 ⟨rfl, hb2⟩
  obtain ⟨hc2, hf2⟩ := bcell hb2
  have hz2 : w.heap.size + 1 + 1 < w2.heap.size := by have := hb2.size; omega
  obtain ⟨hx2, hy2⟩ := lt3 hz2
  go_wp2_with fail
  refine (fits_any (Fr.mkN (n1 * d2 + n2 * d1) (d1 * d2)) (Fr.mkD (n1 * d2 + n2 * d1) (d1 * d2)) _).mono ?_
  rintro e w3 ⟨rfl, hb3⟩
  obtain ⟨hc3, hf3⟩ := bcell hb3
  have hz3 : w.heap.size + 1 + 1 < w3.heap.size := by have := hb3.size; omega
  obtain ⟨hx3, hy3⟩ := lt3 hz3
  go_wp2_with fail
  exact bodyPost_ret (v := .tuple #[.agg #[.int .i64 (Fr.fitN (Fr.mkN (n1 * d2 + n2 * d1) (d1 * d2)) (Fr.mkD (n1 * d2 + n2 * d1) (d1 * d2))), .int .i64 (Fr.fitD (Fr.mkN (n1 * d2 + n2 * d1) (d1 * d2)) (Fr.mkD (n1 * d2 + n2 * d1) (d1 * d2)))], .bool (Fr.goodB (Fr.mkN (n1 * d2 + n2 * d1) (d1 * d2)) (Fr.mkD (n1 * d2 + n2 * d1) (d1 * d2)))]) (by simp [results, Tryz.results72, go_sem, hc1, hc2, hc3, hz1, hz2]) rfl ⟨rfl, ((((((((Below.refl _ _).alloc (Nat.le_refl _) _).alloc (by simp) _).alloc (by simp; omega) _).trans (hb1.mono (by simp; omega))).trans (hb2.mono (by omega))).trans (hb3.mono (by omega))).setCell (by simp; omega) _).setCell (by simp; omega) _⟩

theorem addF_any (n1 d1 n2 d2 : Int) (w : World) :
    Calls Tryz.prog 84 #[.agg #[.int .i64 n1, .int .i64 d1], .agg #[.int .i64 n2, .int .i64 d2]] w fun e w' => e = .returned (.tuple #[.agg #[.int .i64 (Fr.addN n1 d1 n2 d2), .int .i64 (Fr.addD n1 d1 n2 d2)], .bool (Fr.addB n1 d1 n2 d2)]) ∧ Below w.heap.size w w' := by
  unfold Fr.addN Fr.addD Fr.addB
  cases h1 : Fr.goodB n1 d1
  · simpa using add_no1 n1 d1 n2 d2 w h1
  · cases h2 : Fr.goodB n2 d2
    · simpa using add_no2 n1 d1 n2 d2 w h1 h2
    · simpa using add_yes n1 d1 n2 d2 w h1 h2
theorem sAddF_any (n1 d1 n2 d2 : Int) (w : World) :
    Calls Tryz.prog 72 #[.agg #[.int .i64 n1, .int .i64 d1], .agg #[.int .i64 n2, .int .i64 d2]] w fun e w' => e = .returned (.tuple #[.agg #[.int .i64 (Fr.addN n1 d1 n2 d2), .int .i64 (Fr.addD n1 d1 n2 d2)], .bool (Fr.addB n1 d1 n2 d2)]) ∧ Below w.heap.size w w' := by
  unfold Fr.addN Fr.addD Fr.addB
  cases h1 : Fr.goodB n1 d1
  · simpa using sAdd_no n1 d1 n2 d2 w (by rw [h1]; rfl)
  · cases h2 : Fr.goodB n2 d2
    · simpa using sAdd_no n1 d1 n2 d2 w (by rw [h1, h2]; rfl)
    · simpa using sAdd_yes n1 d1 n2 d2 w h1 h2
end Go.Proofs.YtlbagigghpiifabGreat
namespace Go.Proofs.YtlbagigghpiifabGreat
open Go.RowKit

theorem tup_ib {a b : Int} {c : Bool} (h : a = b) : Ending.returned (.tuple #[.int .i64 a, .bool c]) = .returned (.tuple #[.int .i64 b, .bool c]) := by rw [h]

set_option maxHeartbeats 400000 in
theorem cmp_same (n1 d1 : Int) (w : World) :
    Calls Tryz.prog 123 #[.agg #[.int .i64 n1, .int .i64 d1], .agg #[.int .i64 n1, .int .i64 d1]] w fun e w' => e = .returned (.int .i64 0) ∧ Below w.heap.size w w' := by
  have q1 := frac_eq n1 d1 n1 d1
  have q2 := fun x y => frac_eqg x y n1 d1 n1 d1
  simp at q1
  go_enter Tryz.func123, Tryz.ntmps123
  go_wp2
  go_ret
  exact ⟨rfl, ((Below.refl _ _).alloc (Nat.le_refl _) _).alloc (by simp) _⟩

set_option maxHeartbeats 400000 in
theorem cmp_lt (n1 d1 n2 d2 : Int) (w : World) (h1 : Fr.goodB n1 d1 = true) (h2 : Fr.goodB n2 d2 = true) (h : (n1 == n2 && d1 == d2) = false) (hl : n1 * d2 < n2 * d1) :
    Calls Tryz.prog 123 #[.agg #[.int .i64 n1, .int .i64 d1], .agg #[.int .i64 n2, .int .i64 d2]] w fun e w' => e = .returned (.int .i64 (-1)) ∧ Below w.heap.size w w' := by
  obtain ⟨a0, a1, a2, a3⟩ := Fr.good_bd n1 d1 h1
  obtain ⟨b0, b1, b2, b3⟩ := Fr.good_bd n2 d2 h2
  have m1 := wrap_mul n1 d2 (by omega) (by omega) (by omega) (by omega)
  have m2 := wrap_mul n2 d1 (by omega) (by omega) (by omega) (by omega)
  have q1 := frac_eq n1 d1 n2 d2
  have q2 := fun x y => frac_eqg x y n1 d1 n2 d2
  rw [h] at q1
  clear h1 h2 h
  go_enter Tryz.func123, Tryz.ntmps123
  go_wp2
  go_ret
  exact ⟨rfl, ((Below.refl _ _).alloc (Nat.le_refl _) _).alloc (by simp) _⟩

set_option maxHeartbeats 400000 in
theorem cmp_gt (n1 d1 n2 d2 : Int) (w : World) (h1 : Fr.goodB n1 d1 = true) (h2 : Fr.goodB n2 d2 = true) (h : (n1 == n2 && d1 == d2) = false) (hl : ¬ n1 * d2 < n2 * d1) :
    Calls Tryz.prog 123 #[.agg #[.int .i64 n1, .int .i64 d1], .agg #[.int .i64 n2, .int .i64 d2]] w fun e w' => e = .returned (.int .i64 1) ∧ Below w.heap.size w w' := by
  obtain ⟨a0, a1, a2, a3⟩ := Fr.good_bd n1 d1 h1
  obtain ⟨b0, b1, b2, b3⟩ := Fr.good_bd n2 d2 h2
  have m1 := wrap_mul n1 d2 (by omega) (by omega) (by omega) (by omega)
  have m2 := wrap_mul n2 d1 (by omega) (by omega) (by omega) (by omega)
  have q1 := frac_eq n1 d1 n2 d2
  have q2 := fun x y => frac_eqg x y n1 d1 n2 d2
  rw [h] at q1
  clear h1 h2 h
  go_enter Tryz.func123, Tryz.ntmps123
  go_wp2
  go_ret
  exact ⟨rfl, ((Below.refl _ _).alloc (Nat.le_refl _) _).alloc (by simp) _⟩

theorem cmp_any (n1 d1 n2 d2 : Int) (w : World) (h1 : Fr.goodB n1 d1 = true) (h2 : Fr.goodB n2 d2 = true) :
    ∃ v, (v == -1) = Fr.lessB n1 d1 n2 d2 ∧ Calls Tryz.prog 123 #[.agg #[.int .i64 n1, .int .i64 d1], .agg #[.int .i64 n2, .int .i64 d2]] w fun e w' => e = .returned (.int .i64 v) ∧ Below w.heap.size w w' := by
  cases h : (n1 == n2 && d1 == d2)
  · by_cases hl : n1 * d2 < n2 * d1
    · exact ⟨-1, by simp [Fr.lessB, hl], cmp_lt n1 d1 n2 d2 w h1 h2 h hl⟩
    · exact ⟨1, by simp [Fr.lessB, hl], cmp_gt n1 d1 n2 d2 w h1 h2 h hl⟩
  · simp at h
    obtain ⟨rfl, rfl⟩ := h
    exact ⟨0, by simp [Fr.lessB], cmp_same n1 d1 w⟩

set_option maxHeartbeats 400000 in
theorem sless_raw (n1 d1 n2 d2 : Int) (w : World) (h1 : Fr.goodB n1 d1 = true) (h2 : Fr.goodB n2 d2 = true) :
    Calls Tryz.prog 105 #[.agg #[.int .i64 n1, .int .i64 d1], .agg #[.int .i64 n2, .int .i64 d2]] w fun e w' => e = .returned (.bool (Fr.lessB n1 d1 n2 d2)) ∧ Below w.heap.size w w' := by
  obtain ⟨a0, a1, a2, a3⟩ := Fr.good_bd n1 d1 h1
  obtain ⟨b0, b1, b2, b3⟩ := Fr.good_bd n2 d2 h2
  have m1 := wrap_mul n1 d2 (by omega) (by omega) (by omega) (by omega)
  have m2 := wrap_mul n2 d1 (by omega) (by omega) (by omega) (by omega)
  clear h1 h2
  go_enter Tryz.func105, Tryz.ntmps105
  go_wp2
  go_ret
  exact ⟨rfl, ((Below.refl _ _).alloc (Nat.le_refl _) _).alloc (by simp) _⟩
end Go.Proofs.YtlbagigghpiifabGreat
namespace Go.Proofs.YtlbagigghpiifabGreat
open Go.RowKit

theorem sall_eqn {a : Option Addr} {n c : Nat} {xs : List Int} {lo hi : Int} {w : World} {r : Bool} (h : Hid (ARow w a xs)) (hn : Hid (xs.length = n)) (hl : n ≤ 1000) (hr : Hid (Pf.allB xs lo hi = r)) :
    Calls Tryz.prog 45 #[.slice a n c, .int .i64 lo, .int .i64 hi] w fun e w' => e = .returned (.bool r) ∧ w' = w := by
  have := hn.out
  subst this
  exact all_eq h.out (by omega) hr.out
theorem isum_eqn {a : Option Addr} {n c : Nat} {xs : List Int} {w : World} (h : Hid (ARow w a xs)) (hn : Hid (xs.length = n)) (hl : n ≤ 1000) (hr : Hid (Pf.allB xs 1 40 = true)) :
    Calls Tryz.prog 79 #[.slice a n c] w fun e w' => e = .returned (.int .i64 xs.sum) ∧ w' = w := by
  have := hn.out
  subst this
  exact isum_any h.out (by omega) (Pf.allB_of fun i hi => by have := Pf.inB_yes (Pf.allB_get hr.out hi); exact Pf.inB_of (by omega) (by omega))
theorem sisum_eqn {a : Option Addr} {n c : Nat} {xs : List Int} {w : World} (h : Hid (ARow w a xs)) (hn : Hid (xs.length = n)) (hl : n ≤ 1000) (hr : Hid (Pf.allB xs 1 40 = true)) :
    Calls Tryz.prog 69 #[.slice a n c] w fun e w' => e = .returned (.int .i64 xs.sum) ∧ w' = w := by
  have := hn.out
  subst this
  exact sisum_any h.out (by omega) (Pf.allB_of fun i hi => by have := Pf.inB_yes (Pf.allB_get hr.out hi); exact Pf.inB_of (by omega) (by omega))

set_option maxHeartbeats 400000 in
theorem flows_any {a : Option Addr} {n c : Nat} {fs : List Int} {w : World} (h : Hid (ARow w a fs)) (hn : Hid (fs.length = n)) :
    Calls Tryz.prog 77 #[.slice a n c] w fun e w' => e = .returned (.bool (Sh.flowB fs)) ∧ w' = w := by
  have HE : Hid (Sh.flowB fs = (Pf.inB n 1 8 && Pf.allB fs 1 30)) := hide (by unfold Sh.flowB; rw [hn.out])
  cases h1 : Pf.inB n 1 8
  · have HF : Hid (false = Sh.flowB fs) := hide (by rw [HE.out, h1]; rfl)
    go_enter Tryz.func77, Tryz.ntmps77
    go_wp2_with (go_at_call 81; refine (between_eq h1).mono ?_; rintro e w1 ⟨rfl, rfl⟩)
    go_ret
    exact ⟨ret_bool HF.out, rfl⟩
  · have hl : n ≤ 1000 := by have := Pf.inB_yes h1; omega
    have HF : Hid (Pf.allB fs 1 30 = Sh.flowB fs) := hide (by rw [HE.out, h1]; rfl)
    go_enter Tryz.func77, Tryz.ntmps77
    go_wp2_with (first
      | (go_at_call 81; refine (between_eq h1).mono ?_; rintro e w1 ⟨rfl, rfl⟩)
      | (go_at_call 80; refine (areb_eqn h hn hl HF).mono ?_; rintro e w1 ⟨rfl, rfl⟩))
    go_ret
    exact ⟨rfl, rfl⟩
theorem flows_eq {a : Option Addr} {n c : Nat} {fs : List Int} {w : World} {r : Bool} (h : Hid (ARow w a fs)) (hn : Hid (fs.length = n)) (hr : Hid (Sh.flowB fs = r)) :
    Calls Tryz.prog 77 #[.slice a n c] w fun e w' => e = .returned (.bool r) ∧ w' = w := hr.out ▸ flows_any h hn
set_option maxHeartbeats 400000 in
theorem sflows_any {a : Option Addr} {n c : Nat} {fs : List Int} {w : World} (h : Hid (ARow w a fs)) (hn : Hid (fs.length = n)) :
    Calls Tryz.prog 43 #[.slice a n c] w fun e w' => e = .returned (.bool (Sh.flowB fs)) ∧ w' = w := by
  have HE : Hid (Sh.flowB fs = (Pf.inB n 1 8 && Pf.allB fs 1 30)) := hide (by unfold Sh.flowB; rw [hn.out])
  cases h1 : Pf.inB n 1 8
  · have HF : Hid (false = Sh.flowB fs) := hide (by rw [HE.out, h1]; rfl)
    go_enter Tryz.func43, Tryz.ntmps43
    go_wp2_with (go_at_call 68; refine (in_eq h1).mono ?_; rintro e w1 ⟨rfl, rfl⟩)
    go_ret
    exact ⟨ret_bool HF.out, rfl⟩
  · have hl : n ≤ 1000 := by have := Pf.inB_yes h1; omega
    have HF : Hid (Pf.allB fs 1 30 = Sh.flowB fs) := hide (by rw [HE.out, h1]; rfl)
    go_enter Tryz.func43, Tryz.ntmps43
    go_wp2_with (first
      | (go_at_call 68; refine (in_eq h1).mono ?_; rintro e w1 ⟨rfl, rfl⟩)
      | (go_at_call 45; refine (sall_eqn h hn hl HF).mono ?_; rintro e w1 ⟨rfl, rfl⟩))
    go_ret
    exact ⟨rfl, rfl⟩
theorem sflows_eq {a : Option Addr} {n c : Nat} {fs : List Int} {w : World} {r : Bool} (h : Hid (ARow w a fs)) (hn : Hid (fs.length = n)) (hr : Hid (Sh.flowB fs = r)) :
    Calls Tryz.prog 43 #[.slice a n c] w fun e w' => e = .returned (.bool r) ∧ w' = w := hr.out ▸ sflows_any h hn

set_option maxHeartbeats 400000 in
theorem kinds_any {a : Option Addr} {n c : Nat} {p : Int} {fs : List Int} {w : World} (h : Hid (ARow w a fs)) (hn : Hid (fs.length = n)) :
    Calls Tryz.prog 89 #[.slice a n c, .int .i64 p] w fun e w' => e = .returned (.bool (Sh.kindsB fs p)) ∧ w' = w := by
  have HE : Hid (Sh.kindsB fs p = (Sh.flowB fs && Pf.inB p n 40)) := hide (by unfold Sh.kindsB; rw [hn.out])
  cases h1 : Sh.flowB fs
  · have HF : Hid (false = Sh.kindsB fs p) := hide (by rw [HE.out, h1]; rfl)
    have H1 := hide h1
    clear h1
    go_enter Tryz.func89, Tryz.ntmps89
    go_wp2_with (go_at_call 77; refine (flows_eq h hn H1).mono ?_; rintro e w1 ⟨rfl, rfl⟩)
    go_ret
    exact ⟨ret_bool HF.out, rfl⟩
  · have HF : Hid (Pf.inB p n 40 = Sh.kindsB fs p) := hide (by rw [HE.out, h1]; rfl)
    have H1 := hide h1
    clear h1
    go_enter Tryz.func89, Tryz.ntmps89
    go_wp2_with (first
      | (go_at_call 77; refine (flows_eq h hn H1).mono ?_; rintro e w1 ⟨rfl, rfl⟩)
      | (go_at_call 81; refine (between_eq HF.out).mono ?_; rintro e w1 ⟨rfl, rfl⟩))
    go_ret
    exact ⟨rfl, rfl⟩
theorem kinds_eq {a : Option Addr} {n c : Nat} {p : Int} {fs : List Int} {w : World} {r : Bool} (h : Hid (ARow w a fs)) (hn : Hid (fs.length = n)) (hr : Hid (Sh.kindsB fs p = r)) :
    Calls Tryz.prog 89 #[.slice a n c, .int .i64 p] w fun e w' => e = .returned (.bool r) ∧ w' = w := hr.out ▸ kinds_any h hn
/-- Whether counts are at least 1 each and no more than so many, together too. -/
def countsB (cs : List Int) (M : Int) : Bool := Pf.allB cs 1 M && decide (cs.sum ≤ M)
theorem isum17 {a : Option Addr} {n c : Nat} {xs : List Int} {w : World} (h : Hid (ARow w a xs)) (hn : Hid (xs.length = n)) (hl : n ≤ 1000) (hr : Hid (Pf.allB xs (-10000000) 10000000 = true)) :
    Calls Tryz.prog 79 #[.slice a n c] w fun e w' => e = .returned (.int .i64 xs.sum) ∧ w' = w := by
  have := hn.out
  subst this
  exact isum_any h.out (by omega) hr.out
set_option maxHeartbeats 1000000 in
theorem counts_any {b : Option Addr} {m d : Nat} {M : Int} {cs : List Int} {w : World} (hM : M ≤ 1000) (g : Hid (ARow w b cs)) (hm : Hid (cs.length = m)) (hl : m ≤ 1000) :
    Calls Tryz.prog 101 #[.slice b m d, .int .i64 M] w fun e w' => e = .returned (.bool (countsB cs M)) ∧ w' = w := by
  cases h2 : Pf.allB cs 1 M
  · have HF : Hid (false = countsB cs M) := hide (by unfold countsB; rw [h2]; rfl)
    have H2 := hide h2
    clear h2
    go_enter Tryz.func101, Tryz.ntmps101
    go_wp2_with (go_at_call 80; refine (areb_eqn g hm (by omega) H2).mono ?_; rintro e w1 ⟨rfl, rfl⟩)
    go_ret
    exact ⟨ret_bool HF.out, rfl⟩
  · have HF : Hid (decide (cs.sum ≤ M) = countsB cs M) := hide (by unfold countsB; rw [h2]; rfl)
    have H2 := hide h2
    have H3 : Hid (Pf.allB cs (-10000000) 10000000 = true) := hide (Pf.allB_of fun i hi => by have := Pf.inB_yes (Pf.allB_get h2 hi); exact Pf.inB_of (by omega) (by omega))
    clear h2
    go_enter Tryz.func101, Tryz.ntmps101
    go_wp2_with (first
      | (go_at_call 80; refine (areb_eqn g hm (by omega) H2).mono ?_; rintro e w1 ⟨rfl, rfl⟩)
      | (go_at_call 79; refine (isum17 g hm hl H3).mono ?_; rintro e w1 ⟨rfl, rfl⟩))
    go_ret
    exact ⟨ret_bool HF.out, rfl⟩
theorem counts_eq {b : Option Addr} {m d : Nat} {M : Int} {cs : List Int} {w : World} {r : Bool} (hM : M ≤ 1000) (g : Hid (ARow w b cs)) (hm : Hid (cs.length = m)) (hl : m ≤ 1000) (hr : Hid (countsB cs M = r)) :
    Calls Tryz.prog 101 #[.slice b m d, .int .i64 M] w fun e w' => e = .returned (.bool r) ∧ w' = w := hr.out ▸ counts_any hM g hm hl
/-- A fraction as a value. -/
def fv (p : Int × Int) : Value := .agg #[.int .i64 p.1, .int .i64 p.2]
theorem fv_eq (p : Int × Int) : fv p = .agg #[.int .i64 p.1, .int .i64 p.2] := rfl
theorem below_set2 {w w1 : World} {o : Obj} {a b : Addr} {u v : Value} (hb : Below (w.alloc o).heap.size (w.alloc o) w1) (ha : w.heap.size ≤ a.block) (hb' : w.heap.size ≤ b.block) : Below w.heap.size w ((w1.setCell a u).setCell b v) :=
  ((((Below.refl _ _).alloc (Nat.le_refl _) _).trans (hb.mono (by simp))).setCell ha _).setCell hb' _
set_option maxHeartbeats 400000 in
theorem gainAt_any {f c : Int} {w : World} (f0 : 1 ≤ f) (f1 : f ≤ 30) (c0 : 1 ≤ c) (c1 : c ≤ 40) :
    Calls Tryz.prog 117 #[.int .i64 f, .int .i64 c] w fun e w' => e = .returned (fv (Sh.gain f c)) ∧ Below w.heap.size w w' := by
  obtain ⟨d0, d1⟩ := Sh.gain_den c0 c1
  have m1 : wrap64 (c * (c + 1)) = c * (c + 1) := wrap_id _ (by omega) (by omega)
  have m0 : wrap64 (c + 1) = c + 1 := wrap_id _ (by omega) (by omega)
  go_enter Tryz.func117, Tryz.ntmps117
  go_wp2_with (go_at_call 85; refine (lowest_pos f (c * (c + 1)) _ (by omega) (by omega) d0 (by omega)).mono ?_; rintro e w1 ⟨rfl, hb⟩; obtain ⟨hc, hf⟩ := bcell hb; have hz : w.heap.size < w1.heap.size := by have := hb.size; simp at this; omega)
  exact bodyPost_ret (v := fv (Sh.gain f c)) (by simp [results, Tryz.results117, go_sem, hc, fv, Sh.gain, Sh.mk]) rfl ⟨rfl, below_set2 hb (Nat.le_refl _) (Nat.le_refl _)⟩
theorem cmp_all {p q : Int × Int} {w : World} (h1 : Sh.goodF p = true) (h2 : Sh.goodF q = true) :
    ∃ v, ((v == -1) = Sh.less p q ∧ (v == 1) = Sh.more p q) ∧ Calls Tryz.prog 123 #[.agg #[.int .i64 p.1, .int .i64 p.2], .agg #[.int .i64 q.1, .int .i64 q.2]] w fun e w' => e = .returned (.int .i64 v) ∧ Below w.heap.size w w' := by
  have hcs := Fr.less_cases p.1 p.2 q.1 q.2 h1 h2
  cases h : (p.1 == q.1 && p.2 == q.2)
  · by_cases hl : p.1 * q.2 < q.1 * p.2
    · refine ⟨-1, ⟨by simp [Sh.less, Fr.lessB, hl], ?_⟩, cmp_lt _ _ _ _ w h1 h2 h hl⟩
      simp only [Sh.more, Sh.less, Fr.lessB]
      simp; omega
    · refine ⟨1, ⟨by simp [Sh.less, Fr.lessB, hl], ?_⟩, cmp_gt _ _ _ _ w h1 h2 h hl⟩
      simp only [Sh.more, Sh.less]
      rcases hcs with ⟨a, _⟩ | ⟨_, b⟩ | ⟨_, _, c1, c2⟩
      · simp [Fr.lessB] at a; omega
      · rw [b]; rfl
      · simp [c1, c2] at h
  · simp only [Bool.and_eq_true, beq_iff_eq] at h
    obtain ⟨e1, e2⟩ := h
    refine ⟨0, ⟨by simp [Sh.less, Fr.lessB, e1, e2], by simp [Sh.more, Sh.less, Fr.lessB, e1, e2]⟩, ?_⟩
    rw [e1, e2]; exact cmp_same _ _ w
set_option maxHeartbeats 400000 in
theorem more_any {p q : Int × Int} {w : World} (h1 : Sh.goodF p = true) (h2 : Sh.goodF q = true) :
    Calls Tryz.prog 118 #[.agg #[.int .i64 p.1, .int .i64 p.2], .agg #[.int .i64 q.1, .int .i64 q.2]] w fun e w' => e = .returned (.bool (Sh.more p q)) ∧ Below w.heap.size w w' := by
  obtain ⟨v, ⟨_, hv⟩, hcall⟩ := cmp_all (w := (w.alloc (.cells #[.int .i64 p.1, .int .i64 p.2] 32)).alloc (.cells #[.int .i64 q.1, .int .i64 q.2] 32)) h1 h2
  have HV := hide hv
  have HC := hide hcall
  clear h1 h2 hv hcall
  obtain ⟨p1, p2⟩ := p
  obtain ⟨q1, q2⟩ := q
  go_enter Tryz.func118, Tryz.ntmps118
  go_wp2_with (go_at_call 123; refine HC.out.mono ?_; rintro e w1 ⟨rfl, hb⟩)
  go_ret
  exact ⟨ret_bool HV.out, (((Below.refl _ _).alloc (Nat.le_refl _) _).alloc (by simp) _).trans (hb.mono (by simp; omega))⟩
set_option maxHeartbeats 400000 in
theorem sless_any {p q : Int × Int} {w : World} (h1 : Sh.goodF p = true) (h2 : Sh.goodF q = true) :
    Calls Tryz.prog 105 #[.agg #[.int .i64 p.1, .int .i64 p.2], .agg #[.int .i64 q.1, .int .i64 q.2]] w fun e w' => e = .returned (.bool (Sh.less p q)) ∧ Below w.heap.size w w' := by
  obtain ⟨p1, p2⟩ := p
  obtain ⟨q1, q2⟩ := q
  obtain ⟨a0, a1, a2, a3⟩ := Fr.good_bd p1 p2 h1
  obtain ⟨b0, b1, b2, b3⟩ := Fr.good_bd q1 q2 h2
  have m1 := wrap_mul p1 q2 (by omega) (by omega) (by omega) (by omega)
  have m2 := wrap_mul q1 p2 (by omega) (by omega) (by omega) (by omega)
  clear h1 h2
  go_enter Tryz.func105, Tryz.ntmps105
  go_wp2_with fail
  go_ret
  exact ⟨rfl, ((Below.refl _ _).alloc (Nat.le_refl _) _).alloc (by simp) _⟩
end Go.Proofs.YtlbagigghpiifabGreat
namespace Go.Proofs.YtlbagigghpiifabGreat.Hs
open Go.Proofs.YtlbagigghpiifabGreat

/-- Counts are as said for as many slots as they are together. -/
def cntB (cs : List Int) : Bool := Pf.inB cs.length 1 8 && (Pf.allB cs 1 10 && decide (cs.sum ≤ 10))
def slotsB (cs ws : List Int) : Bool := cntB cs && decide (cs.sum = (ws.length : Int)) && Pf.allB ws 0 1000
theorem cntB_yes {cs : List Int} (h : cntB cs = true) : 1 ≤ cs.length ∧ cs.length ≤ 8 ∧ Pf.allB cs 1 10 = true ∧ cs.sum ≤ 10 := by
  simp only [cntB, Bool.and_eq_true, decide_eq_true_eq] at h
  have := Pf.inB_yes h.1
  exact ⟨by omega, by omega, h.2.1, h.2.2⟩
theorem cntB_at {cs : List Int} (h : cntB cs = true) {i : Nat} (hi : i < cs.length) : 1 ≤ cs.getD i 0 ∧ cs.getD i 0 ≤ 10 := Pf.inB_yes (Pf.allB_get (cntB_yes h).2.2.1 hi)
theorem slotsB_yes {cs ws : List Int} (h : slotsB cs ws = true) : cntB cs = true ∧ cs.sum = (ws.length : Int) ∧ Pf.allB ws 0 1000 = true ∧ ws.length ≤ 10 := by
  simp only [slotsB, Bool.and_eq_true, decide_eq_true_eq] at h
  have := (cntB_yes h.1.1).2.2.2
  exact ⟨h.1.1, h.1.2, h.2, by omega⟩

/-- What each good owns, behind so many owners. -/
def ownN (m : Nat) (os : List Int) : Nat → List Int
  | 0 => List.replicate m 0
  | k + 1 => (ownN m os k).set (os.getD k 0).toNat ((ownN m os k).getD (os.getD k 0).toNat 0 + 1)
theorem ownN_len (m : Nat) (os : List Int) : ∀ k, (ownN m os k).length = m
  | 0 => by simp [ownN]
  | k + 1 => by simp [ownN, ownN_len m os k]
/-- Whether each good owns as many as its count. -/
def fitB (cs os : List Int) : Bool := Pf.allB os 0 ((cs.length : Int) - 1) && decide (ownN cs.length os os.length = cs)
theorem sum_set {xs : List Int} {i : Nat} {x : Int} (h : i < xs.length) : (xs.set i x).sum = xs.sum + (x - xs.getD i 0) := by
  induction xs generalizing i with
  | nil => simp at h
  | cons y ys ih =>
    cases i with
    | zero => simp; omega
    | succ i =>
      have := ih (i := i) (by simpa using h)
      simp only [List.set_cons_succ, List.sum_cons, List.getD_cons_succ]
      omega
theorem ownN_sum {m : Nat} {os : List Int} (h : Pf.allB os 0 ((m : Int) - 1) = true) : ∀ k, k ≤ os.length → (ownN m os k).sum = (k : Int)
  | 0, _ => by
    show (List.replicate m (0 : Int)).sum = 0
    induction m with
    | zero => rfl
    | succ m ih => simp
  | k + 1, hk => by
    have h1 := Pf.inB_yes (Pf.allB_get h (show k < os.length by omega))
    have ih := ownN_sum h k (by omega)
    rw [ownN, sum_set (by rw [ownN_len]; omega), ih]
    push_cast; omega
theorem ownN_le {m : Nat} {os : List Int} : ∀ k i, (ownN m os k).getD i 0 ≤ (k : Int) ∧ 0 ≤ (ownN m os k).getD i 0
  | 0, i => by
    simp only [ownN, List.getD_eq_getElem?_getD, List.getElem?_replicate]
    split <;> simp
  | k + 1, i => by
    have h1 := ownN_le (m := m) (os := os) k i
    have h2 := ownN_le (m := m) (os := os) k (os.getD k 0).toNat
    simp only [ownN, List.getD_eq_getElem?_getD, List.getElem?_set] at h1 h2 ⊢
    split
    · split
      · simp; omega
      · simp; omega
    · push_cast; omega
theorem fitB_yes {cs os : List Int} (h : fitB cs os = true) : Pf.allB os 0 ((cs.length : Int) - 1) = true ∧ ownN cs.length os os.length = cs := by
  simpa [fitB] using h
theorem fit_len {cs os : List Int} (h : fitB cs os = true) : cs.sum = (os.length : Int) := by
  obtain ⟨h1, h2⟩ := fitB_yes h
  have := ownN_sum h1 os.length (Nat.le_refl _)
  rw [h2] at this; exact this
theorem fit_at {cs os : List Int} (h : fitB cs os = true) {i : Nat} (hi : i < os.length) : 0 ≤ os.getD i 0 ∧ os.getD i 0 < (cs.length : Int) := by
  have := Pf.inB_yes (Pf.allB_get (fitB_yes h).1 hi); omega
theorem fit_no {cs os : List Int} {i : Nat} (hi : i < os.length) (h : Pf.inB (os.getD i 0) 0 ((cs.length : Int) - 1) = false) : fitB cs os = false := by
  unfold fitB; rw [Pf.allB_not hi h]; rfl

/-- A good's picks for each of its slots, as a whole number: 2520 is what all of 1 .. 10 divide. -/
def wt (ps cs : List Int) : List Int := (List.range ps.length).map fun i => ps.getD i 0 * (2520 / cs.getD i 0)
theorem wt_len (ps cs : List Int) : (wt ps cs).length = ps.length := by simp [wt]
theorem wt_at (ps cs : List Int) {i : Nat} (hi : i < ps.length) : Rk.val (wt ps cs) i = ps.getD i 0 * (2520 / cs.getD i 0) := by
  simp [Rk.val, wt, hi]
theorem part_of {c : Int} (h1 : 1 ≤ c) (h2 : c ≤ 10) : (2520 / c) * c = 2520 := by
  have : c = 1 ∨ c = 2 ∨ c = 3 ∨ c = 4 ∨ c = 5 ∨ c = 6 ∨ c = 7 ∨ c = 8 ∨ c = 9 ∨ c = 10 := by omega
  rcases this with rfl | rfl | rfl | rfl | rfl | rfl | rfl | rfl | rfl | rfl <;> rfl
theorem wt_lt {p q c d : Int} (c1 : 1 ≤ c) (c2 : c ≤ 10) (d1 : 1 ≤ d) (d2 : d ≤ 10) : p * (2520 / c) < q * (2520 / d) ↔ p * d < q * c := by
  have hc := part_of c1 c2
  have hd := part_of d1 d2
  generalize 2520 / c = C at *
  generalize 2520 / d = D at *
  have e1 : p * C * (c * d) = 2520 * (p * d) := by rw [show p * C * (c * d) = (C * c) * (p * d) by ac_rfl, hc]
  have e2 : q * D * (c * d) = 2520 * (q * c) := by rw [show q * D * (c * d) = (D * d) * (q * c) by ac_rfl, hd]
  have hcd : 0 < c * d := Int.mul_pos (by omega) (by omega)
  constructor
  · intro h
    have := (Int.mul_lt_mul_of_pos_right h hcd)
    omega
  · intro h
    rcases Int.lt_or_le (p * C) (q * D) with h' | h'
    · exact h'
    · have := Int.mul_le_mul_of_nonneg_right h' (Int.le_of_lt hcd)
      omega
theorem cross_lt {p q c d : Int} (hc : 0 < c) (hd : 0 < d) : (Sh.mk p c).1 * (Sh.mk q d).2 < (Sh.mk q d).1 * (Sh.mk p c).2 ↔ p * d < q * c := by
  obtain ⟨G, g0, e1, e2, _⟩ := Sh.mk_facts p c hc
  obtain ⟨H, h0, e3, e4, _⟩ := Sh.mk_facts q d hd
  generalize (Sh.mk p c).1 = a at *
  generalize (Sh.mk p c).2 = b at *
  generalize (Sh.mk q d).1 = x at *
  generalize (Sh.mk q d).2 = y at *
  subst e1 e2 e3 e4
  have r1 : G * a * (H * y) = (G * H) * (a * y) := by ac_rfl
  have r2 : H * x * (G * b) = (G * H) * (x * b) := by ac_rfl
  have hGH : 0 < G * H := Int.mul_pos g0 h0
  rw [r1, r2]
  exact ⟨fun h => Int.mul_lt_mul_of_pos_left h hGH, fun h => Int.lt_of_mul_lt_mul_left h (Int.le_of_lt hGH)⟩
/-- Each good's picks for each of its slots, as fractions. -/
theorem cost_good {p c : Int} (p1 : 1 ≤ p) (p2 : p ≤ 30) (c1 : 1 ≤ c) (c2 : c ≤ 10) : Sh.goodF (Sh.cost p c) = true := Sh.mk_good (by omega) (by omega) (by omega) (by omega)

/-- Goods, each as often as it has slots. -/
def exp (cs : List Int) : List Nat → List Nat
  | [] => []
  | k :: r => List.replicate (cs.getD k 0).toNat k ++ exp cs r
theorem exp_app (cs : List Int) : ∀ a b, exp cs (a ++ b) = exp cs a ++ exp cs b
  | [], b => rfl
  | k :: r, b => by simp [exp, exp_app cs r b]
theorem exp_mem {cs : List Int} {x : Nat} : ∀ {l}, x ∈ exp cs l → x ∈ l
  | [], h => by cases h
  | k :: r, h => by
    rcases List.mem_append.1 h with h | h
    · rw [List.eq_of_mem_replicate h]; exact List.mem_cons_self
    · exact List.mem_cons_of_mem _ (exp_mem h)
theorem exp_len (cs : List Int) : ∀ l, (exp cs l).length = (l.map fun k => (cs.getD k 0).toNat).sum
  | [] => rfl
  | k :: r => by simp [exp, exp_len cs r]
theorem sum_nat : ∀ {xs : List Int}, (∀ i, i < xs.length → 0 ≤ xs.getD i 0) → (((List.range xs.length).map fun k => (xs.getD k 0).toNat).sum : Int) = xs.sum
  | [], _ => rfl
  | x :: r, h => by
    have h0 := h 0 (by simp)
    have ih := sum_nat (xs := r) fun i hi => by simpa using h (i + 1) (by simpa using hi)
    rw [List.length_cons, List.range_succ_eq_map, List.map_cons, List.map_map, List.sum_cons, List.sum_cons]
    simp only [List.getD_cons_zero] at h0 ⊢
    rw [← ih]
    simp only [Function.comp_def, List.getD_cons_succ]
    push_cast
    omega
/-- As many as all slots together, in whatever order the goods come. -/
theorem exp_all {cs : List Int} {g : List Nat} {n : Nat} (hc : ∀ i, i < cs.length → 0 ≤ cs.getD i 0) (hs : cs.sum = (n : Int)) (hg : g.Perm (List.range cs.length)) : (exp cs g).length = n := by
  have h := sum_nat hc
  rw [exp_len]
  have : (g.map fun k => (cs.getD k 0).toNat).sum = ((List.range cs.length).map fun k => (cs.getD k 0).toNat).sum := (hg.map _).sum_nat
  omega
/-- How many slots the first k goods have. -/
def upto (cs : List Int) (g : List Nat) (k : Nat) : Nat := (exp cs (g.take k)).length
theorem take_succ' (g : List Nat) {k : Nat} (hk : k < g.length) : g.take (k + 1) = g.take k ++ [g.getD k 0] := by
  rw [List.take_add_one]; congr 1; simp [hk]
theorem upto_zero (cs : List Int) (g : List Nat) : upto cs g 0 = 0 := rfl
theorem upto_succ (cs : List Int) (g : List Nat) {k : Nat} (hk : k < g.length) : upto cs g (k + 1) = upto cs g k + (cs.getD (g.getD k 0) 0).toNat := by
  unfold upto
  rw [take_succ' g hk, exp_app]
  simp [exp]
theorem upto_le (cs : List Int) (g : List Nat) (k : Nat) : upto cs g k ≤ (exp cs g).length := by
  conv => rhs; rw [← List.take_append_drop k g, exp_app, List.length_append]
  exact Nat.le_add_right _ _
theorem upto_all (cs : List Int) (g : List Nat) : upto cs g g.length = (exp cs g).length := by unfold upto; rw [List.take_length]
/-- Which good the slot has that comes so far. -/
theorem exp_at (cs : List Int) (g : List Nat) {k j : Nat} (hk : k < g.length) (hj : j < (cs.getD (g.getD k 0) 0).toNat) : (exp cs g).getD (upto cs g k + j) 0 = g.getD k 0 := by
  have e : exp cs g = exp cs (g.take k) ++ (List.replicate (cs.getD (g.getD k 0) 0).toNat (g.getD k 0) ++ exp cs (g.drop (k + 1))) := by
    conv => lhs; rw [← List.take_append_drop k g, exp_app]
    rw [show g.drop k = g.getD k 0 :: g.drop (k + 1) by rw [List.drop_eq_getElem_cons hk]; simp [hk]]
    rfl
  rw [e]
  unfold upto
  generalize (cs.getD (g.getD k 0) 0).toNat = N at *
  generalize g.getD k 0 = x at *
  rw [List.getD_eq_getElem?_getD, List.getElem?_append_right (by omega), Nat.add_sub_cancel_left, List.getElem?_append_left (by simpa using hj), List.getElem?_replicate, if_pos hj]
  rfl

/-- Whose each slot is. -/
def ownL (ps cs ws : List Int) : List Int := putTo (exp cs (Rk.rank (wt ps cs))) (Rk.rank (negs ws)) ws.length ws.length
theorem ownL_len (ps cs ws : List Int) : (ownL ps cs ws).length = ws.length := putTo_len _ _ _ _
def goodsL (ps cs : List Int) : List Nat := Rk.rank (wt ps cs)
theorem goodsL_len (ps cs : List Int) : (goodsL ps cs).length = ps.length := by rw [goodsL, Rk.rank_len, wt_len]
theorem goodsL_lt {ps cs : List Int} {k : Nat} (hk : k < ps.length) : (goodsL ps cs).getD k 0 < ps.length := by
  have := rk_nth_lt (vs := wt ps cs) (k := k) (by rw [wt_len]; exact hk)
  rwa [wt_len] at this
theorem goodsL_all {ps cs ws : List Int} (hl : cs.length = ps.length) (h : slotsB cs ws = true) : (exp cs (goodsL ps cs)).length = ws.length := by
  obtain ⟨h1, h2, _⟩ := slotsB_yes h
  refine exp_all (fun i hi => ?_) h2 ?_
  · have := cntB_at h1 hi; omega
  · rw [hl, ← wt_len ps cs]; exact Rk.rank_perm _

/-- How far the picks of each slot are carried. -/
def farL (ps cs ws os : List Int) : List (Int × Int) := (List.range os.length).map fun s => Sh.mk (ws.getD s 0 * ps.getD (os.getD s 0).toNat 0) (cs.getD (os.getD s 0).toNat 0)
theorem farL_len (ps cs ws os : List Int) : (farL ps cs ws os).length = os.length := by simp [farL]
theorem farL_at (ps cs ws os : List Int) {s : Nat} (h : s < os.length) : (farL ps cs ws os).getD s (0, 0) = Sh.mk (ws.getD s 0 * ps.getD (os.getD s 0).toNat 0) (cs.getD (os.getD s 0).toNat 0) := by simp [farL, h]

/-- Slots and owners are as said: a good house. -/
def houseB (ws cs os : List Int) : Bool := slotsB cs ws && fitB cs os
/-- Picks are as said for a house. -/
def dayB (ps cs ws : List Int) : Bool := Sh.flowB ps && decide (ps.length = cs.length) && slotsB cs ws
end Go.Proofs.YtlbagigghpiifabGreat.Hs
namespace Go.Proofs.YtlbagigghpiifabGreat
open Go.RowKit

/-- A house in a variable. -/
def HBox (w : World) (B : Nat) (v0 v1 v2 : Value) : Prop := w.cell? ⟨B, 0, none⟩ = some v0 ∧ w.cell? ⟨B, 1, none⟩ = some v1 ∧ w.cell? ⟨B, 2, none⟩ = some v2 ∧ B < w.heap.size
theorem HBox.new (w : World) (v0 v1 v2 : Value) (t : TypeId) : HBox (w.alloc (.cells #[v0, v1, v2] t)) w.heap.size v0 v1 v2 := ⟨by simp [go_sem], by simp [go_sem], by simp [go_sem], by simp⟩
theorem HBox.below {w w' : World} {B : Nat} {v0 v1 v2 : Value} (h : HBox w B v0 v1 v2) (hb : Below w.heap.size w w') : HBox w' B v0 v1 v2 :=
  ⟨(hb.cell h.2.2.2).trans h.1, (hb.cell h.2.2.2).trans h.2.1, (hb.cell h.2.2.2).trans h.2.2.1, Nat.lt_of_lt_of_le h.2.2.2 hb.size⟩
theorem and_false17 {a b : Bool} (h : a = false) : (a && b) = false := by rw [h]; rfl
theorem eq_upto17 {n : Nat} {xs ys : List Int} (hx : xs.length = n) (hy : ys.length = n) (h : ∀ j, j < n → xs.getD j 0 = ys.getD j 0) : xs = ys := by
  apply List.ext_getElem
  · omega
  · intro j h1 h2
    have := h j (by omega)
    rwa [Pf.getD_lt _ 0 h1, Pf.getD_lt _ 0 h2] at this
set_option maxHeartbeats 400000 in
theorem asc_any {b : Option Addr} {m d : Nat} {cs : List Int} {w : World} (g : Hid (ARow w b cs)) (hm : Hid (cs.length = m)) :
    Calls Tryz.prog 78 #[.slice b m d] w fun e w' => e = .returned (.bool (Hs.cntB cs)) ∧ w' = w := by
  have HE : Hid (Hs.cntB cs = (Pf.inB m 1 8 && countsB cs 10)) := hide (by unfold Hs.cntB countsB; rw [hm.out])
  cases h1 : Pf.inB m 1 8
  · have HF : Hid (false = Hs.cntB cs) := hide (by rw [HE.out, h1]; rfl)
    go_enter Tryz.func78, Tryz.ntmps78
    go_wp2_with (go_at_call 81; refine (between_eq h1).mono ?_; rintro e w1 ⟨rfl, rfl⟩)
    go_ret
    exact ⟨ret_bool HF.out, rfl⟩
  · have hl : m ≤ 1000 := by have := Pf.inB_yes h1; omega
    have HF : Hid (countsB cs 10 = Hs.cntB cs) := hide (by rw [HE.out, h1]; rfl)
    go_enter Tryz.func78, Tryz.ntmps78
    go_wp2_with (first
      | (go_at_call 81; refine (between_eq h1).mono ?_; rintro e w1 ⟨rfl, rfl⟩)
      | (go_at_call 101; refine (counts_eq (by omega) g hm hl HF).mono ?_; rintro e w1 ⟨rfl, rfl⟩))
    go_ret
    exact ⟨rfl, rfl⟩
theorem asc_eq {b : Option Addr} {m d : Nat} {cs : List Int} {w : World} {r : Bool} (g : Hid (ARow w b cs)) (hm : Hid (cs.length = m)) (hr : Hid (Hs.cntB cs = r)) :
    Calls Tryz.prog 78 #[.slice b m d] w fun e w' => e = .returned (.bool r) ∧ w' = w := hr.out ▸ asc_any g hm
theorem cnt_few {cs : List Int} {m : Nat} (hm : Hid (cs.length = m)) (h : Hs.cntB cs = true) : 1 ≤ m ∧ m ≤ 8 ∧ Pf.allB cs (-10000000) 10000000 = true := by
  obtain ⟨h1, h2, h3, _⟩ := Hs.cntB_yes h
  have := hm.out
  exact ⟨by omega, by omega, Pf.allB_of fun i hi => by have := Pf.inB_yes (Pf.allB_get h3 hi); exact Pf.inB_of (by omega) (by omega)⟩
set_option maxHeartbeats 1000000 in
theorem hs_any {a b o : Option Addr} {n m q c d e : Nat} {ws cs : List Int} {w : World} (HN : Hid (ws.length = n)) (HM : Hid (cs.length = m)) (HA : Hid (ARow w a ws)) (HB : Hid (ARow w b cs)) :
    Calls Tryz.prog 54 #[.agg #[.slice a n c, .slice b m d, .slice o q e]] w fun e w' => e = .returned (.bool (Hs.slotsB cs ws)) ∧ Below w.heap.size w w' := by
  have HE : Hid (Hs.slotsB cs ws = (Hs.cntB cs && decide (cs.sum = (n : Int)) && Pf.allB ws 0 1000)) := hide (by unfold Hs.slotsB; rw [HN.out])
  have hb0 := below_new w (.cells #[.slice a n c, .slice b m d, .slice o q e] 40)
  have HA1 := hide (HA.out.below hb0)
  have HB1 := hide (HB.out.below hb0)
  have HB0 := hide hb0
  clear hb0
  cases h1 : Hs.cntB cs
  · have HF : Hid (false = Hs.slotsB cs ws) := hide (by rw [HE.out, h1]; rfl)
    have H1 := hide h1
    clear h1
    go_enter Tryz.func54, Tryz.ntmps54
    go_wp2_with fail
    go_quiet ((go_at_call 78; exact Calls.quiet_of_same (asc_eq (hide (HB1.out.drewN _)) HM H1)))
    go_wp2_with fail
    go_ret
    exact ⟨ret_bool HF.out, below_drewN HB0.out _⟩
  · have H1 := hide h1
    obtain ⟨m1, m8, hs⟩ := cnt_few HM h1
    have HS := hide hs
    by_cases hn : (n : Int) = cs.sum
    · have he : ((n : Int) == cs.sum) = true := by simpa using hn
      have hl : n ≤ 1000 := by have := (Hs.cntB_yes h1).2.2.2; omega
      have HF : Hid (Pf.allB ws 0 1000 = Hs.slotsB cs ws) := hide (by rw [HE.out, h1, hn]; simp)
      clear h1 hn hs
      go_enter Tryz.func54, Tryz.ntmps54
      go_wp2_with fail
      go_quiet (first
        | (go_at_call 78; exact Calls.quiet_of_same (asc_eq (hide (HB1.out.drewN _)) HM H1))
        | (go_at_call 79; exact Calls.quiet_of_same (isum17 (hide (HB1.out.drewN _)) HM (by omega) HS))
        | (go_at_call 80; exact Calls.quiet_of_same (areb_eqn (hide (HA1.out.drewN _)) HN hl HF)))
      go_wp2_with fail
      go_ret
      exact ⟨rfl, below_drewN HB0.out _⟩
    · have he : ((n : Int) == cs.sum) = false := by simpa using hn
      have HF : Hid (false = Hs.slotsB cs ws) := hide (by rw [HE.out, h1]; simp [show ¬ cs.sum = (n : Int) from fun h => hn h.symm])
      clear h1 hn hs
      go_enter Tryz.func54, Tryz.ntmps54
      go_wp2_with fail
      go_quiet (first
        | (go_at_call 78; exact Calls.quiet_of_same (asc_eq (hide (HB1.out.drewN _)) HM H1))
        | (go_at_call 79; exact Calls.quiet_of_same (isum17 (hide (HB1.out.drewN _)) HM (by omega) HS)))
      go_wp2_with fail
      go_ret
      exact ⟨ret_bool HF.out, below_drewN HB0.out _⟩
theorem hs_eq {a b o : Option Addr} {n m q c d e : Nat} {ws cs : List Int} {w : World} {r : Bool} (HN : Hid (ws.length = n)) (HM : Hid (cs.length = m)) (HA : Hid (ARow w a ws)) (HB : Hid (ARow w b cs)) (hr : Hid (Hs.slotsB cs ws = r)) :
    Calls Tryz.prog 54 #[.agg #[.slice a n c, .slice b m d, .slice o q e]] w fun e w' => e = .returned (.bool r) ∧ Below w.heap.size w w' := hr.out ▸ hs_any HN HM HA HB
/-- Two lists of ints, held against each other. -/
theorem eqr17 {a b : Option Addr} {n m c d : Nat} {xs ys : List Int} {w : World} (hx : xs.length = n) (hy : ys.length = m) (hn : n ≤ 1000) (hm : m ≤ 1000) (h1 : 1 ≤ n) (h2 : 1 ≤ m) (ha : ARow w a xs) (hb : ARow w b ys) :
    Calls Tryz.prog 82 #[.slice a n c, .slice b m d] w fun e w' => e = .returned (.bool (decide (xs = ys))) ∧ Below w.heap.size w w' := by
  obtain ⟨g, o, rfl, _, r1⟩ := ha.resolve_left (fun e => by rw [e] at hx; simp at hx; omega)
  obtain ⟨g', o', rfl, _, r2⟩ := hb.resolve_left (fun e => by rw [e] at hy; simp at hy; omega)
  refine (Tryz.slices_Equal_int g o n c g' o' m d xs ys w (by omega) (by omega) (by omega) (by omega) (fun j hj => r1 j hj) (fun j hj => r2 j hj)).mono ?_
  rintro e w' ⟨rfl, q, rfl⟩
  rw [← hx, ← hy, List.take_length, List.take_length]
  exact ⟨ret_bool (by rw [Bool.eq_iff_iff]; simp), below_drewN (Below.refl _ _) q⟩
set_option maxHeartbeats 4000000 in
theorem ho_any {a b o : Option Addr} {n m q c d e : Nat} {cs os : List Int} {w : World} (HM : Hid (cs.length = m)) (m1 : 1 ≤ m) (m8 : m ≤ 8) (HQ : Hid (os.length = q)) (hq : q ≤ 1048576) (HB : Hid (ARow w b cs)) (HO : Hid (ARow w o os)) :
    Calls Tryz.prog 55 #[.agg #[.slice a n c, .slice b m d, .slice o q e]] w fun e w' => e = .returned (.bool (Hs.fitB cs os)) ∧ Below w.heap.size w w' := by
  have hmk := makeI_run m (by omega)
  have hb0 := below_new w (.cells #[.slice a n c, .slice b m d, .slice o q e] 40)
  have hx0 := HBox.new w (.slice a n c) (.slice b m d) (.slice o q e) 40
  have hz0 : (w.alloc (.cells #[.slice a n c, .slice b m d, .slice o q e] 40)).heap.size = w.heap.size + 1 := by simp
  have hm0 := made_own (w.alloc (.cells #[.slice a n c, .slice b m d, .slice o q e] 40)) m (by omega)
  have hb1 := below_new (w.alloc (.cells #[.slice a n c, .slice b m d, .slice o q e] 40)) (.cells (madeCells #[.int .i64 0] m) 3)
  have HX := hide (hx0.below hb1)
  have HW := hide (hb0.trans (hb1.mono hb0.size))
  rw [hz0] at hm0
  have HM0 := hide hm0
  have hz1 : ((w.alloc (.cells #[.slice a n c, .slice b m d, .slice o q e] 40)).alloc (.cells (madeCells #[.int .i64 0] m) 3)).heap.size = w.heap.size + 2 := by simp
  have HZ := hide hz1
  have HYES : Hid (∀ ys, ys = Hs.ownN m os q → (∀ i, i < q → Pf.inB (os.getD i 0) 0 ((m : Int) - 1) = true) → decide (ys = cs) = Hs.fitB cs os) := hide fun ys h1 h2 => by
    unfold Hs.fitB
    rw [HM.out, Pf.allB_of (xs := os) (by rw [HQ.out]; exact h2), HQ.out, h1]; rfl
  clear hb0 hx0 hz0 hm0 hb1 hz1
  go_enter Tryz.func55, Tryz.ntmps55
  go_wp2_with fail
  generalize hW1 : (w.alloc (.cells #[.slice a n c, .slice b m d, .slice o q e] 40)).alloc (.cells (madeCells #[.int .i64 0] m) 3) = W1 at *
  clear hW1 hmk
  go_loopw [2, 5, 13] (fun s2 _ s wr => ∃ (k : Nat) (ys : List Int), s2 = .bool false ∧ s = .int .i64 k ∧ k ≤ q ∧ Hid (ys = Hs.ownN m os k) ∧ Hid (∀ i, i < k → Pf.inB (os.getD i 0) 0 ((m : Int) - 1) = true) ∧ Hid (wr.ownsRow (w.heap.size + 1) 3 1 (.slice (some ⟨w.heap.size + 1, 0, none⟩) m m) m (ints ys)) ∧ Hid (Below (w.heap.size + 1) W1 wr)) (fun _ _ s _ => q - (intOf s).toNat)
  case atStart => exact ⟨0, List.replicate m 0, rfl, rfl, Nat.zero_le _, hide rfl, hide fun i hi => absurd hi (Nat.not_lt_zero _), HM0, hide (Below.refl _ _)⟩
  case round =>
    obtain ⟨k, ys, rfl, rfl, hk, HY, HAL, HOW, HBW⟩ := hrel
    have HBB := hide (HW.out.trans (HBW.out.mono (by have := HZ.out; omega)))
    have hwz : w.heap.size + 2 ≤ wr.heap.size := by have := HBW.out.size; rw [HZ.out] at this; exact this
    have HXr : Hid (HBox wr w.heap.size (.slice a n c) (.slice b m d) (.slice o q e)) := hide (by
      obtain ⟨x0, x1, x2, x3⟩ := HX.out
      have hk (i : Nat) : wr.cell? ⟨w.heap.size, i, none⟩ = W1.cell? ⟨w.heap.size, i, none⟩ := HBW.out.cell (p := ⟨w.heap.size, i, none⟩) (by show w.heap.size < w.heap.size + 1; omega)
      exact ⟨(hk 0).trans x0, (hk 1).trans x1, (hk 2).trans x2, by omega⟩)
    obtain ⟨x0, x1, x2, _⟩ := HXr.out
    by_cases hlt : k < q
    · obtain ⟨ba, oa, rfl, r1⟩ := (HO.out.below HBB.out).at (i := k) (by rw [HQ.out]; exact hlt)
      have i0 : (0 : Int) ≤ (k : Int) := by omega
      have i1 : (k : Int) < (q : Int) := by omega
      have HX1 := hide (rfl : os.getD k 0 = os.getD k 0)
      generalize hx : os.getD k 0 = x at r1
      cases hin : Pf.inB x 0 ((m : Int) - 1)
      · have HF : Hid (false = Hs.fitB cs os) := hide (Hs.fit_no (i := k) (by rw [HQ.out]; exact hlt) (by rw [hx, HM.out]; exact hin)).symm
        have hml : wrap64 ((m : Int) - 1) = (m : Int) - 1 := wrap_id _ (by omega) (by omega)
        clear hx
        go_wp2_with fail
        refine (between_eq hin).mono ?_
        rintro _ w1 ⟨rfl, rfl⟩
        go_wp2_with fail
        go_ret
        exact ⟨ret_bool HF.out, HBB.out⟩
      · have hml : wrap64 ((m : Int) - 1) = (m : Int) - 1 := wrap_id _ (by omega) (by omega)
        obtain ⟨hx0, hx1⟩ := Pf.inB_yes hin
        obtain ⟨j, rfl⟩ := Int.eq_ofNat_of_zero_le hx0
        have j0 : (0 : Int) ≤ (j : Int) := by omega
        have j1 : (j : Int) < (m : Int) := by omega
        have hyl : ys.length = m := by rw [HY.out, Hs.ownN_len]
        have HY1 : Hid (ys.set j (ys.getD j 0 + 1) = Hs.ownN m os (k + 1)) := hide (by rw [HY.out]; show _ = List.set _ _ _; rw [hx]; rfl)
        have HAL1 : Hid (∀ i, i < k + 1 → Pf.inB (os.getD i 0) 0 ((m : Int) - 1) = true) := hide fun i hi => by
          by_cases e : i = k
          · subst e; rw [hx]; exact hin
          · exact HAL.out i (by omega)
        have hyb := Hs.ownN_le (m := m) (os := os) k j
        rw [← HY.out] at hyb
        have c0 : wr.cell? ⟨w.heap.size + 1, j, none⟩ = some (.int .i64 (ys.getD j 0)) := by rw [HOW.out.cellAt j (by omega), ints_get ys j (by omega)]
        have f0 := HOW.out.frozenAt j
        obtain ⟨st1, st2⟩ := HOW.out.stored j (.int .i64 (ys.getD j 0 + 1))
        rw [ints_set] at st1
        have HST := hide st1
        have HB3 := hide (HBW.out.setCell (p := ⟨w.heap.size + 1, j, none⟩) (Nat.le_refl _) (.int .i64 (ys.getD j 0 + 1)))
        generalize ys.getD j 0 = y at *
        have hy1 : wrap64 (y + 1) = y + 1 := wrap_id _ (by omega) (by omega)
        clear hx st1 st2 HXr
        go_wp2_with fail
        refine (between_eq hin).mono ?_
        rintro _ w1 ⟨rfl, rfl⟩
        go_wp2_with fail
        go_roundw
        case rel => exact ⟨k + 1, ys.set j (y + 1), rfl, by go_num, by omega, HY1, HAL1, HST, HB3⟩
        case measure => simp only [intOf]; omega
    · have hke : k = q := by omega
      subst hke
      have hyl : ys.length = m := by rw [HY.out, Hs.ownN_len]
      have hrow := (arow_owns hyl.symm HOW.out)
      have HE := hide (eqr17 (c := m) (d := d) hyl HM.out (by omega) (by omega) m1 m1 hrow (HB.out.below HBB.out))
      have HF := hide (HYES.out ys HY.out HAL.out)
      clear hrow
      go_wp2_with fail
      refine HE.out.mono ?_
      rintro _ w2 ⟨rfl, hb2⟩
      have HBf := hide (HBB.out.trans (hb2.mono HBB.out.size))
      clear hb2
      go_wp2_with fail
      go_ret
      exact ⟨ret_bool HF.out, HBf.out⟩
theorem ho_eq {a b o : Option Addr} {n m q c d e : Nat} {cs os : List Int} {w : World} {r : Bool} (HM : Hid (cs.length = m)) (m1 : 1 ≤ m) (m8 : m ≤ 8) (HQ : Hid (os.length = q)) (hq : q ≤ 1048576) (HB : Hid (ARow w b cs)) (HO : Hid (ARow w o os)) (hr : Hid (Hs.fitB cs os = r)) :
    Calls Tryz.prog 55 #[.agg #[.slice a n c, .slice b m d, .slice o q e]] w fun e w' => e = .returned (.bool r) ∧ Below w.heap.size w w' := hr.out ▸ ho_any HM m1 m8 HQ hq HB HO
end Go.Proofs.YtlbagigghpiifabGreat
namespace Go.Proofs.YtlbagigghpiifabGreat
open Go.RowKit

namespace Hs
/-- What counts are together, for the model: -1 where they are none. -/
def sumI (cs : List Int) : Int := if Pf.allB cs 1 10 = true ∧ cs.length ≤ 8 then cs.sum else -1
theorem sumI_yes {cs : List Int} (h : cntB cs = true) : sumI cs = cs.sum := by
  obtain ⟨_, h2, h3, _⟩ := cntB_yes h
  rw [sumI, if_pos ⟨h3, h2⟩]
theorem cnt_sumI (cs : List Int) : (cntB cs && decide (cs.sum = sumI cs)) = cntB cs := by
  cases h : cntB cs
  · rfl
  · rw [sumI_yes h]; simp
end Hs
theorem sall17 {a : Option Addr} {n c : Nat} {xs : List Int} {lo hi : Int} {w : World} {r : Bool} (h : Hid (ARow w a xs)) (hn : Hid (xs.length = n)) (hl : n ≤ 4000000000000) (hr : Hid (Pf.allB xs lo hi = r)) :
    Calls Tryz.prog 45 #[.slice a n c, .int .i64 lo, .int .i64 hi] w fun e w' => e = .returned (.bool r) ∧ w' = w := by
  have := hn.out
  subst this
  exact all_eq h.out (by omega) hr.out
theorem ssum17 {a : Option Addr} {n c : Nat} {xs : List Int} {w : World} (h : Hid (ARow w a xs)) (hn : Hid (xs.length = n)) (hl : n ≤ 1000) (hr : Hid (Pf.allB xs (-10000000) 10000000 = true)) :
    Calls Tryz.prog 69 #[.slice a n c] w fun e w' => e = .returned (.int .i64 xs.sum) ∧ w' = w := by
  have := hn.out
  subst this
  exact sisum_any h.out (by omega) hr.out
set_option maxHeartbeats 1000000 in
theorem scnt_any {b : Option Addr} {m d : Nat} {N : Int} {cs : List Int} {w : World} (g : Hid (ARow w b cs)) (hm : Hid (cs.length = m)) :
    Calls Tryz.prog 44 #[.slice b m d, .int .i64 N] w fun e w' => e = .returned (.bool (Hs.cntB cs && decide (cs.sum = N))) ∧ w' = w := by
  have HE : Hid ((Hs.cntB cs && decide (cs.sum = N)) = (Pf.inB m 1 8 && (Pf.allB cs 1 10 && (decide (cs.sum = N) && decide (N ≤ 10))))) := hide (by
    unfold Hs.cntB; rw [hm.out]
    by_cases e : cs.sum = N
    · rw [e]; cases Pf.inB (m : Int) 1 8 <;> cases Pf.allB cs 1 10 <;> simp
    · simp [e])
  generalize (Hs.cntB cs && decide (cs.sum = N)) = G at *
  cases h1 : Pf.inB m 1 8
  · have HF : Hid (false = G) := hide (by rw [HE.out, h1]; rfl)
    go_enter Tryz.func44, Tryz.ntmps44
    go_wp2_with (go_at_call 68; refine (in_eq h1).mono ?_; rintro e w1 ⟨rfl, rfl⟩)
    go_ret
    exact ⟨ret_bool HF.out, rfl⟩
  · have hl : m ≤ 8 := by have := Pf.inB_yes h1; omega
    cases h2 : Pf.allB cs 1 10
    · have HF : Hid (false = G) := hide (by rw [HE.out, h1, h2]; rfl)
      have H2 := hide h2
      clear h2
      go_enter Tryz.func44, Tryz.ntmps44
      go_wp2_with (first
        | (go_at_call 68; refine (in_eq h1).mono ?_; rintro e w1 ⟨rfl, rfl⟩)
        | (go_at_call 45; refine (sall17 g hm (by omega) H2).mono ?_; rintro e w1 ⟨rfl, rfl⟩))
      go_ret
      exact ⟨ret_bool HF.out, rfl⟩
    · have H2 := hide h2
      have HS : Hid (Pf.allB cs (-10000000) 10000000 = true) := hide (Pf.allB_of fun i hi => by have := Pf.inB_yes (Pf.allB_get h2 hi); exact Pf.inB_of (by omega) (by omega))
      by_cases hn : cs.sum = N
      · have he : (cs.sum == N) = true := by simpa using hn
        have HF : Hid (decide (N ≤ 10) = G) := hide (by rw [HE.out, h1, h2, hn]; simp)
        clear h2 hn
        go_enter Tryz.func44, Tryz.ntmps44
        go_wp2_with (first
          | (go_at_call 68; refine (in_eq h1).mono ?_; rintro e w1 ⟨rfl, rfl⟩)
          | (go_at_call 45; refine (sall17 g hm (by omega) H2).mono ?_; rintro e w1 ⟨rfl, rfl⟩)
          | (go_at_call 69; refine (ssum17 g hm (by omega) HS).mono ?_; rintro e w1 ⟨rfl, rfl⟩))
        go_ret
        exact ⟨ret_bool HF.out, rfl⟩
      · have he : (cs.sum == N) = false := by simpa using hn
        have HF : Hid (false = G) := hide (by rw [HE.out, h1, h2]; simp [hn])
        clear h2 hn
        go_enter Tryz.func44, Tryz.ntmps44
        go_wp2_with (first
          | (go_at_call 68; refine (in_eq h1).mono ?_; rintro e w1 ⟨rfl, rfl⟩)
          | (go_at_call 45; refine (sall17 g hm (by omega) H2).mono ?_; rintro e w1 ⟨rfl, rfl⟩)
          | (go_at_call 69; refine (ssum17 g hm (by omega) HS).mono ?_; rintro e w1 ⟨rfl, rfl⟩))
        go_ret
        exact ⟨ret_bool HF.out, rfl⟩
theorem scnt_eq {b : Option Addr} {m d : Nat} {N : Int} {cs : List Int} {w : World} {r : Bool} (g : Hid (ARow w b cs)) (hm : Hid (cs.length = m)) (hr : Hid ((Hs.cntB cs && decide (cs.sum = N)) = r)) :
    Calls Tryz.prog 44 #[.slice b m d, .int .i64 N] w fun e w' => e = .returned (.bool r) ∧ w' = w := hr.out ▸ scnt_any g hm
set_option maxHeartbeats 1000000 in
theorem sm17_some (xs ys : List Int) (b o c b' o' c' n : Nat) (w : World) (hx : Hid (xs.length = n)) (hy : Hid (ys.length = n)) (hl : n ≤ 4000000000000) (h1 : ∀ i, i < xs.length → w.cell? ⟨b, o + i, none⟩ = some (.int .i64 (xs.getD i 0))) (h2 : ∀ i, i < ys.length → w.cell? ⟨b', o' + i, none⟩ = some (.int .i64 (ys.getD i 0))) :
    Calls Tryz.prog 70 #[.slice (some ⟨b, o, none⟩) n c, .slice (some ⟨b', o', none⟩) n c'] w fun e w' => e = .returned (.bool (decide (xs = ys))) ∧ ∃ m, w' = w.drewN m := by
  have hne : ((n : Int) != (n : Int)) = false := by simp
  rw [hx.out] at h1
  rw [hy.out] at h2
  have H1 := hide h1
  have H2 := hide h2
  clear h1 h2
  go_enter Tryz.func70, Tryz.ntmps70
  go_wp2_with fail
  go_loopw [13] (fun s wr => ∃ k : Nat, s = .int .i64 k ∧ k ≤ n ∧ Hid (∀ j, j < k → xs.getD j 0 = ys.getD j 0) ∧ ∃ m, wr = w.drewN m) (fun s _ => n - (intOf s).toNat)
  case atStart => exact ⟨0, rfl, Nat.zero_le _, hide (fun j h => by omega), 0, rfl⟩
  case round =>
    obtain ⟨k, rfl, hk, HE, m, rfl⟩ := hrel
    by_cases hlt : k < n
    · have r1 := H1.out k hlt
      have r2 := H2.out k hlt
      have i0 : (0 : Int) ≤ (k : Int) := by omega
      have i1 : (k : Int) < (n : Int) := by omega
      by_cases he : xs.getD k 0 = ys.getD k 0
      · have HE2 : Hid (∀ j, j < k + 1 → xs.getD j 0 = ys.getD j 0) := hide (fun j hj => by
          by_cases e : j = k
          · subst e; exact he
          · exact HE.out j (by omega))
        rw [← he] at r2
        generalize xs.getD k 0 = x at *
        have hxx : (x != x) = false := by simp
        clear he HE
        go_wp2_with fail
        go_region
        go_wp2_with fail
        exact ⟨⟨k + 1, by go_num, by omega, HE2, m + 1, rfl⟩, by simp only [intOf]; omega⟩
      · have HD : Hid (false = decide (xs = ys)) := hide (by
          symm; rw [decide_eq_false_iff_not]
          exact fun e => he (by rw [e]))
        have hxx : (xs.getD k 0 != ys.getD k 0) = true := by simpa using he
        generalize xs.getD k 0 = x at *
        generalize ys.getD k 0 = y at *
        clear he HE
        go_wp2_with fail
        go_region
        go_wp2_with fail
        go_ret
        exact ⟨ret_bool HD.out, m + 1, rfl⟩
    · have HD : Hid (true = decide (xs = ys)) := hide (by
        symm; rw [decide_eq_true_eq]
        exact eq_upto17 hx.out hy.out (fun j hj => HE.out j (by omega)))
      go_wp2_with fail
      go_ret
      exact ⟨ret_bool HD.out, m, rfl⟩
theorem sm17 {a b : Option Addr} {c d n : Nat} {xs ys : List Int} {w : World} (hx : Hid (xs.length = n)) (hy : Hid (ys.length = n)) (h0 : 1 ≤ n) (hl : n ≤ 1048576) (h1 : ARow w a xs) (h2 : ARow w b ys) :
    Calls Tryz.prog 70 #[.slice a n c, .slice b n d] w fun e w' => e = .returned (.bool (decide (xs = ys))) ∧ Below w.heap.size w w' := by
  have lx := hx.out
  have ly := hy.out
  rcases h1 with rfl | ⟨b1, o1, rfl, hb1, c1⟩
  · simp at lx; omega
  · rcases h2 with rfl | ⟨b2, o2, rfl, hb2, c2⟩
    · simp at ly; omega
    · exact (sm17_some xs ys b1 o1 c b2 o2 d n w hx hy (by omega) c1 c2).mono fun e w' ⟨h, m, hw⟩ => ⟨h, hw ▸ below_drewN (Below.refl _ _) m⟩
set_option maxHeartbeats 4000000 in
theorem sfit_any {b o : Option Addr} {m q d e : Nat} {cs os : List Int} {w : World} (HM : Hid (cs.length = m)) (m1 : 1 ≤ m) (m8 : m ≤ 8) (HQ : Hid (os.length = q)) (hq : q ≤ 1048576) (HB : Hid (ARow w b cs)) (HO : Hid (ARow w o os)) :
    Calls Tryz.prog 46 #[.slice b m d, .slice o q e] w fun e w' => e = .returned (.bool (Hs.fitB cs os)) ∧ Below w.heap.size w w' := by
  have hmk := makeI_run m (by omega)
  have HM0 := hide (made_own w m (by omega))
  have HW := hide (below_new w (.cells (madeCells #[.int .i64 0] m) 3))
  have hz1 : (w.alloc (.cells (madeCells #[.int .i64 0] m) 3)).heap.size = w.heap.size + 1 := by simp
  have HZ := hide hz1
  have HYES : Hid (∀ ys, ys = Hs.ownN m os q → (∀ i, i < q → Pf.inB (os.getD i 0) 0 ((m : Int) - 1) = true) → decide (ys = cs) = Hs.fitB cs os) := hide fun ys h1 h2 => by
    unfold Hs.fitB
    rw [HM.out, Pf.allB_of (xs := os) (by rw [HQ.out]; exact h2), HQ.out, h1]; rfl
  clear hz1
  go_enter Tryz.func46, Tryz.ntmps46
  go_wp2_with fail
  generalize hW1 : w.alloc (.cells (madeCells #[.int .i64 0] m) 3) = W1 at *
  clear hW1 hmk
  go_loopw [4, 7, 13] (fun s2 _ s wr => ∃ (k : Nat) (ys : List Int), s2 = .bool false ∧ s = .int .i64 k ∧ k ≤ q ∧ Hid (ys = Hs.ownN m os k) ∧ Hid (∀ i, i < k → Pf.inB (os.getD i 0) 0 ((m : Int) - 1) = true) ∧ Hid (wr.ownsRow w.heap.size 3 1 (.slice (some ⟨w.heap.size, 0, none⟩) m m) m (ints ys)) ∧ Hid (Below w.heap.size w wr)) (fun _ _ s _ => q - (intOf s).toNat)
  case atStart => exact ⟨0, List.replicate m 0, rfl, rfl, Nat.zero_le _, hide rfl, hide fun i hi => absurd hi (Nat.not_lt_zero _), HM0, HW⟩
  case round =>
    obtain ⟨k, ys, rfl, rfl, hk, HY, HAL, HOW, HBB⟩ := hrel
    by_cases hlt : k < q
    · obtain ⟨ba, oa, rfl, r1⟩ := (HO.out.below HBB.out).at (i := k) (by rw [HQ.out]; exact hlt)
      have i0 : (0 : Int) ≤ (k : Int) := by omega
      have i1 : (k : Int) < (q : Int) := by omega
      generalize hx : os.getD k 0 = x at r1
      cases hin : Pf.inB x 0 ((m : Int) - 1)
      · have HF : Hid (false = Hs.fitB cs os) := hide (Hs.fit_no (i := k) (by rw [HQ.out]; exact hlt) (by rw [hx, HM.out]; exact hin)).symm
        clear hx
        by_cases hx0 : x < 0
        · go_wp2_with fail
          go_ret
          exact ⟨ret_bool HF.out, HBB.out⟩
        · have hx1 : (m : Int) ≤ x := by have := Pf.inB_no hin; omega
          go_wp2_with fail
          go_ret
          exact ⟨ret_bool HF.out, HBB.out⟩
      · obtain ⟨hx0, hx1⟩ := Pf.inB_yes hin
        obtain ⟨j, rfl⟩ := Int.eq_ofNat_of_zero_le hx0
        have j0 : (0 : Int) ≤ (j : Int) := by omega
        have j1 : (j : Int) < (m : Int) := by omega
        have j2 : ¬ (j : Int) < 0 := by omega
        have j3 : ¬ (m : Int) ≤ (j : Int) := by omega
        have hyl : ys.length = m := by rw [HY.out, Hs.ownN_len]
        have HY1 : Hid (ys.set j (ys.getD j 0 + 1) = Hs.ownN m os (k + 1)) := hide (by rw [HY.out]; show _ = List.set _ _ _; rw [hx]; rfl)
        have HAL1 : Hid (∀ i, i < k + 1 → Pf.inB (os.getD i 0) 0 ((m : Int) - 1) = true) := hide fun i hi => by
          by_cases e : i = k
          · subst e; rw [hx]; exact hin
          · exact HAL.out i (by omega)
        have hyb := Hs.ownN_le (m := m) (os := os) k j
        rw [← HY.out] at hyb
        have c0 : wr.cell? ⟨w.heap.size, j, none⟩ = some (.int .i64 (ys.getD j 0)) := by rw [HOW.out.cellAt j (by omega), ints_get ys j (by omega)]
        have f0 := HOW.out.frozenAt j
        obtain ⟨st1, st2⟩ := HOW.out.stored j (.int .i64 (ys.getD j 0 + 1))
        rw [ints_set] at st1
        have HST := hide st1
        have HB3 := hide (HBB.out.setCell (p := ⟨w.heap.size, j, none⟩) (Nat.le_refl _) (.int .i64 (ys.getD j 0 + 1)))
        generalize ys.getD j 0 = y at *
        have hy1 : wrap64 (y + 1) = y + 1 := wrap_id _ (by omega) (by omega)
        clear hx st1 st2 hin
        go_wp2_with fail
        go_roundw
        case rel => exact ⟨k + 1, ys.set j (y + 1), rfl, by go_num, by omega, HY1, HAL1, HST, HB3⟩
        case measure => simp only [intOf]; omega
    · have hke : k = q := by omega
      subst hke
      have hyl : ys.length = m := by rw [HY.out, Hs.ownN_len]
      have hrow := (arow_owns hyl.symm HOW.out)
      have HE := hide (sm17 (c := m) (d := d) (hide hyl) HM m1 (by omega) hrow (HB.out.below HBB.out))
      have HF := hide (HYES.out ys HY.out HAL.out)
      clear hrow
      go_wp2_with fail
      refine HE.out.mono ?_
      rintro _ w2 ⟨rfl, hb2⟩
      have HBf := hide (HBB.out.trans (hb2.mono HBB.out.size))
      clear hb2
      go_wp2_with fail
      go_ret
      exact ⟨ret_bool HF.out, HBf.out⟩
theorem sfit_eq {b o : Option Addr} {m q d e : Nat} {cs os : List Int} {w : World} {r : Bool} (HM : Hid (cs.length = m)) (m1 : 1 ≤ m) (m8 : m ≤ 8) (HQ : Hid (os.length = q)) (hq : q ≤ 1048576) (HB : Hid (ARow w b cs)) (HO : Hid (ARow w o os)) (hr : Hid (Hs.fitB cs os = r)) :
    Calls Tryz.prog 46 #[.slice b m d, .slice o q e] w fun e w' => e = .returned (.bool r) ∧ Below w.heap.size w w' := hr.out ▸ sfit_any HM m1 m8 HQ hq HB HO
end Go.Proofs.YtlbagigghpiifabGreat
namespace Go.Proofs.YtlbagigghpiifabGreat
open Go.RowKit

namespace Hs
theorem house_split (ws cs os : List Int) : houseB ws cs os = (slotsB cs ws && fitB cs os) := rfl
theorem house_len {ws cs os : List Int} (h : houseB ws cs os = true) : os.length = ws.length ∧ 1 ≤ cs.length ∧ cs.length ≤ 8 ∧ ws.length ≤ 10 := by
  rw [house_split, Bool.and_eq_true] at h
  obtain ⟨h1, h2, _, h4⟩ := slotsB_yes h.1
  obtain ⟨h5, h6, _⟩ := cntB_yes h1
  have := fit_len h.2
  exact ⟨by omega, h5, h6, h4⟩
theorem house_model {ws cs os : List Int} {n q : Nat} (hn : ws.length = n) (hq : os.length = q) :
    houseB ws cs os = ((cntB cs && decide (cs.sum = (n : Int))) && (Pf.allB ws 0 1000 && (decide (q = n) && fitB cs os))) := by
  cases h : houseB ws cs os
  · symm
    cases h1 : cntB cs && decide (cs.sum = (n : Int))
    · rfl
    · cases h2 : Pf.allB ws 0 1000
      · rfl
      · cases h3 : fitB cs os
        · simp
        · rw [house_split, h3, Bool.and_true] at h
          unfold slotsB at h
          rw [hn, h1, h2] at h
          cases h
  · obtain ⟨hl, _⟩ := house_len h
    rw [house_split, Bool.and_eq_true] at h
    have h1 := h.1
    unfold slotsB at h1
    rw [hn, Bool.and_eq_true] at h1
    rw [h1.1, h1.2, h.2, show q = n by omega]
    simp
end Hs
set_option maxHeartbeats 1000000 in
theorem gh17_any {a b o : Option Addr} {n m q c d e : Nat} {ws cs os : List Int} {w : World} (HN : Hid (ws.length = n)) (HM : Hid (cs.length = m)) (HQ : Hid (os.length = q)) (hq : q ≤ 1048576) (HA : Hid (ARow w a ws)) (HB : Hid (ARow w b cs)) (HO : Hid (ARow w o os)) :
    Calls Tryz.prog 34 #[.agg #[.slice a n c, .slice b m d, .slice o q e]] w fun e w' => e = .returned (.bool (Hs.houseB ws cs os)) ∧ Below w.heap.size w w' := by
  have hb0 := below_new w (.cells #[.slice a n c, .slice b m d, .slice o q e] 40)
  have HX := hide (HBox.new w (.slice a n c) (.slice b m d) (.slice o q e) 40)
  have HA1 := hide (HA.out.below hb0)
  have HB1 := hide (HB.out.below hb0)
  have HO1 := hide (HO.out.below hb0)
  have HB0 := hide hb0
  have HE := hide (Hs.house_split ws cs os)
  clear hb0
  generalize Hs.houseB ws cs os = G at *
  cases h : Hs.slotsB cs ws
  · have HF : Hid (false = G) := hide (by rw [HE.out, h]; rfl)
    have H := hide h
    clear h
    go_enter Tryz.func34, Tryz.ntmps34
    go_wp2_with fail
    refine (hs_eq HN HM HA1 HB1 H).mono ?_
    rintro _ w1 ⟨rfl, hb1⟩
    have HBf := hide (HB0.out.trans (hb1.mono HB0.out.size))
    clear hb1
    go_wp2_with fail
    go_ret
    exact ⟨ret_bool HF.out, HBf.out⟩
  · have HF : Hid (Hs.fitB cs os = G) := hide (by rw [HE.out, h]; rfl)
    have H := hide h
    obtain ⟨m1, m8, _⟩ := cnt_few HM (Hs.slotsB_yes h).1
    clear h
    go_enter Tryz.func34, Tryz.ntmps34
    go_wp2_with fail
    refine (hs_eq HN HM HA1 HB1 H).mono ?_
    rintro _ w1 ⟨rfl, hb1⟩
    obtain ⟨x0, x1, x2, _⟩ := HX.out.below hb1
    have HB2 := hide (HB1.out.below hb1)
    have HO2 := hide (HO1.out.below hb1)
    have HBf := hide (HB0.out.trans (hb1.mono HB0.out.size))
    clear hb1
    go_wp2_with fail
    refine (ho_eq HM m1 m8 HQ hq HB2 HO2 HF).mono ?_
    rintro _ w2 ⟨rfl, hb2⟩
    have HBg := hide (HBf.out.trans (hb2.mono HBf.out.size))
    clear hb2
    go_wp2_with fail
    go_ret
    exact ⟨rfl, HBg.out⟩
theorem gh17_eq {a b o : Option Addr} {n m q c d e : Nat} {ws cs os : List Int} {w : World} {r : Bool} (HN : Hid (ws.length = n)) (HM : Hid (cs.length = m)) (HQ : Hid (os.length = q)) (hq : q ≤ 1048576) (HA : Hid (ARow w a ws)) (HB : Hid (ARow w b cs)) (HO : Hid (ARow w o os)) (hr : Hid (Hs.houseB ws cs os = r)) :
    Calls Tryz.prog 34 #[.agg #[.slice a n c, .slice b m d, .slice o q e]] w fun e w' => e = .returned (.bool r) ∧ Below w.heap.size w w' := hr.out ▸ gh17_any HN HM HQ hq HA HB HO
set_option maxHeartbeats 2000000 in
theorem sgh17_any {a b o : Option Addr} {n m q c d e : Nat} {ws cs os : List Int} {w : World} (HN : Hid (ws.length = n)) (HM : Hid (cs.length = m)) (hn : n ≤ 1048576) (HQ : Hid (os.length = q)) (hq : q ≤ 1048576) (HA : Hid (ARow w a ws)) (HB : Hid (ARow w b cs)) (HO : Hid (ARow w o os)) :
    Calls Tryz.prog 23 #[.agg #[.slice a n c, .slice b m d, .slice o q e]] w fun e w' => e = .returned (.bool (Hs.houseB ws cs os)) ∧ Below w.heap.size w w' := by
  have hb0 := below_new w (.cells #[.slice a n c, .slice b m d, .slice o q e] 40)
  have HX := hide (HBox.new w (.slice a n c) (.slice b m d) (.slice o q e) 40)
  have HA1 := hide (HA.out.below hb0)
  have HB1 := hide (HB.out.below hb0)
  have HO1 := hide (HO.out.below hb0)
  have HB0 := hide hb0
  have HE := hide (Hs.house_model (cs := cs) HN.out HQ.out)
  clear hb0
  generalize Hs.houseB ws cs os = G at *
  cases h : (Hs.cntB cs && decide (cs.sum = (n : Int)))
  · have HF : Hid (false = G) := hide (by rw [HE.out, h]; rfl)
    have H := hide h
    clear h
    go_enter Tryz.func23, Tryz.ntmps23
    go_wp2_with fail
    refine (scnt_eq HB1 HM H).mono ?_
    rintro _ w1 ⟨rfl, rfl⟩
    go_wp2_with fail
    go_ret
    exact ⟨ret_bool HF.out, HB0.out⟩
  · have H := hide h
    rw [Bool.and_eq_true, decide_eq_true_eq] at h
    obtain ⟨m1, m8, _⟩ := cnt_few HM h.1
    clear h
    cases h2 : Pf.allB ws 0 1000
    · have HF : Hid (false = G) := hide (by rw [HE.out, h2, Bool.false_and, Bool.and_false])
      have H2 := hide h2
      clear h2
      go_enter Tryz.func23, Tryz.ntmps23
      go_wp2_with fail
      refine (scnt_eq HB1 HM H).mono ?_
      rintro _ w1 ⟨rfl, rfl⟩
      go_wp2_with fail
      refine (sall17 HA1 HN (by omega) H2).mono ?_
      rintro _ w1 ⟨rfl, rfl⟩
      go_wp2_with fail
      go_ret
      exact ⟨ret_bool HF.out, HB0.out⟩
    · have H2 := hide h2
      by_cases hqn : q = n
      · subst hqn
        have he : ((q : Int) == (q : Int)) = true := by simp
        have HF : Hid (Hs.fitB cs os = G) := hide (by rw [HE.out, H.out, h2]; simp)
        clear h2
        go_enter Tryz.func23, Tryz.ntmps23
        go_wp2_with fail
        refine (scnt_eq HB1 HM H).mono ?_
        rintro _ w1 ⟨rfl, rfl⟩
        go_wp2_with fail
        refine (sall17 HA1 HN (by omega) H2).mono ?_
        rintro _ w1 ⟨rfl, rfl⟩
        go_wp2_with fail
        refine (sfit_eq HM m1 m8 HQ hq HB1 HO1 HF).mono ?_
        rintro _ w2 ⟨rfl, hb2⟩
        have HBg := hide (HB0.out.trans (hb2.mono HB0.out.size))
        clear hb2
        go_wp2_with fail
        go_ret
        exact ⟨rfl, HBg.out⟩
      · have he : ((q : Int) == (n : Int)) = false := by simp; omega
        have HF : Hid (false = G) := hide (by rw [HE.out, H.out, h2]; simp [hqn])
        clear h2
        go_enter Tryz.func23, Tryz.ntmps23
        go_wp2_with fail
        refine (scnt_eq HB1 HM H).mono ?_
        rintro _ w1 ⟨rfl, rfl⟩
        go_wp2_with fail
        refine (sall17 HA1 HN (by omega) H2).mono ?_
        rintro _ w1 ⟨rfl, rfl⟩
        go_wp2_with fail
        go_ret
        exact ⟨ret_bool HF.out, HB0.out⟩
theorem sgh17_eq {a b o : Option Addr} {n m q c d e : Nat} {ws cs os : List Int} {w : World} {r : Bool} (HN : Hid (ws.length = n)) (HM : Hid (cs.length = m)) (hn : n ≤ 1048576) (HQ : Hid (os.length = q)) (hq : q ≤ 1048576) (HA : Hid (ARow w a ws)) (HB : Hid (ARow w b cs)) (HO : Hid (ARow w o os)) (hr : Hid (Hs.houseB ws cs os = r)) :
    Calls Tryz.prog 23 #[.agg #[.slice a n c, .slice b m d, .slice o q e]] w fun e w' => e = .returned (.bool r) ∧ Below w.heap.size w w' := hr.out ▸ sgh17_any HN HM hn HQ hq HA HB HO
/-- A day in a variable: its house, and how often each good is picked. -/
def DyBox (w : World) (B : Nat) (v0 v1 v2 v3 : Value) : Prop := w.cell? ⟨B, 0, none⟩ = some v0 ∧ w.cell? ⟨B, 1, none⟩ = some v1 ∧ w.cell? ⟨B, 2, none⟩ = some v2 ∧ w.cell? ⟨B, 3, none⟩ = some v3 ∧ B < w.heap.size
theorem DyBox.new (w : World) (v0 v1 v2 v3 : Value) (t : TypeId) : DyBox (w.alloc (.cells #[v0, v1, v2, v3] t)) w.heap.size v0 v1 v2 v3 := ⟨by simp [go_sem], by simp [go_sem], by simp [go_sem], by simp [go_sem], by simp⟩
theorem DyBox.below {w w' : World} {B : Nat} {v0 v1 v2 v3 : Value} (h : DyBox w B v0 v1 v2 v3) (hb : Below w.heap.size w w') : DyBox w' B v0 v1 v2 v3 :=
  ⟨(hb.cell h.2.2.2.2).trans h.1, (hb.cell h.2.2.2.2).trans h.2.1, (hb.cell h.2.2.2.2).trans h.2.2.1, (hb.cell h.2.2.2.2).trans h.2.2.2.1, Nat.lt_of_lt_of_le h.2.2.2.2 hb.size⟩
set_option maxHeartbeats 1000000 in
theorem ip17_any {a b o p : Option Addr} {n m q r c d e f : Nat} {cs ps : List Int} {w : World} (HM : Hid (cs.length = m)) (HR : Hid (ps.length = r)) (HP : Hid (ARow w p ps)) :
    Calls Tryz.prog 53 #[.agg #[.slice a n c, .slice b m d, .slice o q e, .slice p r f]] w fun e w' => e = .returned (.bool (Sh.flowB ps && decide (ps.length = cs.length))) ∧ Below w.heap.size w w' := by
  have hb0 := below_new w (.cells #[.slice a n c, .slice b m d, .slice o q e, .slice p r f] 90)
  have HX := hide (DyBox.new w (.slice a n c) (.slice b m d) (.slice o q e) (.slice p r f) 90)
  have HP1 := hide (HP.out.below hb0)
  have HB0 := hide hb0
  have HE : Hid ((Sh.flowB ps && decide (ps.length = cs.length)) = (Sh.flowB ps && decide (r = m))) := hide (by rw [HM.out, HR.out])
  clear hb0
  generalize (Sh.flowB ps && decide (ps.length = cs.length)) = G at *
  cases h : Sh.flowB ps
  · have HF : Hid (false = G) := hide (by rw [HE.out, h]; rfl)
    have H := hide h
    clear h
    go_enter Tryz.func53, Tryz.ntmps53
    go_wp2_with fail
    refine (flows_eq HP1 HR H).mono ?_
    rintro _ w1 ⟨rfl, rfl⟩
    go_wp2_with fail
    go_ret
    exact ⟨ret_bool HF.out, HB0.out⟩
  · have HF : Hid (((r : Int) == (m : Int)) = G) := hide (by rw [HE.out, h, Bool.true_and, Bool.eq_iff_iff]; simp; omega)
    have H := hide h
    clear h
    go_enter Tryz.func53, Tryz.ntmps53
    go_wp2_with fail
    refine (flows_eq HP1 HR H).mono ?_
    rintro _ w1 ⟨rfl, rfl⟩
    go_wp2_with fail
    go_ret
    exact ⟨ret_bool HF.out, HB0.out⟩
theorem ip17_eq {a b o p : Option Addr} {n m q r c d e f : Nat} {cs ps : List Int} {w : World} {g : Bool} (HM : Hid (cs.length = m)) (HR : Hid (ps.length = r)) (HP : Hid (ARow w p ps)) (hr : Hid ((Sh.flowB ps && decide (ps.length = cs.length)) = g)) :
    Calls Tryz.prog 53 #[.agg #[.slice a n c, .slice b m d, .slice o q e, .slice p r f]] w fun e w' => e = .returned (.bool g) ∧ Below w.heap.size w w' := hr.out ▸ ip17_any HM HR HP
set_option maxHeartbeats 1000000 in
theorem sall17_any {p b a : Option Addr} {n m r c d f : Nat} {ps cs ws : List Int} {w : World} (HR : Hid (ps.length = r)) (HM : Hid (cs.length = m)) (HN : Hid (ws.length = n)) (hn : n ≤ 1048576) (HP : Hid (ARow w p ps)) (HB : Hid (ARow w b cs)) (HA : Hid (ARow w a ws)) :
    Calls Tryz.prog 47 #[.slice p r f, .slice b m d, .slice a n c] w fun e w' => e = .returned (.bool (Hs.dayB ps cs ws)) ∧ w' = w := by
  have HE : Hid (Hs.dayB ps cs ws = (Sh.flowB ps && (decide (r = m) && ((Hs.cntB cs && decide (cs.sum = (n : Int))) && Pf.allB ws 0 1000)))) := hide (by unfold Hs.dayB Hs.slotsB; rw [HM.out, HR.out, HN.out, Bool.and_assoc])
  generalize Hs.dayB ps cs ws = G at *
  cases h : Sh.flowB ps
  · have HF : Hid (false = G) := hide (by rw [HE.out, h]; rfl)
    have H := hide h
    clear h
    go_enter Tryz.func47, Tryz.ntmps47
    go_wp2_with (go_at_call 43; refine (sflows_eq HP HR H).mono ?_; rintro e w1 ⟨rfl, rfl⟩)
    go_ret
    exact ⟨ret_bool HF.out, rfl⟩
  · have H := hide h
    by_cases hm : m = r
    · have he : ((m : Int) == (r : Int)) = true := by simp; omega
      cases h2 : (Hs.cntB cs && decide (cs.sum = (n : Int)))
      · have HF : Hid (false = G) := hide (by rw [HE.out, h, h2]; simp)
        have H2 := hide h2
        clear h h2 hm
        go_enter Tryz.func47, Tryz.ntmps47
        go_wp2_with (first
          | (go_at_call 43; refine (sflows_eq HP HR H).mono ?_; rintro e w1 ⟨rfl, rfl⟩)
          | (go_at_call 44; refine (scnt_eq HB HM H2).mono ?_; rintro e w1 ⟨rfl, rfl⟩))
        go_ret
        exact ⟨ret_bool HF.out, rfl⟩
      · have HF : Hid (Pf.allB ws 0 1000 = G) := hide (by rw [HE.out, h, h2, hm]; simp)
        have H2 := hide h2
        clear h h2 hm
        go_enter Tryz.func47, Tryz.ntmps47
        go_wp2_with (first
          | (go_at_call 43; refine (sflows_eq HP HR H).mono ?_; rintro e w1 ⟨rfl, rfl⟩)
          | (go_at_call 44; refine (scnt_eq HB HM H2).mono ?_; rintro e w1 ⟨rfl, rfl⟩)
          | (go_at_call 45; refine (sall17 HA HN (by omega) HF).mono ?_; rintro e w1 ⟨rfl, rfl⟩))
        go_ret
        exact ⟨rfl, rfl⟩
    · have he : ((m : Int) == (r : Int)) = false := by simp; omega
      have HF : Hid (false = G) := hide (by rw [HE.out, h]; simp [show ¬ r = m from fun e => hm e.symm])
      clear h hm
      go_enter Tryz.func47, Tryz.ntmps47
      go_wp2_with (go_at_call 43; refine (sflows_eq HP HR H).mono ?_; rintro e w1 ⟨rfl, rfl⟩)
      go_ret
      exact ⟨ret_bool HF.out, rfl⟩
theorem sall17_eq {p b a : Option Addr} {n m r c d f : Nat} {ps cs ws : List Int} {w : World} {g : Bool} (HR : Hid (ps.length = r)) (HM : Hid (cs.length = m)) (HN : Hid (ws.length = n)) (hn : n ≤ 1048576) (HP : Hid (ARow w p ps)) (HB : Hid (ARow w b cs)) (HA : Hid (ARow w a ws)) (hr : Hid (Hs.dayB ps cs ws = g)) :
    Calls Tryz.prog 47 #[.slice p r f, .slice b m d, .slice a n c] w fun e w' => e = .returned (.bool g) ∧ w' = w := hr.out ▸ sall17_any HR HM HN hn HP HB HA
end Go.Proofs.YtlbagigghpiifabGreat
namespace Go.Proofs.YtlbagigghpiifabGreat
open Go.RowKit

set_option maxHeartbeats 400000 in
theorem eqFrac_same (n d : Int) (w : World) :
    Calls Tryz.prog 11 #[.agg #[.int .i64 n, .int .i64 d], .agg #[.int .i64 n, .int .i64 d]] w fun e w' => e = .returned (.bool true) ∧ Below w.heap.size w w' := by
  go_enter Tryz.func11, Tryz.ntmps11
  go_wp2
  go_ret
  exact ⟨rfl, ((Below.refl _ _).alloc (Nat.le_refl _) _).alloc (by simp) _⟩

theorem lt_of_some {W : World} {b o : Nat} (h : (W.cell? ⟨b, o, none⟩).isSome = true) : b < W.heap.size := by
  apply Nat.lt_of_not_le
  intro hle
  have : W.heap[b]? = none := by simp; omega
  simp [World.cell?, this] at h
theorem bsome {W w1 : World} (hb : Below W.heap.size W w1) : (∀ b o, (W.cell? ⟨b, o, none⟩).isSome = true → w1.cell? ⟨b, o, none⟩ = W.cell? ⟨b, o, none⟩) ∧ (∀ b o, (W.cell? ⟨b, o, none⟩).isSome = true → w1.frozen? ⟨b, o, none⟩ = W.frozen? ⟨b, o, none⟩) :=
  ⟨fun b o h => hb.cell (p := ⟨b, o, none⟩) (lt_of_some h), fun b o h => hb.frozen (p := ⟨b, o, none⟩) (lt_of_some h)⟩
theorem new_var {W w1 : World} (hb : Below W.heap.size W w1) (b : Nat) (v0 v1 : Value) (h0 : W.cell? ⟨b, 0, none⟩ = some v0) (h1 : W.cell? ⟨b, 1, none⟩ = some v1) (h2 : W.frozen? ⟨b, 0, none⟩ = false) (h3 : W.frozen? ⟨b, 1, none⟩ = false) :
    w1.cell? ⟨b, 0, none⟩ = some v0 ∧ w1.cell? ⟨b, 1, none⟩ = some v1 ∧ w1.frozen? ⟨b, 0, none⟩ = false ∧ w1.frozen? ⟨b, 1, none⟩ = false := by
  obtain ⟨hc, hf⟩ := bsome hb
  exact ⟨(hc _ _ (by rw [h0]; rfl)).trans h0, (hc _ _ (by rw [h1]; rfl)).trans h1, (hf _ _ (by rw [h0]; rfl)).trans h2, (hf _ _ (by rw [h1]; rfl)).trans h3⟩
theorem new_first {w w1 : World} {a b : Obj} {v0 v1 : Value} {t : TypeId} (hb : Below (((w.alloc a).alloc b).alloc (.cells #[v0, v1] t)).drew.heap.size (((w.alloc a).alloc b).alloc (.cells #[v0, v1] t)).drew w1) :
    w1.cell? ⟨w.heap.size + 1 + 1, 0, none⟩ = some v0 ∧ w1.cell? ⟨w.heap.size + 1 + 1, 1, none⟩ = some v1 ∧ w1.frozen? ⟨w.heap.size + 1 + 1, 0, none⟩ = false ∧ w1.frozen? ⟨w.heap.size + 1 + 1, 1, none⟩ = false :=
  new_var hb _ v0 v1 (by simp [go_sem]) (by simp [go_sem]) (by simp [go_sem]) (by simp [go_sem])
theorem last_cell {W w1 : World} (hb : Below W.heap.size W w1) (o : Nat) : (W.cell? ⟨W.heap.size - 1, o, none⟩).isSome = true → w1.cell? ⟨W.heap.size - 1, o, none⟩ = W.cell? ⟨W.heap.size - 1, o, none⟩ := (bsome hb).1 _ _
theorem last_frozen {W w1 : World} (hb : Below W.heap.size W w1) (o : Nat) : (W.cell? ⟨W.heap.size - 1, o, none⟩).isSome = true → w1.frozen? ⟨W.heap.size - 1, o, none⟩ = W.frozen? ⟨W.heap.size - 1, o, none⟩ := (bsome hb).2 _ _
theorem set1 {W : World} {b i : Nat} {x : Value} (h : (W.cell? ⟨b, i, none⟩).isSome = true) : (W.setCell ⟨b, i, none⟩ x).cell? ⟨b, i, none⟩ = some x := by
  obtain ⟨v, hv⟩ := Option.isSome_iff_exists.1 h
  exact World.cell?_setCell_same _ _ _ hv
theorem set2 {W : World} {b : Nat} {x y : Value} (h0 : (W.cell? ⟨b, 0, none⟩).isSome = true) (h1 : (W.cell? ⟨b, 1, none⟩).isSome = true) :
    ((W.setCell ⟨b, 0, none⟩ x).setCell ⟨b, 1, none⟩ y).cell? ⟨b, 0, none⟩ = some x ∧ ((W.setCell ⟨b, 0, none⟩ x).setCell ⟨b, 1, none⟩ y).cell? ⟨b, 1, none⟩ = some y ∧ b < ((W.setCell ⟨b, 0, none⟩ x).setCell ⟨b, 1, none⟩ y).heap.size := by
  refine ⟨?_, ?_, ?_⟩
  · rw [World.cell?_setCell_other _ _ _ _ (by simp)]; exact set1 h0
  · exact set1 (by rw [World.cell?_setCell_other _ _ _ _ (by simp)]; exact h1)
  · simpa using lt_of_some h0
theorem held_below {w w1 w2 : World} {n1 d1 n2 d2 : Int}
    (s : w1.cell? ⟨w.heap.size, 0, none⟩ = some (.int .i64 n1) ∧ w1.cell? ⟨w.heap.size, 1, none⟩ = some (.int .i64 d1) ∧ w1.cell? ⟨w.heap.size + 1, 0, none⟩ = some (.int .i64 n2) ∧ w1.cell? ⟨w.heap.size + 1, 1, none⟩ = some (.int .i64 d2) ∧ Below w.heap.size w w1 ∧ w.heap.size + 1 < w1.heap.size)
    (hb : Below w1.heap.size w1 w2) :
    w2.cell? ⟨w.heap.size, 0, none⟩ = some (.int .i64 n1) ∧ w2.cell? ⟨w.heap.size, 1, none⟩ = some (.int .i64 d1) ∧ w2.cell? ⟨w.heap.size + 1, 0, none⟩ = some (.int .i64 n2) ∧ w2.cell? ⟨w.heap.size + 1, 1, none⟩ = some (.int .i64 d2) ∧ Below w.heap.size w w2 ∧ w.heap.size + 1 < w2.heap.size := by
  obtain ⟨s0, s1, s2, s3, s4, s5⟩ := s
  obtain ⟨hc, _⟩ := bcell hb
  exact ⟨(hc _ _ (by omega)).trans s0, (hc _ _ (by omega)).trans s1, (hc _ _ s5).trans s2, (hc _ _ s5).trans s3, s4.trans (hb.mono (by omega)), Nat.lt_of_lt_of_le s5 hb.size⟩
theorem below_alloc_drew (w : World) (o : Obj) : Below w.drew.heap.size w.drew (w.alloc o).drew := (Below.refl _ w.drew).alloc (Nat.le_refl _) o
theorem below_alloc (w : World) (o : Obj) : Below w.heap.size w (w.alloc o) := (Below.refl _ _).alloc (Nat.le_refl _) o
theorem held_start (w : World) (n1 d1 n2 d2 : Int) (t : TypeId) :
    ((w.alloc (.cells #[.int .i64 n1, .int .i64 d1] t)).alloc (.cells #[.int .i64 n2, .int .i64 d2] t)).cell? ⟨w.heap.size, 0, none⟩ = some (.int .i64 n1) ∧ ((w.alloc (.cells #[.int .i64 n1, .int .i64 d1] t)).alloc (.cells #[.int .i64 n2, .int .i64 d2] t)).cell? ⟨w.heap.size, 1, none⟩ = some (.int .i64 d1) ∧ ((w.alloc (.cells #[.int .i64 n1, .int .i64 d1] t)).alloc (.cells #[.int .i64 n2, .int .i64 d2] t)).cell? ⟨w.heap.size + 1, 0, none⟩ = some (.int .i64 n2) ∧ ((w.alloc (.cells #[.int .i64 n1, .int .i64 d1] t)).alloc (.cells #[.int .i64 n2, .int .i64 d2] t)).cell? ⟨w.heap.size + 1, 1, none⟩ = some (.int .i64 d2) ∧ Below w.heap.size w ((w.alloc (.cells #[.int .i64 n1, .int .i64 d1] t)).alloc (.cells #[.int .i64 n2, .int .i64 d2] t)) ∧ w.heap.size + 1 < ((w.alloc (.cells #[.int .i64 n1, .int .i64 d1] t)).alloc (.cells #[.int .i64 n2, .int .i64 d2] t)).heap.size :=
  ⟨by simp, by simp, by simp, by simp, ((Below.refl _ _).alloc (Nat.le_refl _) _).alloc (by simp) _, by simp⟩
theorem held_alloc {w w1 : World} {n1 d1 n2 d2 : Int} {o : Obj}
    (s : w1.cell? ⟨w.heap.size, 0, none⟩ = some (.int .i64 n1) ∧ w1.cell? ⟨w.heap.size, 1, none⟩ = some (.int .i64 d1) ∧ w1.cell? ⟨w.heap.size + 1, 0, none⟩ = some (.int .i64 n2) ∧ w1.cell? ⟨w.heap.size + 1, 1, none⟩ = some (.int .i64 d2) ∧ Below w.heap.size w w1 ∧ w.heap.size + 1 < w1.heap.size) :
    (w1.alloc o).cell? ⟨w.heap.size, 0, none⟩ = some (.int .i64 n1) ∧ (w1.alloc o).cell? ⟨w.heap.size, 1, none⟩ = some (.int .i64 d1) ∧ (w1.alloc o).cell? ⟨w.heap.size + 1, 0, none⟩ = some (.int .i64 n2) ∧ (w1.alloc o).cell? ⟨w.heap.size + 1, 1, none⟩ = some (.int .i64 d2) ∧ Below w.heap.size w (w1.alloc o) ∧ w.heap.size + 1 < (w1.alloc o).heap.size := held_below s (below_alloc _ _)
theorem held_drew {w w1 : World} {n1 d1 n2 d2 : Int}
    (s : w1.cell? ⟨w.heap.size, 0, none⟩ = some (.int .i64 n1) ∧ w1.cell? ⟨w.heap.size, 1, none⟩ = some (.int .i64 d1) ∧ w1.cell? ⟨w.heap.size + 1, 0, none⟩ = some (.int .i64 n2) ∧ w1.cell? ⟨w.heap.size + 1, 1, none⟩ = some (.int .i64 d2) ∧ Below w.heap.size w w1 ∧ w.heap.size + 1 < w1.heap.size) :
    w1.drew.cell? ⟨w.heap.size, 0, none⟩ = some (.int .i64 n1) ∧ w1.drew.cell? ⟨w.heap.size, 1, none⟩ = some (.int .i64 d1) ∧ w1.drew.cell? ⟨w.heap.size + 1, 0, none⟩ = some (.int .i64 n2) ∧ w1.drew.cell? ⟨w.heap.size + 1, 1, none⟩ = some (.int .i64 d2) ∧ Below w.heap.size w w1.drew ∧ w.heap.size + 1 < w1.drew.heap.size := held_below s ((Below.refl _ _).drew)
theorem held_set {w w1 : World} {n1 d1 n2 d2 : Int} {b i : Nat} {v : Value}
    (s : w1.cell? ⟨w.heap.size, 0, none⟩ = some (.int .i64 n1) ∧ w1.cell? ⟨w.heap.size, 1, none⟩ = some (.int .i64 d1) ∧ w1.cell? ⟨w.heap.size + 1, 0, none⟩ = some (.int .i64 n2) ∧ w1.cell? ⟨w.heap.size + 1, 1, none⟩ = some (.int .i64 d2) ∧ Below w.heap.size w w1 ∧ w.heap.size + 1 < w1.heap.size)
    (hb : w.heap.size + 1 < b) :
    (w1.setCell ⟨b, i, none⟩ v).cell? ⟨w.heap.size, 0, none⟩ = some (.int .i64 n1) ∧ (w1.setCell ⟨b, i, none⟩ v).cell? ⟨w.heap.size, 1, none⟩ = some (.int .i64 d1) ∧ (w1.setCell ⟨b, i, none⟩ v).cell? ⟨w.heap.size + 1, 0, none⟩ = some (.int .i64 n2) ∧ (w1.setCell ⟨b, i, none⟩ v).cell? ⟨w.heap.size + 1, 1, none⟩ = some (.int .i64 d2) ∧ Below w.heap.size w (w1.setCell ⟨b, i, none⟩ v) ∧ w.heap.size + 1 < (w1.setCell ⟨b, i, none⟩ v).heap.size := by
  obtain ⟨s0, s1, s2, s3, s4, s5⟩ := s
  have hb' : Below b w1 (w1.setCell ⟨b, i, none⟩ v) := (Below.refl b w1).setCell (p := ⟨b, i, none⟩) (Nat.le_refl b) v
  exact ⟨(hb'.cell (p := ⟨_, _, none⟩) (by show w.heap.size < b; omega)).trans s0, (hb'.cell (p := ⟨_, _, none⟩) (by show w.heap.size < b; omega)).trans s1, (hb'.cell (p := ⟨_, _, none⟩) hb).trans s2, (hb'.cell (p := ⟨_, _, none⟩) hb).trans s3, s4.setCell (by show w.heap.size ≤ b; omega) v, by simpa using s5⟩
theorem held2_below {w wc w1 w2 : World} {n1 d1 n2 d2 RN RD : Int} {b : Nat}
    (s : w1.cell? ⟨w.heap.size, 0, none⟩ = some (.int .i64 n1) ∧ w1.cell? ⟨w.heap.size, 1, none⟩ = some (.int .i64 d1) ∧ w1.cell? ⟨w.heap.size + 1, 0, none⟩ = some (.int .i64 n2) ∧ w1.cell? ⟨w.heap.size + 1, 1, none⟩ = some (.int .i64 d2) ∧ w1.cell? ⟨b, 0, none⟩ = some (.int .i64 RN) ∧ w1.cell? ⟨b, 1, none⟩ = some (.int .i64 RD) ∧ Below w.heap.size w w1 ∧ w.heap.size + 1 < w1.heap.size ∧ wc.heap.size ≤ w1.heap.size ∧ b < wc.heap.size)
    (hb : Below w1.heap.size w1 w2) :
    w2.cell? ⟨w.heap.size, 0, none⟩ = some (.int .i64 n1) ∧ w2.cell? ⟨w.heap.size, 1, none⟩ = some (.int .i64 d1) ∧ w2.cell? ⟨w.heap.size + 1, 0, none⟩ = some (.int .i64 n2) ∧ w2.cell? ⟨w.heap.size + 1, 1, none⟩ = some (.int .i64 d2) ∧ w2.cell? ⟨b, 0, none⟩ = some (.int .i64 RN) ∧ w2.cell? ⟨b, 1, none⟩ = some (.int .i64 RD) ∧ Below w.heap.size w w2 ∧ w.heap.size + 1 < w2.heap.size ∧ wc.heap.size ≤ w2.heap.size ∧ b < wc.heap.size := by
  obtain ⟨s0, s1, s2, s3, s4, s5, s6, s7, s8, s9⟩ := s
  obtain ⟨hc, _⟩ := bcell hb
  exact ⟨(hc _ _ (by omega)).trans s0, (hc _ _ (by omega)).trans s1, (hc _ _ s7).trans s2, (hc _ _ s7).trans s3, (hc _ _ (by omega)).trans s4, (hc _ _ (by omega)).trans s5, s6.trans (hb.mono (by omega)), Nat.lt_of_lt_of_le s7 hb.size, Nat.le_trans s8 hb.size, s9⟩
theorem held2_set {w wc w1 : World} {n1 d1 n2 d2 RN RD : Int} {b c i : Nat} {v : Value}
    (s : w1.cell? ⟨w.heap.size, 0, none⟩ = some (.int .i64 n1) ∧ w1.cell? ⟨w.heap.size, 1, none⟩ = some (.int .i64 d1) ∧ w1.cell? ⟨w.heap.size + 1, 0, none⟩ = some (.int .i64 n2) ∧ w1.cell? ⟨w.heap.size + 1, 1, none⟩ = some (.int .i64 d2) ∧ w1.cell? ⟨b, 0, none⟩ = some (.int .i64 RN) ∧ w1.cell? ⟨b, 1, none⟩ = some (.int .i64 RD) ∧ Below w.heap.size w w1 ∧ w.heap.size + 1 < w1.heap.size ∧ wc.heap.size ≤ w1.heap.size ∧ b < wc.heap.size)
    (hx : w.heap.size + 1 < c) (hy : wc.heap.size ≤ c) :
    (w1.setCell ⟨c, i, none⟩ v).cell? ⟨w.heap.size, 0, none⟩ = some (.int .i64 n1) ∧ (w1.setCell ⟨c, i, none⟩ v).cell? ⟨w.heap.size, 1, none⟩ = some (.int .i64 d1) ∧ (w1.setCell ⟨c, i, none⟩ v).cell? ⟨w.heap.size + 1, 0, none⟩ = some (.int .i64 n2) ∧ (w1.setCell ⟨c, i, none⟩ v).cell? ⟨w.heap.size + 1, 1, none⟩ = some (.int .i64 d2) ∧ (w1.setCell ⟨c, i, none⟩ v).cell? ⟨b, 0, none⟩ = some (.int .i64 RN) ∧ (w1.setCell ⟨c, i, none⟩ v).cell? ⟨b, 1, none⟩ = some (.int .i64 RD) ∧ Below w.heap.size w (w1.setCell ⟨c, i, none⟩ v) ∧ w.heap.size + 1 < (w1.setCell ⟨c, i, none⟩ v).heap.size ∧ wc.heap.size ≤ (w1.setCell ⟨c, i, none⟩ v).heap.size ∧ b < wc.heap.size := by
  obtain ⟨s0, s1, s2, s3, s4, s5, s6, s7, s8, s9⟩ := s
  have hb' : Below c w1 (w1.setCell ⟨c, i, none⟩ v) := (Below.refl c w1).setCell (p := ⟨c, i, none⟩) (Nat.le_refl c) v
  have hc : ∀ x o, x < c → (w1.setCell ⟨c, i, none⟩ v).cell? ⟨x, o, none⟩ = w1.cell? ⟨x, o, none⟩ := fun x o h => hb'.cell (p := ⟨x, o, none⟩) h
  exact ⟨(hc _ _ (by omega)).trans s0, (hc _ _ (by omega)).trans s1, (hc _ _ (by omega)).trans s2, (hc _ _ (by omega)).trans s3, (hc _ _ (by omega)).trans s4, (hc _ _ (by omega)).trans s5, s6.setCell (by show w.heap.size ≤ c; omega) v, by simpa using s7, by simpa using s8, s9⟩
end Go.Proofs.YtlbagigghpiifabGreat
namespace Go.Proofs.YtlbagigghpiifabGreat
open Go.RowKit

/-- A row of fractions lies in memory from place 'off' of block 'b' on. -/
def RowAt (w : World) (b off : Nat) (xs : List (Int × Int)) : Prop :=
  ∀ i, i < xs.length → w.cell? ⟨b, off + i * 2, none⟩ = some (.int .i64 (xs.getD i (0, 0)).1) ∧ w.cell? ⟨b, off + i * 2 + 1, none⟩ = some (.int .i64 (xs.getD i (0, 0)).2)

set_option maxHeartbeats 1000000 in
theorem sum_row (b off cap : Nat) (xs : List (Int × Int)) (w : World) (hlen : xs.length ≤ 50) (hr : RowAt w b off xs) (hb : b < w.heap.size) :
    Calls Tryz.prog 56 #[.slice (some ⟨b, off, none⟩) xs.length cap] w fun e w' => e = .returned (.tuple #[.agg #[.int .i64 (Fr.sumN xs), .int .i64 (Fr.sumD xs)], .bool (Fr.sumB xs)]) ∧ Below w.heap.size w w' := by
  have hl0 : ¬ (50 : Int) < (xs.length : Int) := by omega
  go_enter Tryz.func56, Tryz.ntmps56
  go_wp2_with fail
  refine (whole_any 0 _).mono ?_
  rintro e w1 ⟨rfl, hb1⟩
  obtain ⟨hc1, hf1⟩ := bcell hb1
  have hz1 : w.heap.size < w1.heap.size := by have := hb1.size; simp at this; omega
  go_wp2_with fail
  go_loopw [16] (fun s wr => ∃ (k : Nat) (n d : Int), s = .int .i64 k ∧ k ≤ xs.length ∧ Hid (Fr.sumL (xs.drop k) n d = Fr.sumL xs 0 1) ∧ wr.cell? ⟨w1.heap.size, 0, none⟩ = some (.int .i64 n) ∧ wr.cell? ⟨w1.heap.size, 1, none⟩ = some (.int .i64 d) ∧ wr.frozen? ⟨w1.heap.size, 0, none⟩ = false ∧ wr.frozen? ⟨w1.heap.size, 1, none⟩ = false ∧ wr.cell? ⟨w.heap.size, 0, none⟩ = some (.int .i64 0) ∧ wr.cell? ⟨w.heap.size, 1, none⟩ = some (.int .i64 0) ∧ wr.frozen? ⟨w.heap.size, 0, none⟩ = false ∧ wr.frozen? ⟨w.heap.size, 1, none⟩ = false ∧ Below w.heap.size w wr ∧ w1.heap.size < wr.heap.size) (fun s _ => xs.length - (intOf s).toNat)
  case atStart =>
    refine ⟨0, 0, 1, rfl, Nat.zero_le _, hide (by simp), ?_, ?_, ?_, ?_, ?_, ?_, ?_, ?_, ?_, ?_⟩
    · simp [go_sem]
    · simp [go_sem]
    · simp [go_sem]
    · simp [go_sem]
    · simp [go_sem, hc1, hz1]
    · simp [go_sem, hc1, hz1]
    · simp [go_sem, hf1, hz1]
    · simp [go_sem, hf1, hz1]
    · exact (((Below.refl _ _).alloc (Nat.le_refl _) _).trans (hb1.mono (by simp))).alloc (by omega) _
    · simp
  case round =>
    obtain ⟨k, n, d, rfl, hk, HS, c0, c1, f0, f1, e0, e1, g0, g1, hB, hz⟩ := hrel
    clear hc1 hf1
    by_cases hlt : k < xs.length
    · obtain ⟨r0, r1⟩ := hr k hlt
      have r0' := (hB.cell (p := ⟨b, off + k * 2, none⟩) hb).trans r0
      have r1' := (hB.cell (p := ⟨b, off + k * 2 + 1, none⟩) hb).trans r1
      have hz' : w.heap.size < wr.heap.size := by omega
      generalize hgx : (xs.getD k (0, 0)) = x at *
      obtain ⟨x1, x2⟩ := x
      have HG := hide hgx
      clear r0 r1 hgx
      cases hadd : Fr.addB n d x1 x2
      · have HN := hide (Fr.sum_none xs (HS.out ▸ Fr.sumL_stop xs k n d _ hlt HG.out hadd))
        go_wp2_with fail
        have hcall := addF_any n d x1 x2 (wr.alloc (.cells #[.int .i64 x1, .int .i64 x2] 32))
        rw [hadd] at hcall
        refine hcall.mono ?_
        clear hcall
        rintro e w2 ⟨rfl, hb2⟩
        have hb3 : Below wr.heap.size wr w2 := (below_alloc wr _).trans (hb2.mono (by simp))
        obtain ⟨e0', e1', g0', g1'⟩ := new_var hb3 _ _ _ e0 e1 g0 g1
        have hz2 : w.heap.size < w2.heap.size := by have := hb3.size; omega
        go_wp2_with fail
        refine bodyPost_ret (v := .tuple #[.agg #[.int .i64 0, .int .i64 0], .bool false]) (by simp [results, Tryz.results56, go_sem, *]) rfl ⟨by rw [HN.out.1, HN.out.2.1, HN.out.2.2], ?_⟩
        exact (((hB.trans (hb3.mono (by omega))).setCell (Nat.le_refl _) _).setCell (Nat.le_refl _) _).alloc (by simp; omega) _
      · have HN := hide ((Fr.sumL_step xs k n d _ hlt HG.out hadd).symm.trans HS.out)
        go_wp2_with fail
        have hcall := addF_any n d x1 x2 (wr.alloc (.cells #[.int .i64 x1, .int .i64 x2] 32))
        rw [hadd] at hcall
        refine hcall.mono ?_
        clear hcall
        rintro e w2 ⟨rfl, hb2⟩
        have hb3 : Below wr.heap.size wr w2 := (below_alloc wr _).trans (hb2.mono (by simp))
        obtain ⟨e0', e1', g0', g1'⟩ := new_var hb3 _ _ _ e0 e1 g0 g1
        obtain ⟨c0', c1', f0', f1'⟩ := new_var hb3 _ _ _ c0 c1 f0 f1
        have hz2 : w.heap.size < w2.heap.size := by have := hb3.size; omega
        have hz3 : w1.heap.size < w2.heap.size := by have := hb3.size; omega
        go_wp2_with fail
        go_roundw
        case rel =>
          have hne : ¬ w.heap.size = w1.heap.size := by omega
          have hne' : ¬ w1.heap.size = w.heap.size := by omega
          refine ⟨k + 1, _, _, by go_num, by omega, HN, ?_, ?_, ?_, ?_, ?_, ?_, ?_, ?_, ?_, ?_⟩
          · simp [go_sem, *]
          · simp [go_sem, *]
          · simp [go_sem, *]
          · simp [go_sem, *]
          · simp [go_sem, *]
          · simp [go_sem, *]
          · simp [go_sem, *]
          · simp [go_sem, *]
          · exact (((hB.trans (hb3.mono (by omega))).setCell (Nat.le_of_lt hz1) _).setCell (Nat.le_of_lt hz1) _).alloc (by simp; omega) _
          · simp; omega
        case measure => simp only [intOf]; omega
    · have hke : k = xs.length := by omega
      subst hke
      have HN := hide (Fr.sum_some xs hlen n d (by have := HS.out; simpa [Fr.sumL] using this.symm))
      go_wp2_with fail
      refine bodyPost_ret (v := .tuple #[.agg #[.int .i64 n, .int .i64 d], .bool true]) (by simp [results, Tryz.results56, go_sem, *]) rfl ⟨by rw [HN.out.1, HN.out.2.1, HN.out.2.2], ?_⟩
      exact (hB.setCell (Nat.le_refl _) _).setCell (Nat.le_refl _) _

set_option maxHeartbeats 400000 in
theorem sum_long (a : Option Addr) (len cap : Nat) (w : World) (h : 50 < len) :
    Calls Tryz.prog 56 #[.slice a len cap] w fun e w' => e = .returned (.tuple #[.agg #[.int .i64 0, .int .i64 0], .bool false]) ∧ Below w.heap.size w w' := by
  have hl0 : (50 : Int) < (len : Int) := by omega
  go_enter Tryz.func56, Tryz.ntmps56
  go_wp2_with fail
  exact bodyPost_ret (v := .tuple #[.agg #[.int .i64 0, .int .i64 0], .bool false]) (by simp [results, Tryz.results56, go_sem]) rfl ⟨rfl, (Below.refl _ _).alloc (Nat.le_refl _) _⟩

set_option maxHeartbeats 400000 in
theorem sum_zero (a : Option Addr) (cap : Nat) (w : World) :
    Calls Tryz.prog 56 #[.slice a 0 cap] w fun e w' => e = .returned (.tuple #[.agg #[.int .i64 0, .int .i64 1], .bool true]) ∧ Below w.heap.size w w' := by
  go_enter Tryz.func56, Tryz.ntmps56
  go_wp2_with fail
  refine (whole_any 0 _).mono ?_
  rintro e w1 ⟨rfl, hb1⟩
  obtain ⟨hc1, hf1⟩ := bcell hb1
  have hz1 : w.heap.size < w1.heap.size := by have := hb1.size; simp at this; omega
  go_wp2_with fail
  go_loopw [16] (fun s wr => s = .int .i64 0 ∧ wr = w1.alloc (.cells #[.int .i64 0, .int .i64 1] 32)) (fun s _ => 0)
  case atStart => exact ⟨rfl, rfl⟩
  case round =>
    obtain ⟨rfl, rfl⟩ := hrel
    go_wp2_with fail
    refine bodyPost_ret (v := .tuple #[.agg #[.int .i64 0, .int .i64 1], .bool true]) (by simp [results, Tryz.results56, go_sem, *]) rfl ⟨rfl, ?_⟩
    exact ((((((Below.refl _ _).alloc (Nat.le_refl _) _).trans (hb1.mono (by simp))).setCell (Nat.le_refl _) _).setCell (Nat.le_refl _) _).alloc (by simp; omega) _)

set_option maxHeartbeats 400000 in
theorem ssum_long (a : Option Addr) (len cap : Nat) (w : World) (h : 50 < len) :
    Calls Tryz.prog 49 #[.slice a len cap] w fun e w' => e = .returned (.tuple #[.agg #[.int .i64 0, .int .i64 0], .bool false]) ∧ Below w.heap.size w w' := by
  have hl0 : (50 : Int) < (len : Int) := by omega
  go_enter Tryz.func49, Tryz.ntmps49
  go_wp2_with fail
  exact bodyPost_ret (v := .tuple #[.agg #[.int .i64 0, .int .i64 0], .bool false]) (by simp [results, Tryz.results49, go_sem]) rfl ⟨rfl, ((Below.refl _ _).alloc (Nat.le_refl _) _).alloc (by simp) _⟩

set_option maxHeartbeats 400000 in
theorem ssum_zero (a : Option Addr) (cap : Nat) (w : World) :
    Calls Tryz.prog 49 #[.slice a 0 cap] w fun e w' => e = .returned (.tuple #[.agg #[.int .i64 0, .int .i64 1], .bool true]) ∧ Below w.heap.size w w' := by
  go_enter Tryz.func49, Tryz.ntmps49
  go_wp2_with fail
  go_loopw [16] (fun s wr => s = .int .i64 0 ∧ wr = (w.alloc (.cells #[.int .i64 0, .int .i64 0] 32)).alloc (.cells #[.int .i64 0, .int .i64 1] 32)) (fun s _ => 0)
  case atStart => exact ⟨rfl, rfl⟩
  case round =>
    obtain ⟨rfl, rfl⟩ := hrel
    go_wp2_with fail
    exact bodyPost_ret (v := .tuple #[.agg #[.int .i64 0, .int .i64 1], .bool true]) (by simp [results, Tryz.results49, go_sem]) rfl ⟨rfl, ((Below.refl _ _).alloc (Nat.le_refl _) _).alloc (by simp) _⟩

set_option maxHeartbeats 1000000 in
theorem ssum_row (b off cap : Nat) (xs : List (Int × Int)) (w : World) (hlen : xs.length ≤ 50) (hr : RowAt w b off xs) (hb : b < w.heap.size) :
    Calls Tryz.prog 49 #[.slice (some ⟨b, off, none⟩) xs.length cap] w fun e w' => e = .returned (.tuple #[.agg #[.int .i64 (Fr.sumN xs), .int .i64 (Fr.sumD xs)], .bool (Fr.sumB xs)]) ∧ Below w.heap.size w w' := by
  have hl0 : ¬ (50 : Int) < (xs.length : Int) := by omega
  go_enter Tryz.func49, Tryz.ntmps49
  go_wp2_with fail
  go_loopw [16] (fun s wr => ∃ (k : Nat) (n d : Int), s = .int .i64 k ∧ k ≤ xs.length ∧ Hid (Fr.sumL (xs.drop k) n d = Fr.sumL xs 0 1) ∧ wr.cell? ⟨w.heap.size + 1, 0, none⟩ = some (.int .i64 n) ∧ wr.cell? ⟨w.heap.size + 1, 1, none⟩ = some (.int .i64 d) ∧ wr.frozen? ⟨w.heap.size + 1, 0, none⟩ = false ∧ wr.frozen? ⟨w.heap.size + 1, 1, none⟩ = false ∧ wr.cell? ⟨w.heap.size, 0, none⟩ = some (.int .i64 0) ∧ wr.cell? ⟨w.heap.size, 1, none⟩ = some (.int .i64 0) ∧ wr.frozen? ⟨w.heap.size, 0, none⟩ = false ∧ wr.frozen? ⟨w.heap.size, 1, none⟩ = false ∧ Below w.heap.size w wr ∧ w.heap.size + 1 < wr.heap.size) (fun s _ => xs.length - (intOf s).toNat)
  case atStart =>
    refine ⟨0, 0, 1, rfl, Nat.zero_le _, hide (by simp), ?_, ?_, ?_, ?_, ?_, ?_, ?_, ?_, ?_, ?_⟩
    · simp [go_sem]
    · simp [go_sem]
    · simp [go_sem]
    · simp [go_sem]
    · simp [go_sem]
    · simp [go_sem]
    · simp [go_sem]
    · simp [go_sem]
    · exact ((Below.refl _ _).alloc (Nat.le_refl _) _).alloc (by simp) _
    · simp
  case round =>
    obtain ⟨k, n, d, rfl, hk, HS, c0, c1, f0, f1, e0, e1, g0, g1, hB, hz⟩ := hrel
    by_cases hlt : k < xs.length
    · obtain ⟨r0, r1⟩ := hr k hlt
      have r0' := (hB.cell (p := ⟨b, off + k * 2, none⟩) hb).trans r0
      have r1' := (hB.cell (p := ⟨b, off + k * 2 + 1, none⟩) hb).trans r1
      have hz' : w.heap.size < wr.heap.size := by omega
      generalize hgx : (xs.getD k (0, 0)) = x at *
      obtain ⟨x1, x2⟩ := x
      have HG := hide hgx
      clear r0 r1 hgx
      cases hadd : Fr.addB n d x1 x2
      · have HN := hide (Fr.sum_none xs (HS.out ▸ Fr.sumL_stop xs k n d _ hlt HG.out hadd))
        go_wp2_with fail
        have hcall := sAddF_any n d x1 x2 (wr.alloc (.cells #[.int .i64 x1, .int .i64 x2] 32))
        rw [hadd] at hcall
        refine hcall.mono ?_
        clear hcall
        rintro e w2 ⟨rfl, hb2⟩
        have hb3 : Below wr.heap.size wr w2 := (below_alloc wr _).trans (hb2.mono (by simp))
        obtain ⟨e0', e1', g0', g1'⟩ := new_var hb3 _ _ _ e0 e1 g0 g1
        have hz2 : w.heap.size < w2.heap.size := by have := hb3.size; omega
        go_wp2_with fail
        refine bodyPost_ret (v := .tuple #[.agg #[.int .i64 0, .int .i64 0], .bool false]) (by simp [results, Tryz.results49, go_sem, *]) rfl ⟨by rw [HN.out.1, HN.out.2.1, HN.out.2.2], ?_⟩
        exact (((hB.trans (hb3.mono (by omega))).setCell (Nat.le_refl _) _).setCell (Nat.le_refl _) _).alloc (by simp; omega) _
      · have HN := hide ((Fr.sumL_step xs k n d _ hlt HG.out hadd).symm.trans HS.out)
        go_wp2_with fail
        have hcall := sAddF_any n d x1 x2 (wr.alloc (.cells #[.int .i64 x1, .int .i64 x2] 32))
        rw [hadd] at hcall
        refine hcall.mono ?_
        clear hcall
        rintro e w2 ⟨rfl, hb2⟩
        have hb3 : Below wr.heap.size wr w2 := (below_alloc wr _).trans (hb2.mono (by simp))
        obtain ⟨e0', e1', g0', g1'⟩ := new_var hb3 _ _ _ e0 e1 g0 g1
        obtain ⟨c0', c1', f0', f1'⟩ := new_var hb3 _ _ _ c0 c1 f0 f1
        have hz2 : w.heap.size < w2.heap.size := by have := hb3.size; omega
        have hz3 : w.heap.size + 1 < w2.heap.size := by have := hb3.size; omega
        go_wp2_with fail
        go_roundw
        case rel =>
          refine ⟨k + 1, _, _, by go_num, by omega, HN, ?_, ?_, ?_, ?_, ?_, ?_, ?_, ?_, ?_, ?_⟩
          · simp [go_sem, *]
          · simp [go_sem, *]
          · simp [go_sem, *]
          · simp [go_sem, *]
          · simp [go_sem, *]
          · simp [go_sem, *]
          · simp [go_sem, *]
          · simp [go_sem, *]
          · exact (((hB.trans (hb3.mono (by omega))).setCell (Nat.le_succ _) _).setCell (Nat.le_succ _) _).alloc (by simp; omega) _
          · simp; omega
        case measure => simp only [intOf]; omega
    · have hke : k = xs.length := by omega
      subst hke
      have HN := hide (Fr.sum_some xs hlen n d (by have := HS.out; simpa [Fr.sumL] using this.symm))
      go_wp2_with fail
      refine bodyPost_ret (v := .tuple #[.agg #[.int .i64 n, .int .i64 d], .bool true]) (by simp [results, Tryz.results49, go_sem, *]) rfl ⟨by rw [HN.out.1, HN.out.2.1, HN.out.2.2], ?_⟩
      exact (hB.setCell (Nat.le_refl _) _).setCell (Nat.le_refl _) _

theorem RowAt.below {w w' : World} {B b off : Nat} {xs : List (Int × Int)} (h : RowAt w b off xs) (hb : Below B w w') (hlt : b < B) : RowAt w' b off xs :=
  fun i hi => ⟨(hb.cell (p := ⟨b, off + i * 2, none⟩) hlt).trans (h i hi).1, (hb.cell (p := ⟨b, off + i * 2 + 1, none⟩) hlt).trans (h i hi).2⟩

theorem sum_any (b off cap : Nat) (xs : List (Int × Int)) (w : World) (hr : RowAt w b off xs) (hb : b < w.heap.size) :
    Calls Tryz.prog 56 #[.slice (some ⟨b, off, none⟩) xs.length cap] w fun e w' => e = .returned (.tuple #[.agg #[.int .i64 (Fr.sumN xs), .int .i64 (Fr.sumD xs)], .bool (Fr.sumB xs)]) ∧ Below w.heap.size w w' := by
  by_cases h : xs.length ≤ 50
  · exact sum_row b off cap xs w h hr hb
  · obtain ⟨e1, e2, e3⟩ := Fr.sum_long xs (by omega)
    rw [e1, e2, e3]; exact sum_long _ _ _ _ (by omega)
theorem ssum_any (b off cap : Nat) (xs : List (Int × Int)) (w : World) (hr : RowAt w b off xs) (hb : b < w.heap.size) :
    Calls Tryz.prog 49 #[.slice (some ⟨b, off, none⟩) xs.length cap] w fun e w' => e = .returned (.tuple #[.agg #[.int .i64 (Fr.sumN xs), .int .i64 (Fr.sumD xs)], .bool (Fr.sumB xs)]) ∧ Below w.heap.size w w' := by
  by_cases h : xs.length ≤ 50
  · exact ssum_row b off cap xs w h hr hb
  · obtain ⟨e1, e2, e3⟩ := Fr.sum_long xs (by omega)
    rw [e1, e2, e3]; exact ssum_long _ _ _ _ (by omega)
end Go.Proofs.YtlbagigghpiifabGreat
namespace Go.Proofs.YtlbagigghpiifabGreat
open Go.RowKit

def fcells : List (Int × Int) → List Value
  | [] => []
  | x :: r => .int .i64 x.1 :: .int .i64 x.2 :: fcells r
theorem fcells_len (xs : List (Int × Int)) : (fcells xs).length = xs.length * 2 := by
  induction xs with
  | nil => rfl
  | cons x r ih => simp [fcells, ih]; omega
theorem fcells_snoc (xs : List (Int × Int)) (p : Int × Int) : fcells (xs ++ [p]) = fcells xs ++ [.int .i64 p.1, .int .i64 p.2] := by
  induction xs with
  | nil => rfl
  | cons x r ih => simp [fcells, ih]
theorem fcells_get (xs : List (Int × Int)) (i : Nat) (h : i < xs.length) : (fcells xs)[i * 2]? = some (.int .i64 (xs.getD i (0, 0)).1) ∧ (fcells xs)[i * 2 + 1]? = some (.int .i64 (xs.getD i (0, 0)).2) := by
  induction xs generalizing i with
  | nil => simp at h
  | cons x r ih =>
    cases i with
    | zero => simp [fcells]
    | succ i =>
      have := ih i (by simpa using h)
      rw [show (i + 1) * 2 = i * 2 + 2 by omega]
      simpa [fcells] using this
/-- A list of fractions that is owned, as it lies. -/
theorem frow_owns {w : World} {base e n : Nat} {v : Value} {xs : List (Int × Int)} (hn : xs.length = n) (h : w.ownsRow base e 2 v n (fcells xs)) :
    (v = .slice none 0 0 ∧ n = 0) ∨ ∃ g cap, v = .slice (some ⟨g, 0, none⟩) n cap ∧ base ≤ g ∧ g < w.heap.size ∧ RowAt w g 0 xs := by
  subst hn
  rcases h.2 with ⟨rfl, hn⟩ | ⟨g, cap, cur, rfl, hb, hg, hn, hm, hsz, htake⟩
  · exact Or.inl ⟨rfl, hn⟩
  · refine Or.inr ⟨g, cap, rfl, hb, ?_, ?_⟩
    · rcases Nat.lt_or_ge g w.heap.size with h' | h'
      · exact h'
      · rw [Array.getElem?_eq_none h'] at hg; cases hg
    · intro i hi
      have hcell : ∀ j, j < xs.length * 2 → w.cell? ⟨g, j, none⟩ = (fcells xs)[j]? := by
        intro j hj
        rw [← htake, List.getElem?_take]
        simp [World.cell?, hg, hj]
      obtain ⟨f0, f1⟩ := fcells_get xs i hi
      refine ⟨?_, ?_⟩
      · rw [Nat.zero_add, hcell _ (by omega), f0]
      · rw [Nat.zero_add, hcell _ (by omega), f1]
theorem own_far {w : World} {base e s n k : Nat} {v : Value} {xs : List Value} (h : w.ownsRow base e s v n xs) (hk : k < base) : some k ≠ v.ownBlock := by
  rcases h.2 with ⟨rfl, _⟩ | ⟨g, cap, cur, rfl, hb, _⟩
  · simp [Value.ownBlock]
  · simp [Value.ownBlock]; omega
/-- What is owned stays over a call that leaves all that was there alone. -/
theorem own_below4 {w w' : World} {base e s n : Nat} {v : Value} {xs : List Value} (h : w.ownsRow base e s v n xs) (hb : Below w.heap.size w w') : w'.ownsRow base e s v n xs := by
  refine ⟨h.1, ?_⟩
  rcases h.2 with h0 | ⟨g, cap, cur, hv, hbg, hg, r⟩
  · exact Or.inl h0
  · have hlt : g < w.heap.size := by
      rcases Nat.lt_or_ge g w.heap.size with h' | h'
      · exact h'
      · rw [Array.getElem?_eq_none h'] at hg; cases hg
    exact Or.inr ⟨g, cap, cur, hv, hbg, (hb.block g hlt).trans hg, r⟩
theorem own_grow {w w' : World} {o : Obj} {B base e s n : Nat} {v : Value} {xs : List Value} (own : w.ownsRow base e s v n xs) (hg : (w.alloc o).grownBy w' v.ownBlock) (h1 : B ≤ base) (h2 : B ≤ w.heap.size) : Below B w w' :=
  ((Below.refl _ _).alloc h2 o).trans ⟨hg.os, hg.tape, hg.output, hg.size, fun k hk => hg.block k (by simp; omega) (own_far own (by omega))⟩
theorem new_frac (w : World) (p : Int × Int) (t : TypeId) {H : Nat} (hH : w.heap.size = H) : ∀ (j : Nat) (u : Value), ([.int .i64 p.1, .int .i64 p.2] : List Value)[j]? = some u → (w.alloc (.cells #[.int .i64 p.1, .int .i64 p.2] t)).cell? ((⟨H, 0, none⟩ : Addr).add j) = some u := by
  intro j u hj
  subst hH
  match j, hj with
  | 0, hj => simp at hj; subst hj; simp [Addr.add]
  | 1, hj => simp at hj; subst hj; simp [Addr.add]
theorem frac_cells (p : Int × Int) : ∀ u ∈ ([.int .i64 p.1, .int .i64 p.2] : List Value), u.oneCell' = true := by
  intro u hu
  simp at hu
  rcases hu with rfl | rfl <;> rfl
theorem infF : (Tryz.prog.info? 32).map (fun i => (i.zero, i.size, i.bytes)) = some (some (.agg #[.int .i64 0, .int .i64 0]), 2, 16) := by kernel_rfl
theorem each_take (F : Int → Int → Int × Int) (fs cs : List Int) (k : Nat) (h : k < fs.length) : (Sh.each F fs cs).take (k + 1) = (Sh.each F fs cs).take k ++ [F (fs.getD k 0) (cs.getD k 0)] := by
  have hl : k < (Sh.each F fs cs).length := by rw [Sh.each_len]; exact h
  rw [List.take_succ_eq_append_getElem hl, ← Pf.getD_lt _ (0, 0) hl, Sh.each_at _ _ _ h]

set_option maxHeartbeats 2000000 in
theorem eachK_any {a b : Option Addr} {n c d g : Nat} {fs cs : List Int} {w : World} (F : Int → Int → Int × Int) (eg : ∀ args w, (callFunc g args).run Tryz.prog w = .ok (.enter g args) w)
    (hF : Hid (∀ f c w, 1 ≤ f → f ≤ 30 → 1 ≤ c → c ≤ 40 → Calls Tryz.prog g #[.int .i64 f, .int .i64 c] w fun e w' => e = .returned (fv (F f c)) ∧ Below w.heap.size w w'))
    (h : Hid (ARow w a fs)) (hn : Hid (fs.length = n)) (h' : Hid (ARow w b cs)) (hs : Hid (Sh.sharedB fs cs = true)) :
    Calls Tryz.prog 116 #[.slice a n c, .slice b n d, .func (.func g) #[] #[]] w fun e w' => ∃ v, e = .returned v ∧ Below w.heap.size w w' ∧ w'.ownsRow w.heap.size 32 2 v n (fcells (Sh.each F fs cs)) := by
  obtain ⟨i0, hi, hz0, hz1, hz2⟩ := info_parts infF
  have hm : Hid (cs.length = n) := hide (by rw [(Sh.sharedB_yes hs.out).2.1]; exact hn.out)
  have h8 : n ≤ 8 := by have := Sh.flowB_yes (Sh.sharedB_yes hs.out).1; have := hn.out; omega
  go_enter Tryz.func116, Tryz.ntmps116
  go_wp2_with fail
  go_loopw [7, 8, 9, 12] (fun v _ _ s wr => ∃ k : Nat, s = .int .i64 k ∧ k ≤ n ∧ wr.ownsRow w.heap.size 32 2 v k (fcells ((Sh.each F fs cs).take k)) ∧ Below w.heap.size w wr) (fun _ _ _ s _ => n - (intOf s).toNat)
  case atStart => exact ⟨0, rfl, Nat.zero_le _, World.ownsRow_nil _ _ _ _, Below.refl _ _⟩
  case round =>
    obtain ⟨k, rfl, hk, hown, hB⟩ := hrel
    by_cases hlt : k < n
    · obtain ⟨ba, oa, rfl, r1⟩ := (h.out.below hB).at (i := k) (by rw [hn.out]; exact hlt)
      obtain ⟨bb, ob, rfl, r2⟩ := (h'.out.below hB).at (i := k) (by rw [hm.out]; exact hlt)
      have k0 : (0 : Int) ≤ (k : Int) := by omega
      have k1 : (k : Int) < (n : Int) := by omega
      obtain ⟨f0, f1⟩ := Sh.flowB_at (Sh.sharedB_yes hs.out).1 (i := k) (by rw [hn.out]; exact hlt)
      obtain ⟨c0, c1⟩ := Sh.sharedB_at hs.out (i := k) (by rw [hn.out]; exact hlt)
      have HT := hide (each_take F fs cs k (by rw [hn.out]; exact hlt))
      generalize fs.getD k 0 = x at *
      generalize cs.getD k 0 = y at *
      have hcall := hide (hF.out x y wr f0 f1 c0 c1)
      generalize F x y = p at *
      rw [fv_eq] at hcall
      have hown1 := hide hown
      clear hown
      go_wp2_with (first
        | (go_at_fn g; refine hcall.out.mono ?_; rintro e w1 ⟨rfl, hb1⟩; have own1 := own_below4 hown1.out hb1; have hs1 := hb1.size; have hs2 := hB.size)
        | (at_builtin; refine wpList_append_own _ rfl _ _ 79 rfl w.heap.size 32 i0 (.agg #[.int .i64 0, .int .i64 0]) 2 16 Tryz.underlying79 hi hz0 hz1 hz2 rfl (by decide) _ _ _ rfl (own1.alloc _) ⟨w1.heap.size, 0, none⟩ 1 1 [.int .i64 p.1, .int .i64 p.2] rfl rfl (new_frac _ _ _ rfl) (frac_cells _) (by unfold maxLen; omega) (by omega) (by simp; omega) ?_))
      intro v' w4 hown' hgrow _
      have hfin := own_grow own1 hgrow (Nat.le_refl _) (by omega)
      rw [← fcells_snoc, ← HT.out] at hown'
      go_wp2_with fail
      go_roundw
      case rel => exact ⟨k + 1, by go_num, by omega, hown', (hB.trans (hb1.mono hs2)).trans hfin⟩
      case measure => simp only [intOf]; omega
    · have hke : k = n := by omega
      subst hke
      have HE : Hid ((Sh.each F fs cs).take k = Sh.each F fs cs) := hide (by rw [List.take_of_length_le]; rw [Sh.each_len, hn.out]; exact Nat.le_refl _)
      rw [HE.out] at hown
      go_wp2_with fail
      go_ret
      exact ⟨_, rfl, hB, hown⟩
theorem four_keep {w w1 w2 : World} {b o1 o2 o3 o4 : Nat} {v1 v2 v3 v4 : Option Value} (hb : b < w.heap.size)
    (s : w1.cell? ⟨b, o1, none⟩ = v1 ∧ w1.cell? ⟨b, o2, none⟩ = v2 ∧ w1.cell? ⟨b, o3, none⟩ = v3 ∧ w1.cell? ⟨b, o4, none⟩ = v4 ∧ Below w.heap.size w w1) (h : Below w1.heap.size w1 w2) :
    w2.cell? ⟨b, o1, none⟩ = v1 ∧ w2.cell? ⟨b, o2, none⟩ = v2 ∧ w2.cell? ⟨b, o3, none⟩ = v3 ∧ w2.cell? ⟨b, o4, none⟩ = v4 ∧ Below w.heap.size w w2 := by
  obtain ⟨s1, s2, s3, s4, s5⟩ := s
  obtain ⟨hc, _⟩ := bcell h
  have := s5.size
  exact ⟨(hc _ _ (by omega)).trans s1, (hc _ _ (by omega)).trans s2, (hc _ _ (by omega)).trans s3, (hc _ _ (by omega)).trans s4, s5.trans (h.mono this)⟩
set_option maxHeartbeats 2000000 in
theorem firstB_any {b off n cap g : Nat} {xs : List (Int × Int)} {w : World} (R : Int × Int → Int × Int → Bool) (eg : ∀ args w, (callFunc g args).run Tryz.prog w = .ok (.enter g args) w)
    (hR : Hid (∀ p q w, Sh.goodF p = true → Sh.goodF q = true → Calls Tryz.prog g #[.agg #[.int .i64 p.1, .int .i64 p.2], .agg #[.int .i64 q.1, .int .i64 q.2]] w fun e w' => e = .returned (.bool (R p q)) ∧ Below w.heap.size w w'))
    (hr : Hid (RowAt w b off xs)) (hn : Hid (xs.length = n)) (hb : b < w.heap.size) (h0 : 0 < n) (h8 : n ≤ 1000) (hg : Hid (∀ i, i < xs.length → Sh.goodF (xs.getD i (0, 0)) = true)) :
    Calls Tryz.prog 115 #[.slice (some ⟨b, off, none⟩) n cap, .func (.func g) #[] #[]] w fun e w' => e = .returned (.int .i64 ((Sh.best R xs n : Nat) : Int)) ∧ Below w.heap.size w w' := by
  go_enter Tryz.func115, Tryz.ntmps115
  go_wp2_with fail
  go_loopw [5, 6, 9] (fun s5 _ s wr => ∃ k m : Nat, s5 = .int .i64 m ∧ s = .int .i64 k ∧ k ≤ n ∧ m < n ∧ Hid (m = Sh.best R xs k) ∧ Below w.heap.size w wr) (fun _ _ s _ => n - (intOf s).toNat)
  case atStart => exact ⟨0, 0, rfl, rfl, Nat.zero_le _, h0, hide rfl, Below.refl _ _⟩
  case round =>
    obtain ⟨k, m, rfl, rfl, hk, hmn, HM, hB⟩ := hrel
    by_cases hlt : k < n
    · have hr' := hr.out.below hB hb
      obtain ⟨r0, r1⟩ := hr' k (by rw [hn.out]; exact hlt)
      obtain ⟨r2, r3⟩ := hr' m (by rw [hn.out]; exact hmn)
      have HG1 := hide (hg.out k (by rw [hn.out]; exact hlt))
      have HG2 := hide (hg.out m (by rw [hn.out]; exact hmn))
      have HS : Hid (Sh.best R xs (k + 1) = if R (xs.getD k (0, 0)) (xs.getD m (0, 0)) = true then k else m) := hide (by rw [Sh.best, ← HM.out])
      have i0 : (0 : Int) ≤ (k : Int) := by omega
      have i1 : (k : Int) < (n : Int) := by omega
      have j0 : (0 : Int) ≤ (m : Int) := by omega
      have j1 : (m : Int) < (n : Int) := by omega
      generalize xs.getD k (0, 0) = p at *
      generalize xs.getD m (0, 0) = q at *
      have hcall := hide (fun w' => hR.out p q w' HG1.out HG2.out)
      clear hr'
      cases hc : R p q
      · rw [hc] at hcall
        have HN : Hid (m = Sh.best R xs (k + 1)) := hide (by rw [HS.out, hc]; rfl)
        clear hc HS
        obtain ⟨p1, p2⟩ := p
        obtain ⟨q1, q2⟩ := q
        go_wp2_with fail
        go_region_held3 (fun w' => w'.cell? ⟨b, off + k * 2, none⟩ = some (.int .i64 p1) ∧ w'.cell? ⟨b, off + k * 2 + 1, none⟩ = some (.int .i64 p2) ∧ w'.cell? ⟨b, off + m * 2, none⟩ = some (.int .i64 q1) ∧ w'.cell? ⟨b, off + m * 2 + 1, none⟩ = some (.int .i64 q2) ∧ Below w.heap.size w w')
          (first | exact ⟨r0, r1, r2, r3, hB.drew⟩ | assumption | exact four_keep hb ‹_› (by assumption) | fail)
          (first | (go_at_fn g; refine (hcall.out _).mono ?_; rintro e w1 ⟨rfl, hb1⟩) | fail)
        obtain ⟨_, _, _, _, hB2⟩ := ‹_ ∧ _ ∧ _ ∧ _ ∧ _›
        go_wp2_with fail
        go_roundw
        case rel => exact ⟨k + 1, m, rfl, by go_num, by omega, hmn, HN, hB2⟩
        case measure => simp only [intOf]; omega
      · rw [hc] at hcall
        have HN : Hid (k = Sh.best R xs (k + 1)) := hide (by rw [HS.out, hc]; rfl)
        clear hc HS
        obtain ⟨p1, p2⟩ := p
        obtain ⟨q1, q2⟩ := q
        go_wp2_with fail
        go_region_held3 (fun w' => w'.cell? ⟨b, off + k * 2, none⟩ = some (.int .i64 p1) ∧ w'.cell? ⟨b, off + k * 2 + 1, none⟩ = some (.int .i64 p2) ∧ w'.cell? ⟨b, off + m * 2, none⟩ = some (.int .i64 q1) ∧ w'.cell? ⟨b, off + m * 2 + 1, none⟩ = some (.int .i64 q2) ∧ Below w.heap.size w w')
          (first | exact ⟨r0, r1, r2, r3, hB.drew⟩ | assumption | exact four_keep hb ‹_› (by assumption) | fail)
          (first | (go_at_fn g; refine (hcall.out _).mono ?_; rintro e w1 ⟨rfl, hb1⟩) | fail)
        obtain ⟨_, _, _, _, hB2⟩ := ‹_ ∧ _ ∧ _ ∧ _ ∧ _›
        go_wp2_with fail
        go_roundw
        case rel => exact ⟨k + 1, k, rfl, by go_num, by omega, hlt, HN, hB2⟩
        case measure => simp only [intOf]; omega
    · have hke : k = n := by omega
      subst hke
      go_wp2_with fail
      go_ret
      exact ⟨ret_int (by rw [← HM.out]), hB⟩
end Go.Proofs.YtlbagigghpiifabGreat
namespace Go.Proofs.YtlbagigghpiifabGreat
open Go.RowKit Go.Sort

theorem drew_zero17 (w : World) : w.drewN 0 = w := rfl
theorem alloc2_grow (w : World) (o1 o2 : Obj) : (w.alloc o1).alloc o2 = grow (w.drewN 0) #[o1, o2] := by
  rw [alloc_eq_grow, alloc_eq_grow, grow_grow]; rfl
set_option maxHeartbeats 400000 in
theorem cmpG_same (n1 d1 : Int) (w : World) :
    Calls Tryz.prog 123 #[.agg #[.int .i64 n1, .int .i64 d1], .agg #[.int .i64 n1, .int .i64 d1]] w fun e w' => e = .returned (.int .i64 0) ∧ ∃ q os, w' = grow (w.drewN q) os := by
  have q1 := frac_eq n1 d1 n1 d1
  have q2 := fun x y => frac_eqg x y n1 d1 n1 d1
  simp at q1
  go_enter Tryz.func123, Tryz.ntmps123
  go_wp2
  go_ret
  exact ⟨rfl, 0, _, alloc2_grow _ _ _⟩
set_option maxHeartbeats 400000 in
theorem cmpG_lt (n1 d1 n2 d2 : Int) (w : World) (h1 : Fr.goodB n1 d1 = true) (h2 : Fr.goodB n2 d2 = true) (h : (n1 == n2 && d1 == d2) = false) (hl : n1 * d2 < n2 * d1) :
    Calls Tryz.prog 123 #[.agg #[.int .i64 n1, .int .i64 d1], .agg #[.int .i64 n2, .int .i64 d2]] w fun e w' => e = .returned (.int .i64 (-1)) ∧ ∃ q os, w' = grow (w.drewN q) os := by
  obtain ⟨a0, a1, a2, a3⟩ := Fr.good_bd n1 d1 h1
  obtain ⟨b0, b1, b2, b3⟩ := Fr.good_bd n2 d2 h2
  have m1 := wrap_mul n1 d2 (by omega) (by omega) (by omega) (by omega)
  have m2 := wrap_mul n2 d1 (by omega) (by omega) (by omega) (by omega)
  have q1 := frac_eq n1 d1 n2 d2
  have q2 := fun x y => frac_eqg x y n1 d1 n2 d2
  rw [h] at q1
  clear h1 h2 h
  go_enter Tryz.func123, Tryz.ntmps123
  go_wp2
  go_ret
  exact ⟨rfl, 0, _, alloc2_grow _ _ _⟩
set_option maxHeartbeats 400000 in
theorem cmpG_gt (n1 d1 n2 d2 : Int) (w : World) (h1 : Fr.goodB n1 d1 = true) (h2 : Fr.goodB n2 d2 = true) (h : (n1 == n2 && d1 == d2) = false) (hl : ¬ n1 * d2 < n2 * d1) :
    Calls Tryz.prog 123 #[.agg #[.int .i64 n1, .int .i64 d1], .agg #[.int .i64 n2, .int .i64 d2]] w fun e w' => e = .returned (.int .i64 1) ∧ ∃ q os, w' = grow (w.drewN q) os := by
  obtain ⟨a0, a1, a2, a3⟩ := Fr.good_bd n1 d1 h1
  obtain ⟨b0, b1, b2, b3⟩ := Fr.good_bd n2 d2 h2
  have m1 := wrap_mul n1 d2 (by omega) (by omega) (by omega) (by omega)
  have m2 := wrap_mul n2 d1 (by omega) (by omega) (by omega) (by omega)
  have q1 := frac_eq n1 d1 n2 d2
  have q2 := fun x y => frac_eqg x y n1 d1 n2 d2
  rw [h] at q1
  clear h1 h2 h
  go_enter Tryz.func123, Tryz.ntmps123
  go_wp2
  go_ret
  exact ⟨rfl, 0, _, alloc2_grow _ _ _⟩
theorem cmpG_any {p q : Int × Int} {x y : Int} {w : World} (h1 : Sh.goodF p = true) (h2 : Sh.goodF q = true) (hx : p.1 * q.2 < q.1 * p.2 ↔ x < y) (hy : q.1 * p.2 < p.1 * q.2 ↔ y < x) :
    Calls Tryz.prog 123 #[.agg #[.int .i64 p.1, .int .i64 p.2], .agg #[.int .i64 q.1, .int .i64 q.2]] w fun e w' => e = .returned (.int .i64 (cmpI x y)) ∧ ∃ q os, w' = grow (w.drewN q) os := by
  have hcs := Fr.frac_uniq p.1 p.2 q.1 q.2 h1 h2
  unfold cmpI
  cases h : (p.1 == q.1 && p.2 == q.2)
  · by_cases hl : p.1 * q.2 < q.1 * p.2
    · rw [if_pos (hx.1 hl)]
      exact cmpG_lt _ _ _ _ w h1 h2 h hl
    · have hg : q.1 * p.2 < p.1 * q.2 := by
        rcases Int.lt_or_le (q.1 * p.2) (p.1 * q.2) with e | e
        · exact e
        · have := hcs (by omega)
          simp [this.1, this.2] at h
      rw [if_neg (fun e => hl (hx.2 e)), if_pos (hy.1 hg)]
      exact cmpG_gt _ _ _ _ w h1 h2 h hl
  · simp only [Bool.and_eq_true, beq_iff_eq] at h
    obtain ⟨e1, e2⟩ := h
    rw [if_neg (fun e => by have := hx.2 e; rw [e1, e2] at this; omega), if_neg (fun e => by have := hy.2 e; rw [e1, e2] at this; omega), e1, e2]
    exact cmpG_same _ _ w

set_option maxHeartbeats 1000000 in
theorem me_any {W : World} {B b n c i j : Nat} {p q : Int × Int} {x y : Int} (hi : i < n) (hj : j < n) (hBs : B < W.heap.size) (hbs : b < W.heap.size) (hB : W.cell? ⟨B, 0, none⟩ = some (.slice (some ⟨b, 0, none⟩) n c))
    (hp1 : W.cell? ⟨b, i * 2, none⟩ = some (.int .i64 p.1)) (hp2 : W.cell? ⟨b, i * 2 + 1, none⟩ = some (.int .i64 p.2)) (hq1 : W.cell? ⟨b, j * 2, none⟩ = some (.int .i64 q.1)) (hq2 : W.cell? ⟨b, j * 2 + 1, none⟩ = some (.int .i64 q.2))
    (h1 : Sh.goodF p = true) (h2 : Sh.goodF q = true) (hx : q.1 * p.2 < p.1 * q.2 ↔ y < x) (hy : p.1 * q.2 < q.1 * p.2 ↔ x < y) :
    Calls Tryz.prog 122 #[.int .i64 i, .int .i64 j, .pointer (some ⟨B, 0, none⟩)] W fun e w' => e = .returned (.int .i64 (cmpI y x)) ∧ ∃ q os, w' = grow (W.drewN q) os := by
  have i0 : (0 : Int) ≤ (i : Int) := by omega
  have i1 : (i : Int) < (n : Int) := by omega
  have j0 : (0 : Int) ≤ (j : Int) := by omega
  have j1 : (j : Int) < (n : Int) := by omega
  have mixed : Tryz.prog.follows .mixedOrders = true := by kernel_rfl
  have lB := fun m os => cell_grown hBs hB m os
  have lp1 := fun m os => cell_grown hbs hp1 m os
  have lp2 := fun m os => cell_grown hbs hp2 m os
  have lq1 := fun m os => cell_grown hbs hq1 m os
  have lq2 := fun m os => cell_grown hbs hq2 m os
  have HC := hide fun (w : World) => cmpG_any (w := w) h2 h1 hx hy
  clear hi hj hB hp1 hp2 hq1 hq2 h1 h2 hx hy
  obtain ⟨p1, p2⟩ := p
  obtain ⟨q1, q2⟩ := q
  simp only at lp1 lp2 lq1 lq2 HC
  go_enter Tryz.func122, Tryz.ntmps122
  go_wp2_with fail
  go_quiet_grown ((go_at_call 123; exact Calls.grown_of (HC.out _)))
  go_wp2_with fail
  go_ret
  exact ⟨rfl, _, _, rfl⟩
end Go.Proofs.YtlbagigghpiifabGreat
namespace Go.Proofs.YtlbagigghpiifabGreat
open Go.RowKit Go.Sort

/-- A comparison of numbers by their values, the greater one first, that may lay blocks. -/
def CmpGr (f : Nat) (cb : Array Value) (vs : List Int) (g : Nat) (w : World) : Prop :=
  ∀ W : World, w.heap.size ≤ W.heap.size → (∀ b o, b < w.heap.size → b ≠ g → W.cell? ⟨b, o, none⟩ = w.cell? ⟨b, o, none⟩) → ∀ i j : Nat, i < vs.length → j < vs.length →
    Calls Tryz.prog f (#[.int .i64 (i : Int), .int .i64 (j : Int)] ++ cb) W fun e w' => e = .returned (.int .i64 (cmpI (Rk.val vs j) (Rk.val vs i))) ∧ ∃ q os, w' = grow (W.drewN q) os
theorem CmpGr.below {f g : Nat} {cb : Array Value} {vs : List Int} {w w' : World} (h : CmpGr f cb vs g w) (hs : w.heap.size ≤ w'.heap.size) (hB : ∀ b, b < w.heap.size → w'.heap[b]? = w.heap[b]?) : CmpGr f cb vs g w' :=
  fun W hz hW => h W (Nat.le_trans hs hz) fun b o hb hne => (hW b o (Nat.lt_of_lt_of_le hb hs) hne).trans (World.cell?_of_block (w := w) (a := ⟨b, o, none⟩) (hB b hb))
theorem cmp_lays17 {w : World} {f g m : Nat} {cb : Array Value} {vs : List Int} (hv : vs.length = m + 1) (hc : CmpGr f cb vs g w) (size : Nat) :
    CmpLays1 Tryz.prog f cb (encF m) (fun x y => cmpI (Rk.val vs y.val) (Rk.val vs x.val)) g 0 size w := by
  intro q os dk _ x y
  refine hc _ ?_ (fun b o hb hne => sort_far hb hne) x.val y.val (by rw [hv]; exact x.isLt) (by rw [hv]; exact y.isLt)
  unfold sortWorld
  rw [size_grow, size_putRow]
  exact Nat.le_add_right _ _
theorem grow_owns {w : World} {base g n c : Nat} {xs : List Value} (os : Array Obj) (h : w.ownsRow base 3 1 (.slice (some ⟨g, 0, none⟩) n c) n xs) (hg : g < w.heap.size) : (grow w os).ownsRow base 3 1 (.slice (some ⟨g, 0, none⟩) n c) n xs :=
  owns_keep h (heap_grow_old w os hg)
theorem grow_grownBy {w w1 : World} {g : Nat} (os : Array Obj) (h : w.grownBy w1 (some g)) : w.grownBy (grow w1 os) (some g) :=
  ⟨h.os, h.tape, h.output, by rw [size_grow]; exact Nat.le_trans h.size (Nat.le_add_right _ _), fun b hb hne => (heap_grow_old w1 os (Nat.lt_of_lt_of_le hb h.size)).trans (h.block b hb hne)⟩
set_option maxHeartbeats 1000000 in
theorem stable_g {w : World} {f m g base : Nat} {cb : Array Value} {vs : List Int} {d : List (Fin (m + 1))} (hm : m + 1 ≤ 12) (hd : d.length = m + 1) (hr : Rk.vals m d = List.range (m + 1)) (hv : vs.length = m + 1)
    (eg : ∀ args w, (callFunc f args).run Tryz.prog w = .ok (.enter f args) w) (hc : CmpGr f cb vs g w)
    (hown : w.ownsRow base 3 1 (.slice (some ⟨g, 0, none⟩) (m + 1) (m + 1)) (m + 1) (ints (nats (Rk.vals m d)))) :
    Calls Tryz.prog 141 #[.slice (some ⟨g, 0, none⟩) (m + 1 : Nat) (m + 1 : Nat), .int .i64 (m + 1 : Nat), .func (.func f) #[] cb] w fun e w' =>
      e = .returned (.tuple #[]) ∧ w'.ownsRow base 3 1 (.slice (some ⟨g, 0, none⟩) (m + 1) (m + 1)) (m + 1) (ints (nats (Rk.rank vs))) ∧ w.grownBy w' (some g) := by
  have hsort : Calls Tryz.prog 147 #[.slice (some ⟨g, 0, none⟩) (m + 1 : Nat) (m + 1 : Nat), .int .i64 (0 : Nat), .int .i64 (m + 1 : Nat), .func (.func f) #[] cb] w fun e w' =>
      e = .returned (.tuple #[]) ∧ w'.ownsRow base 3 1 (.slice (some ⟨g, 0, none⟩) (m + 1) (m + 1)) (m + 1) (ints (nats (Rk.rank vs))) ∧ w.grownBy w' (some g) := by
    have hg := (own_at7 hown).2
    have hsz : d.toArray.size = m + 1 := by simpa using hd
    have h := Any.insertionSortCmpFunc_s Tryz.laysSlF20_f147 (encF m) (fun x y => cmpI (Rk.val vs y.val) (Rk.val vs x.val)) f cb g 0 (m + 1) 0 (m + 1) d.toArray d.toArray w w eg
      (cmp_lays17 hv hc _) ⟨encF_one m, own_holds hd hown, hg⟩ rfl (SW.start (own_holds hd hown)) (Nat.zero_le _) (by rw [hsz]; exact Nat.le_refl _) (by rw [hsz]; omega)
    rw [hsz] at h
    refine h.mono ?_
    rintro e w' ⟨he, q, os, rfl⟩
    obtain ⟨D, hD, hDv⟩ := Rk.sorted vs m d.toArray (by simpa using hr) hv
    rw [ltOf_eq, hD]
    have hp := put_owns (d := D) (xs := nats (Rk.vals m d)) q (by have := congrArg List.length hDv; rw [Rk.rank_len, hv] at this; simpa [Rk.vals] using this) hown
    rw [hDv] at hp
    exact ⟨he, grow_owns os hp (own_at7 hp).2, grow_grownBy os put_grown⟩
  have HS := hide hsort
  have h20 : ¬ (20 : Int) ≤ ((m + 1 : Nat) : Int) := by omega
  have h21 : ¬ (20 : Int) < ((m + 1 : Nat) : Int) := by omega
  clear hsort hown hc eg
  generalize m + 1 = n at HS h20 h21 ⊢
  go_enter Tryz.func141, Tryz.ntmps141
  go_wp2_with fail
  go_loop [7, 8] (fun s t => s = .int .i64 0 ∧ t = .int .i64 20) (fun _ _ => 0)
  case atStart => exact ⟨rfl, rfl⟩
  case round =>
    obtain ⟨rfl, rfl⟩ := hrel
    go_wp2_with fail
    refine HS.out.mono ?_
    rintro e w1 ⟨rfl, h1, h2⟩
    go_wp2_with fail
    go_loop [6, 7, 8, 9] (fun s _ _ _ => s = .int .i64 20) (fun _ _ _ _ => 0)
    case atStart => rfl
    case round =>
      subst hrel
      go_wp2_with fail
      go_end0
      exact ⟨rfl, h1, h2⟩
theorem sort_g {w : World} {f m g base : Nat} {cb : Array Value} {vs : List Int} (hm : m + 1 ≤ 12) (hv : vs.length = m + 1)
    (eg : ∀ args w, (callFunc f args).run Tryz.prog w = .ok (.enter f args) w) (hc : CmpGr f cb vs g w)
    (hown : w.ownsRow base 3 1 (.slice (some ⟨g, 0, none⟩) (m + 1) (m + 1)) (m + 1) (ints (nats (List.range (m + 1))))) :
    Calls Tryz.prog 128 #[.slice (some ⟨g, 0, none⟩) (m + 1 : Nat) (m + 1 : Nat), .func (.func f) #[] cb] w fun e w' =>
      e = .returned (.tuple #[]) ∧ w'.ownsRow base 3 1 (.slice (some ⟨g, 0, none⟩) (m + 1) (m + 1)) (m + 1) (ints (nats (Rk.rank vs))) ∧ w.grownBy w' (some g) := by
  have HS := hide (stable_g hm (fins_len m) (fins_vals m) hv eg hc (by rw [fins_vals]; exact hown))
  clear hown hc eg
  generalize m + 1 = n at HS ⊢
  go_enter Tryz.func128, Tryz.ntmps128
  go_wp2_with fail
  refine HS.out.mono ?_
  rintro e w1 ⟨rfl, h1, h2⟩
  go_wp2_with fail
  go_end0
  exact ⟨rfl, h1, h2⟩
theorem sort_g' {w : World} {f n g base : Nat} {cb : Array Value} {vs : List Int} (hn0 : 1 ≤ n) (hn : n ≤ 12) (hv : vs.length = n)
    (eg : ∀ args w, (callFunc f args).run Tryz.prog w = .ok (.enter f args) w) (hc : CmpGr f cb vs g w)
    (hown : w.ownsRow base 3 1 (.slice (some ⟨g, 0, none⟩) n n) n (ints (nats (List.range n)))) :
    Calls Tryz.prog 128 #[.slice (some ⟨g, 0, none⟩) n n, .func (.func f) #[] cb] w fun e w' =>
      e = .returned (.tuple #[]) ∧ w'.ownsRow base 3 1 (.slice (some ⟨g, 0, none⟩) n n) n (ints (nats (Rk.rank vs))) ∧ w.grownBy w' (some g) := by
  obtain ⟨m, rfl⟩ : ∃ m, n = m + 1 := ⟨n - 1, by omega⟩
  exact sort_g hn hv eg hc hown
set_option maxHeartbeats 2000000 in
theorem sn_g {n f : Nat} {cb : Array Value} {vs : List Int} {w : World} (hv : vs.length = n) (hn0 : 1 ≤ n) (hn : n ≤ 12) (eg : ∀ args w, (callFunc f args).run Tryz.prog w = .ok (.enter f args) w) (hc : CmpGr f cb vs w.heap.size w) :
    Calls Tryz.prog 119 #[.int .i64 n, .func (.func f) #[] cb] w fun e w' => e = .returned (.slice (some ⟨w.heap.size, 0, none⟩) n n) ∧ Below w.heap.size w w' ∧ w'.ownsRow w.heap.size 3 1 (.slice (some ⟨w.heap.size, 0, none⟩) n n) n (ints (nats (Rk.rank vs))) := by
  have hmk := makeI_run n (by omega)
  have HV := hide hv
  have HO := hide (made_own w n (by omega))
  have HE := hide eg
  have HC := hide hc
  clear hv eg hc
  go_enter Tryz.func119, Tryz.ntmps119
  go_wp2_with fail
  go_loopw [6, 11] (fun _ s wr => ∃ (k : Nat) (ys : List Int), s = .int .i64 k ∧ k ≤ n ∧ ys.length = n ∧ Hid (ys.take k = nats (List.range k)) ∧ wr.ownsRow w.heap.size 3 1 (.slice (some ⟨w.heap.size, 0, none⟩) n n) n (ints ys) ∧ Below w.heap.size w wr) (fun _ s _ => n - (intOf s).toNat)
  case atStart => exact ⟨0, List.replicate n 0, rfl, Nat.zero_le _, by simp, hide (by simp [nats]), HO.out, (Below.refl _ _).alloc (Nat.le_refl _) _⟩
  case round =>
    obtain ⟨k, ys, rfl, hk, hy, HT, hown, hB⟩ := hrel
    by_cases hlt : k < n
    · have i0 : (0 : Int) ≤ (k : Int) := by omega
      have i1 : (k : Int) < (n : Int) := by omega
      have c0 : wr.cell? ⟨w.heap.size, k, none⟩ = some (.int .i64 (ys.getD k 0)) := by rw [hown.cellAt k (by omega), ints_get ys k (by omega)]
      have f0 := hown.frozenAt k
      obtain ⟨st1, st2⟩ := hown.stored k (.int .i64 (k : Int))
      rw [ints_set] at st1
      have HST := hide st1
      have HF := hide (fill_step ys k n hy hlt HT.out)
      clear hmk st1 hown
      go_wp2_with fail
      go_roundw
      case rel => exact ⟨k + 1, ys.set k (k : Int), by go_num, by omega, by simpa using hy, HF, HST.out, hB.setCell (Nat.le_refl _) _⟩
      case measure => simp only [intOf]; omega
    · have hke : k = n := by omega
      subst hke
      have hys : ys = nats (List.range k) := by have := HT.out; rwa [← hy, List.take_length, hy] at this
      subst hys
      have HS := hide (sort_g' hn0 hn HV.out HE.out (HC.out.below hB.size hB.block) hown)
      clear hown hmk
      go_wp2_with fail
      refine HS.out.mono ?_
      rintro e w1 ⟨rfl, h1, h2⟩
      go_wp2_with fail
      go_ret
      exact ⟨rfl, hB.trans (grownBy_below h2 (Nat.le_refl _) hB.size), h1⟩
/-- The closure that holds two goods against each other. -/
theorem mfe_cmp {b n cap : Nat} {ps cs : List Int} {w : World} (hn : ps.length = n) (hp : ∀ i, i < n → 1 ≤ ps.getD i 0 ∧ ps.getD i 0 ≤ 30) (hc : ∀ i, i < n → 1 ≤ cs.getD i 0 ∧ cs.getD i 0 ≤ 10) (hb : b < w.heap.size) (hr : RowAt w b 0 (Sh.each Sh.cost ps cs)) :
    CmpGr 122 #[.pointer (some ⟨w.heap.size, 0, none⟩)] (Hs.wt ps cs) (w.heap.size + 1) (w.alloc (.cells #[.slice (some ⟨b, 0, none⟩) n cap] 79)) := by
  intro W hz hW i j hi hj
  rw [Hs.wt_len] at hi hj
  rw [hn] at hi hj
  have hz0 : (w.alloc (.cells #[.slice (some ⟨b, 0, none⟩) n cap] 79)).heap.size = w.heap.size + 1 := by simp
  rw [hz0] at hz hW
  have hB : W.cell? ⟨w.heap.size, 0, none⟩ = some (.slice (some ⟨b, 0, none⟩) n cap) := (hW _ _ (by omega) (by omega)).trans (by simp)
  have hx : ∀ k, k < n → W.cell? ⟨b, k * 2, none⟩ = some (.int .i64 (Sh.cost (ps.getD k 0) (cs.getD k 0)).1) ∧ W.cell? ⟨b, k * 2 + 1, none⟩ = some (.int .i64 (Sh.cost (ps.getD k 0) (cs.getD k 0)).2) := fun k hk => by
    obtain ⟨h1, h2⟩ := hr k (by rw [Sh.each_len, hn]; exact hk)
    rw [Sh.each_at Sh.cost ps cs (by rw [hn]; exact hk), Nat.zero_add] at h1 h2
    exact ⟨(hW _ _ (by omega) (by omega)).trans ((((Below.refl w.heap.size w).alloc (Nat.le_refl _) _).cell (p := ⟨b, k * 2, none⟩) hb).trans h1), (hW _ _ (by omega) (by omega)).trans ((((Below.refl w.heap.size w).alloc (Nat.le_refl _) _).cell (p := ⟨b, k * 2 + 1, none⟩) hb).trans h2)⟩
  obtain ⟨p1, p2⟩ := hp i hi
  obtain ⟨q1, q2⟩ := hp j hj
  obtain ⟨c1, c2⟩ := hc i hi
  obtain ⟨d1, d2⟩ := hc j hj
  rw [Hs.wt_at ps cs (i := i) (by rw [hn]; exact hi), Hs.wt_at ps cs (i := j) (by rw [hn]; exact hj)]
  exact me_any hi hj (by omega) (by omega) hB (hx i hi).1 (hx i hi).2 (hx j hj).1 (hx j hj).2 (Hs.cost_good p1 p2 c1 c2) (Hs.cost_good q1 q2 d1 d2)
    ((Hs.cross_lt (by omega) (by omega)).trans (Hs.wt_lt d1 d2 c1 c2).symm) ((Hs.cross_lt (by omega) (by omega)).trans (Hs.wt_lt c1 c2 d1 d2).symm)
set_option maxHeartbeats 2000000 in
theorem mfe_any {a b o p : Option Addr} {n m q c d e f : Nat} {ps cs : List Int} {w : World} (HM : Hid (cs.length = m)) (HR : Hid (ps.length = m)) (HF : Hid (Sh.flowB ps = true)) (HC : Hid (Hs.cntB cs = true)) (HB : Hid (ARow w b cs)) (HP : Hid (ARow w p ps)) :
    Calls Tryz.prog 109 #[.agg #[.slice a n c, .slice b m d, .slice o q e, .slice p m f]] w fun e w' => ∃ g, e = .returned (.slice (some ⟨g, 0, none⟩) m m) ∧ Below w.heap.size w w' ∧ w.heap.size ≤ g ∧ Ow w' g m (nats (Hs.goodsL ps cs)) := by
  have hb0 := below_new w (.cells #[.slice a n c, .slice b m d, .slice o q e, .slice p m f] 90)
  have HB1 := hide (HB.out.below hb0)
  have HP1 := hide (HP.out.below hb0)
  have HB0 := hide hb0
  have m1 : 1 ≤ m ∧ m ≤ 8 := by have := Sh.flowB_yes HF.out; have := HR.out; omega
  obtain ⟨m1, m8⟩ := m1
  have HS : Hid (Sh.sharedB ps cs = true) := hide (by
    obtain ⟨_, _, h3, h4⟩ := Hs.cntB_yes HC.out
    exact Sh.sharedB_of HF.out (by rw [HM.out, HR.out]) (Pf.allB_of fun i hi => by have := Pf.inB_yes (Pf.allB_get h3 hi); exact Pf.inB_of (by omega) (by omega)) (by omega))
  have HL : Hid ((Sh.each Sh.cost ps cs).length = m) := hide (by rw [Sh.each_len]; exact HR.out)
  have HEK := hide (eachK_any (c := f) (d := d) Sh.cost (enters_of Tryz.func85 (by kernel_rfl) rfl) (hide fun f c w f0 f1 c0 c1 => lowest_pos f c w (by omega) (by omega) (by omega) (by omega)) HP1 HR HB1 HS)
  clear hb0
  go_enter Tryz.func109, Tryz.ntmps109
  go_wp2_with fail
  refine HEK.out.mono ?_
  rintro _ w1 ⟨v, rfl, hb1, own1⟩
  obtain ⟨g, cap, rfl, g0, g1, row1⟩ := (frow_owns HL.out own1).resolve_left (fun h => by have := h.2; omega)
  have HB2 := hide (HB0.out.trans (hb1.mono HB0.out.size))
  have hcmp := mfe_cmp (cap := cap) HR.out (fun i hi => Sh.flowB_at HF.out (by rw [HR.out]; exact hi)) (fun i hi => Hs.cntB_at HC.out (by rw [HM.out]; exact hi)) g1 row1
  have hb2 := below_new w1 (.cells #[.slice (some ⟨g, 0, none⟩) m cap] 79)
  have hz : (w1.alloc (.cells #[.slice (some ⟨g, 0, none⟩) m cap] 79)).heap.size = w1.heap.size + 1 := by simp
  have HSN := hide (sn_g (w := w1.alloc (.cells #[.slice (some ⟨g, 0, none⟩) m cap] 79)) (cb := #[.pointer (some ⟨w1.heap.size, 0, none⟩)]) (vs := Hs.wt ps cs) (by rw [Hs.wt_len]; exact HR.out) m1 (by omega) (enters_of Tryz.func122 (by kernel_rfl) rfl) (by rw [hz]; exact hcmp))
  rw [hz] at HSN
  have HB3 := hide (HB2.out.trans (hb2.mono HB2.out.size))
  have HZ := hide hz
  have hwz := HB2.out.size
  clear hb1 own1 row1 hcmp hb2 hz HEK
  go_wp2_with fail
  refine HSN.out.mono ?_
  rintro _ w2 ⟨rfl, hb3, own3⟩
  obtain ⟨O3, _⟩ := Ow.mk' own3
  have HB4 := hide (HB3.out.trans (hb3.mono (by have := HB3.out.size; have := HZ.out; omega)))
  have HO := hide O3
  clear own3 O3 hb3
  go_wp2_with fail
  go_ret
  exact ⟨_, rfl, HB4.out, by omega, HO.out⟩
end Go.Proofs.YtlbagigghpiifabGreat
