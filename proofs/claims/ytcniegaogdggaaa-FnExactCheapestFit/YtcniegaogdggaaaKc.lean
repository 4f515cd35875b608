/-
  Plain facts, of no program: costs, prices, what holds and what is tight, rows less their least number.
-/
import Derived.Test.YtcniegaogdggaaaKb
namespace Go.Proofs.Ytcniegaogdggaaa.Hu

def rowB (n : Nat) (r : List Int) : Bool := decide (r.length = n) && Pf.allB r 0 100
def costB (c : List (List Int)) : Bool := (decide (1 ≤ c.length) && decide (c.length ≤ 10)) && c.all (rowB c.length)
theorem costB_row {c : List (List Int)} (h : costB c = true) {i : Nat} (hi : i < c.length) : (c.getD i []).length = c.length ∧ Pf.allB (c.getD i []) 0 100 = true := by
  simp only [costB, Bool.and_eq_true, List.all_eq_true] at h
  have h2 := h.2 (c.getD i []) (by rw [List.getD_eq_getElem?_getD, List.getElem?_eq_getElem hi]; exact List.getElem_mem _)
  simpa [rowB] using h2
theorem costB_len {c : List (List Int)} (h : costB c = true) : 1 ≤ c.length ∧ c.length ≤ 10 := by
  simp only [costB, Bool.and_eq_true, decide_eq_true_eq] at h; exact h.1
theorem costB_not {c : List (List Int)} {i : Nat} (hi : i < c.length) (h : rowB c.length (c.getD i []) = false) : costB c = false := by
  cases e : costB c
  · rfl
  · have := costB_row e hi
    rw [rowB, this.1, this.2] at h
    simp at h
theorem costB_of {c : List (List Int)} (h1 : 1 ≤ c.length) (h2 : c.length ≤ 10) (h : ∀ i, i < c.length → rowB c.length (c.getD i []) = true) : costB c = true := by
  simp only [costB, Bool.and_eq_true, decide_eq_true_eq, List.all_eq_true]
  refine ⟨⟨h1, h2⟩, fun r hr => ?_⟩
  obtain ⟨i, hi, rfl⟩ := List.getElem_of_mem hr
  have := h i hi
  rwa [List.getD_eq_getElem?_getD, List.getElem?_eq_getElem hi] at this
theorem costB_good {c : List (List Int)} (h : costB c = true) : Good c c.length := by
  refine ⟨fun i hi b hb => ?_⟩
  obtain ⟨h1, h2⟩ := costB_row h hi
  exact Pf.inB_yes (Pf.allB_get h2 (by omega))

def fcB (c : List (List Int)) (os : List Int) : Bool := costB c && Od.ordB os c.length
def fcI (c : List (List Int)) (os : List Int) : Int := if fcB c os then costTo c os c.length else 0
def prB (us vs : List Int) : Bool := decide (us.length = vs.length) && (decide (us.length ≤ 10) && (Pf.allB us (-100000) 100000 && Pf.allB vs (-100000) 100000))
theorem prB_yes {us vs : List Int} (h : prB us vs = true) : us.length = vs.length ∧ us.length ≤ 10 ∧ Pf.allB us (-100000) 100000 = true ∧ Pf.allB vs (-100000) 100000 = true := by
  simpa [prB] using h
def psI (us vs : List Int) : Int := if prB us vs then us.sum + vs.sum else 0
def bothB (c : List (List Int)) (us vs : List Int) : Bool := costB c && (prB us vs && decide (us.length = c.length))
theorem bothB_yes {c : List (List Int)} {us vs : List Int} (h : bothB c us vs = true) : costB c = true ∧ prB us vs = true ∧ us.length = c.length := by
  simpa [bothB] using h
/-- Both prices against the cost. -/
def fitsAt (c : List (List Int)) (us vs : List Int) (i b : Nat) : Bool := decide (us.getD i 0 + vs.getD b 0 ≤ ct c i b)
def tightAt (c : List (List Int)) (us vs : List Int) (i b : Nat) : Bool := decide (us.getD i 0 + vs.getD b 0 = ct c i b)
def holdB (c : List (List Int)) (us vs : List Int) : Bool := (List.range c.length).all fun i => (List.range c.length).all fun b => fitsAt c us vs i b
theorem holdB_iff {c : List (List Int)} {us vs : List Int} : holdB c us vs = true ↔ ∀ i, i < c.length → ∀ b, b < c.length → us.getD i 0 + vs.getD b 0 ≤ ct c i b := by
  simp [holdB, fitsAt]
def phI (c : List (List Int)) (us vs : List Int) : Bool := bothB c us vs && holdB c us vs
def tightR (c : List (List Int)) (us vs : List Int) (i : Nat) : List Bool := (List.range c.length).map (tightAt c us vs i)
def tightL (c : List (List Int)) (us vs : List Int) : List (List Bool) := (List.range c.length).map (tightR c us vs)
def taL (c : List (List Int)) (us vs : List Int) : List (List Bool) := if bothB c us vs then tightL c us vs else []

theorem sum_tab (f : Fn) (n : Nat) : (tab n f).sum = sumTo f n := (sumTo_range f n).symm
theorem tab_self {xs : List Int} : tab xs.length (fun i => xs.getD i 0) = xs := by
  apply List.ext_getElem
  · simp [tab]
  · intro i h1 h2; simp [tab, h2]
theorem sum_self (xs : List Int) : xs.sum = sumTo (fun i => xs.getD i 0) xs.length := by
  rw [← sum_tab, tab_self]

/-- What CheapestFit answers. -/
def cfF (c : List (List Int)) : List Int := if costB c then fitL c c.length else []
def cfU (c : List (List Int)) : List Int := if costB c then loadsL c c.length else []
def cfV (c : List (List Int)) : List Int := if costB c then binsL c c.length else []
theorem cf_len {c : List (List Int)} (h : costB c = true) : (cfF c).length = c.length ∧ (cfU c).length = c.length ∧ (cfV c).length = c.length := by
  simp [cfF, cfU, cfV, h, fitL, loadsL, binsL, tab_len]
theorem cf_fit {c : List (List Int)} (h : costB c = true) : fcB c (cfF c) = true := by
  rw [fcB, h, cfF, if_pos h, fit_ord (costB_good h)]; rfl
theorem cf_bd {c : List (List Int)} (h : costB c = true) : Pf.allB (cfU c) 0 100 = true ∧ Pf.allB (cfV c) (-100) 0 = true := by
  have hg := costB_good h
  have ho := fit_ou hg c.length (Nat.le_refl _)
  obtain ⟨_, l2, l3⟩ := cf_len h
  refine ⟨Pf.allB_of fun i hi => ?_, Pf.allB_of fun i hi => ?_⟩
  · rw [l2] at hi
    rw [cfU, if_pos h, loadsL, tab_get _ hi]
    exact Pf.inB_of (ho.pr.up i hi) (ho.ub i hi)
  · rw [l3] at hi
    rw [cfV, if_pos h, binsL, tab_get _ hi]
    have := ho.vl hg (Nat.le_refl _) i hi
    exact Pf.inB_of this.1 this.2
theorem cf_prices {c : List (List Int)} (h : costB c = true) : bothB c (cfU c) (cfV c) = true := by
  obtain ⟨h1, h2⟩ := cf_bd h
  obtain ⟨_, l2, l3⟩ := cf_len h
  have hl := costB_len h
  have w1 : Pf.allB (cfU c) (-100000) 100000 = true := Pf.allB_of fun i hi => by
    have := Pf.inB_yes (Pf.allB_get h1 hi); exact Pf.inB_of (by omega) (by omega)
  have w2 : Pf.allB (cfV c) (-100000) 100000 = true := Pf.allB_of fun i hi => by
    have := Pf.inB_yes (Pf.allB_get h2 hi); exact Pf.inB_of (by omega) (by omega)
  simp [bothB, prB, h, l2, l3, w1, w2, hl.2]
theorem cf_pr {c : List (List Int)} (h : costB c = true) : prB (cfU c) (cfV c) = true := (bothB_yes (cf_prices h)).2.1
theorem cf_hold {c : List (List Int)} (h : costB c = true) : holdB c (cfU c) (cfV c) = true := by
  refine holdB_iff.2 fun i hi b hb => ?_
  have := (fit_ou (costB_good h) c.length (Nat.le_refl _)).pr.fe i hi b hb
  rw [cfU, if_pos h, cfV, if_pos h, loadsL, binsL, tab_get _ hi, tab_get _ hb]
  exact this
theorem cf_tight {c : List (List Int)} (h : costB c = true) {i : Nat} (hi : i < c.length) : tightAt c (cfU c) (cfV c) i (Od.nth (cfF c) i) = true := by
  have hn : Od.nth (cfF c) i < c.length := by
    rw [cfF, if_pos h]; exact Od.nth_lt (fit_ord (costB_good h)) hi
  have := fit_tight (costB_good h) hi
  rw [tightAt, decide_eq_true_eq, cfU, if_pos h, cfV, if_pos h, loadsL, binsL, tab_get _ hi]
  rw [cfF, if_pos h] at hn ⊢
  rw [tab_get _ hn]
  exact this
/-- The cheapest fit costs as much as its prices together (Egervary). -/
theorem cf_cost {c : List (List Int)} (h : costB c = true) : fcI c (cfF c) = psI (cfU c) (cfV c) := by
  rw [fcI, cf_fit h, psI, cf_pr h, if_pos rfl, if_pos rfl, cfF, if_pos h, cfU, if_pos h, cfV, if_pos h, loadsL, binsL, sum_tab, sum_tab]
  exact strong (costB_good h)
theorem hold_le {c : List (List Int)} {us vs os : List Int} (hb : bothB c us vs = true) (hh : holdB c us vs = true) (ho : Od.ordB os c.length = true) : psI us vs ≤ fcI c os := by
  obtain ⟨h1, h2, h3⟩ := bothB_yes hb
  have h4 := (prB_yes h2).1
  rw [psI, h2, if_pos rfl, fcI, fcB, h1, ho]
  simp only [Bool.and_self, if_true]
  rw [sum_self us, sum_self vs, ← h4, h3]
  exact weak ho (holdB_iff.1 hh)
/-- No other order costs less. -/
theorem cf_least {c : List (List Int)} {os : List Int} (h : fcB c os = true) : psI (cfU c) (cfV c) ≤ fcI c os := by
  simp only [fcB, Bool.and_eq_true] at h
  exact hold_le (cf_prices h.1) (cf_hold h.1) h.2
theorem cf_weak {c : List (List Int)} {us vs : List Int} (hb : bothB c us vs = true) (hh : holdB c us vs = true) : psI us vs ≤ fcI c (cfF c) := by
  have h := (bothB_yes hb).1
  refine hold_le hb hh ?_
  rw [cfF, if_pos h]; exact fit_ord (costB_good h)

/-- The least of the first k, or the first. -/
def leastTo (r : List Int) : Nat → Int
  | 0 => r.getD 0 0
  | k + 1 => if r.getD k 0 < leastTo r k then r.getD k 0 else leastTo r k
def lst (r : List Int) : Int := leastTo r r.length
theorem leastTo_le (r : List Int) : ∀ k, ∀ i, i < k → leastTo r k ≤ r.getD i 0
  | 0, i, h => by omega
  | k + 1, i, h => by
    rw [leastTo]
    by_cases e : i = k
    · subst e; split <;> omega
    · have := leastTo_le r k i (by omega)
      split <;> omega
theorem leastTo_is (r : List Int) : ∀ k, k ≤ r.length → 0 < r.length → ∃ i, i < r.length ∧ leastTo r k = r.getD i 0
  | 0, _, h => ⟨0, h, rfl⟩
  | k + 1, hk, h => by
    rw [leastTo]
    split
    · exact ⟨k, by omega, rfl⟩
    · exact leastTo_is r k (by omega) h
def redR (r : List Int) : List Int := r.map fun x => x - lst r
def redL (c : List (List Int)) : List (List Int) := c.map redR
theorem redR_len (r : List Int) : (redR r).length = r.length := by simp [redR]
theorem redR_get (r : List Int) {i : Nat} (h : i < r.length) : (redR r).getD i 0 = r.getD i 0 - lst r := by simp [redR, h]
theorem redL_len (c : List (List Int)) : (redL c).length = c.length := by simp [redL]
theorem redL_get (c : List (List Int)) {i : Nat} (h : i < c.length) : (redL c).getD i [] = redR (c.getD i []) := by simp [redL, h]
theorem lst_bd {r : List Int} (h : Pf.allB r 0 100 = true) (hl : 0 < r.length) : 0 ≤ lst r ∧ lst r ≤ 100 := by
  obtain ⟨i, hi, e⟩ := leastTo_is r r.length (Nat.le_refl _) hl
  rw [lst, e]
  exact Pf.inB_yes (Pf.allB_get h hi)
theorem redR_all {r : List Int} (h : Pf.allB r 0 100 = true) : Pf.allB (redR r) 0 100 = true := by
  refine Pf.allB_of fun i hi => ?_
  rw [redR_len] at hi
  rw [redR_get r hi]
  have h1 := Pf.inB_yes (Pf.allB_get h hi)
  have h2 := lst_bd h (by omega)
  have h3 := leastTo_le r r.length i hi
  unfold lst at *
  exact Pf.inB_of (by omega) (by omega)
theorem red_good {c : List (List Int)} (h : costB c = true) : costB (redL c) = true := by
  have hl := costB_len h
  refine costB_of (by rw [redL_len]; exact hl.1) (by rw [redL_len]; exact hl.2) fun i hi => ?_
  rw [redL_len] at hi ⊢
  rw [redL_get c hi]
  obtain ⟨h1, h2⟩ := costB_row h hi
  rw [rowB, redR_len, h1, redR_all h2]
  simp
theorem red_ct {c : List (List Int)} (h : costB c = true) {i b : Nat} (hi : i < c.length) (hb : b < c.length) : ct (redL c) i b = ct c i b - lst (c.getD i []) := by
  rw [ct, redL_get c hi, redR_get _ (by rw [(costB_row h hi).1]; exact hb)]; rfl
theorem red_cost {c : List (List Int)} (h : costB c = true) {os : List Int} (ho : Od.ordB os c.length = true) : ∀ k, k ≤ c.length → costTo c os k = costTo (redL c) os k + sumTo (fun i => lst (c.getD i [])) k
  | 0, _ => by simp [costTo, sumTo]
  | k + 1, hk => by
    have h1 := red_cost h ho k (by omega)
    have h2 := red_ct h (show k < c.length by omega) (Od.nth_lt ho (show k < c.length by omega))
    simp only [costTo, sumTo]; omega
/-- What was taken of each row, seen at its first number. -/
def offTo (c : List (List Int)) : Nat → Int
  | 0 => 0
  | k + 1 => offTo c k + (ct c k 0 - ct (redL c) k 0)
theorem off_sum {c : List (List Int)} (h : costB c = true) : ∀ k, k ≤ c.length → offTo c k = sumTo (fun i => lst (c.getD i [])) k
  | 0, _ => rfl
  | k + 1, hk => by
    have h1 := off_sum h k (by omega)
    have h2 := red_ct h (show k < c.length by omega) (show 0 < c.length by omega)
    simp only [offTo, sumTo]; omega
/-- Rows less their least number make the fit just that much cheaper. -/
theorem red_fit {c : List (List Int)} (h : costB c = true) : fcI c (cfF c) = fcI (redL c) (cfF (redL c)) + offTo c c.length := by
  have hr := red_good h
  have e1 := cf_cost h
  have e2 := cf_cost hr
  have hl := redL_len c
  have o1 : Od.ordB (cfF c) c.length = true := by rw [cfF, if_pos h]; exact fit_ord (costB_good h)
  have o2 : Od.ordB (cfF (redL c)) c.length = true := by
    rw [cfF, if_pos hr]
    have := fit_ord (costB_good hr)
    rwa [hl] at this ⊢
  have f1 : fcB c (cfF (redL c)) = true := by rw [fcB, h, o2]; rfl
  have f2 : fcB (redL c) (cfF c) = true := by rw [fcB, hr, hl, o1]; rfl
  have g1 := cf_least f1
  have g2 := cf_least f2
  have c1 := red_cost h o1 c.length (Nat.le_refl _)
  have c2 := red_cost h o2 c.length (Nat.le_refl _)
  have v1 : fcI c (cfF c) = costTo c (cfF c) c.length := by rw [fcI, cf_fit h]; rfl
  have v2 : fcI (redL c) (cfF (redL c)) = costTo (redL c) (cfF (redL c)) c.length := by rw [fcI, cf_fit hr, hl]; rfl
  have v3 : fcI c (cfF (redL c)) = costTo c (cfF (redL c)) c.length := by rw [fcI, f1]; rfl
  have v4 : fcI (redL c) (cfF c) = costTo (redL c) (cfF c) c.length := by rw [fcI, f2, hl]; rfl
  have e3 := off_sum h c.length (Nat.le_refl _)
  omega
/-- What a fit costs is small. -/
theorem costTo_bd {c : List (List Int)} (h : costB c = true) {os : List Int} (ho : Od.ordB os c.length = true) : ∀ k, k ≤ c.length → 0 ≤ costTo c os k ∧ costTo c os k ≤ 100 * (k : Int)
  | 0, _ => by simp [costTo]
  | k + 1, hk => by
    have h1 := costTo_bd h ho k (by omega)
    have h2 := (costB_good h).cl k (by omega) _ (Od.nth_lt ho (show k < c.length by omega))
    simp only [costTo]; omega
end Go.Proofs.Ytcniegaogdggaaa.Hu
