/-
  Plain facts, of no program: trades, lots over days, lots on given days, the least costs, the best days and what their lots cost (Wagner and Whitin).
-/
import Derived.Test.YticekgjgknfloaaKj
import Derived.Test.YticekgjgknfloaaJb
namespace Go.Proofs.Yticekgjgknfloaa.Lo
open Bx (sumTo lev sum_eq sum_const sum_le sum_pos sum_only lev_sum)
open Lt

abbrev fn (l : List Int) : Nat → Int := fun i => l.getD i 0
def goodB (nd : List Int) (S K : Int) : Bool := Pf.inB nd.length 1 10 && (Pf.allB nd 0 20 && (Pf.inB S 0 100 && Pf.inB K 0 10))
structure Good (nd : List Int) (S K : Int) : Prop where
  n1 : 1 ≤ nd.length
  n10 : nd.length ≤ 10
  all : Pf.allB nd 0 20 = true
  s0 : 0 ≤ S
  s1 : S ≤ 100
  k0 : 0 ≤ K
  k1 : K ≤ 10
theorem good_of {nd : List Int} {S K : Int} (h : goodB nd S K = true) : Good nd S K := by
  simp only [goodB, Bool.and_eq_true] at h
  have h1 := Pf.inB_yes h.1
  have h2 := Pf.inB_yes h.2.2.1
  have h3 := Pf.inB_yes h.2.2.2
  exact ⟨by omega, by omega, h.2.1, h2.1, h2.2, h3.1, h3.2⟩
theorem Good.bd {nd : List Int} {S K : Int} (h : Good nd S K) (i : Nat) : 0 ≤ fn nd i ∧ fn nd i ≤ 20 := by
  by_cases hi : i < nd.length
  · exact Pf.inB_yes (Pf.allB_get h.all hi)
  · simp [fn, show nd.length ≤ i by omega]
theorem sum_bd {f : Nat → Int} {lo hi : Int} : ∀ n, (∀ i, i < n → lo ≤ f i ∧ f i ≤ hi) → lo * (n : Int) ≤ sumTo f n ∧ sumTo f n ≤ hi * (n : Int)
  | 0, _ => by simp [sumTo]
  | n + 1, h => by
    have h1 := sum_bd n fun i hi => h i (by omega)
    have h2 := h n (by omega)
    simp only [sumTo]
    rw [Int.natCast_succ, Int.mul_add, Int.mul_add]
    omega
/-- What is left is never below nothing. -/
def enB (nd lots : List Int) : Bool := (List.range lots.length).all fun i => decide (0 ≤ left (fn nd) (fn lots) (i + 1))
def lotsB (nd : List Int) (S K : Int) (lots : List Int) : Bool := goodB nd S K && (decide (lots.length = nd.length) && Pf.allB lots 0 200)
def okB (nd : List Int) (S K : Int) (lots : List Int) : Bool := lotsB nd S K lots && enB nd lots
def lcI (nd : List Int) (S K : Int) (lots : List Int) : Int := if okB nd S K lots then cst S K (fn nd) (fn lots) nd.length else 0
def lean (nd lots : List Int) : Bool := (List.range lots.length).all fun i => !(decide (0 < fn lots i) && decide (0 < left (fn nd) (fn lots) i))
def ilB (nd : List Int) (S K : Int) (lots : List Int) : Bool := okB nd S K lots && lean nd lots
theorem en_at {nd lots : List Int} (h : enB nd lots = true) {i : Nat} (hi : i < lots.length) : 0 ≤ left (fn nd) (fn lots) (i + 1) := by
  simpa using List.all_eq_true.1 h i (by simpa using hi)
theorem en_of {nd lots : List Int} (h : ∀ i, i < lots.length → 0 ≤ left (fn nd) (fn lots) (i + 1)) : enB nd lots = true := List.all_eq_true.2 fun i hi => by
  simpa using h i (by simpa using hi)
theorem en_not {nd lots : List Int} {i : Nat} (hi : i < lots.length) (h : left (fn nd) (fn lots) (i + 1) < 0) : enB nd lots = false := by
  cases e : enB nd lots
  · rfl
  · have := en_at e hi; omega
theorem lean_of {nd lots : List Int} (h : ∀ i, i < lots.length → ¬ (0 < fn lots i ∧ 0 < left (fn nd) (fn lots) i)) : lean nd lots = true := List.all_eq_true.2 fun i hi => by
  have := h i (by simpa using hi)
  cases e1 : decide (0 < fn lots i) <;> cases e2 : decide (0 < left (fn nd) (fn lots) i) <;> simp only [Bool.and_self, Bool.and_false, Bool.and_true, Bool.not_false, Bool.not_true] <;> first | rfl | skip
  exact absurd ⟨of_decide_eq_true e1, of_decide_eq_true e2⟩ this
theorem lean_not {nd lots : List Int} {i : Nat} (hi : i < lots.length) (h1 : 0 < fn lots i) (h2 : 0 < left (fn nd) (fn lots) i) : lean nd lots = false := by
  cases e : lean nd lots
  · rfl
  · have := List.all_eq_true.1 e i (by simpa using hi)
    simp only [h1, h2, decide_true, Bool.and_self, Bool.not_true, Bool.false_eq_true] at this
theorem left_zero (nd lots : Nat → Int) : left nd lots 0 = 0 := rfl
theorem left_succ (nd lots : Nat → Int) (j : Nat) : left nd lots (j + 1) = left nd lots j + (lots j - nd j) := by
  simp only [left, sumTo]; omega
theorem cst_succ (S K : Int) (nd lots : Nat → Int) (t : Nat) : cst S K nd lots (t + 1) = cst S K nd lots t + ((if 0 < lots t then S else 0) + K * left nd lots (t + 1)) := rfl
/-- How much lies there and costs, at most. -/
theorem left_bd {nd lots : Nat → Int} (n : Nat) (h1 : ∀ i, i < n → 0 ≤ nd i ∧ nd i ≤ 20) (h2 : ∀ i, i < n → 0 ≤ lots i ∧ lots i ≤ 200) : -20 * (n : Int) ≤ left nd lots n ∧ left nd lots n ≤ 200 * (n : Int) := by
  have a := sum_bd n h1
  have b := sum_bd n h2
  unfold left
  omega
theorem cst_bd {S K : Int} {nd lots : Nat → Int} (n : Nat) (s0 : 0 ≤ S) (s1 : S ≤ 100) (k0 : 0 ≤ K) (k1 : K ≤ 10) (h : ∀ j, j ≤ n → 0 ≤ left nd lots j ∧ left nd lots j ≤ 2000) : 0 ≤ cst S K nd lots n ∧ cst S K nd lots n ≤ 20100 * (n : Int) := by
  have := sum_bd (f := fun i => (if 0 < lots i then S else 0) + K * left nd lots (i + 1)) (lo := 0) (hi := 20100) n fun i hi => by
    have h1 := h (i + 1) (by omega)
    have h2 : 0 ≤ K * left nd lots (i + 1) := Int.mul_nonneg k0 h1.1
    have h3 : K * left nd lots (i + 1) ≤ 10 * 2000 := Int.mul_le_mul k1 h1.2 h1.1 (by omega)
    show 0 ≤ (if 0 < lots i then S else 0) + K * left nd lots (i + 1) ∧ (if 0 < lots i then S else 0) + K * left nd lots (i + 1) ≤ 20100
    split <;> omega
  rw [Int.zero_mul] at this
  exact this
/-- The latest of some days, up to a day. -/
def lat (days : List Int) : Nat → Nat
  | 0 => 0
  | k + 1 => if days.contains ((k + 1 : Nat) : Int) then k + 1 else lat days k
theorem lat_le (days : List Int) : ∀ k, lat days k ≤ k
  | 0 => Nat.le_refl _
  | k + 1 => by
    rw [lat]; split
    · exact Nat.le_refl _
    · have := lat_le days k; omega
theorem lat_in (days : List Int) (h0 : days.contains (0 : Int) = true) : ∀ k, days.contains ((lat days k : Nat) : Int) = true
  | 0 => h0
  | k + 1 => by
    rw [lat]; split
    · assumption
    · exact lat_in days h0 k
theorem le_lat {days : List Int} {x : Nat} (hx : days.contains (x : Int) = true) : ∀ k, x ≤ k → x ≤ lat days k
  | 0, h => by omega
  | k + 1, h => by
    rw [lat]; split
    · exact h
    · rename_i hc
      by_cases e : x = k + 1
      · subst e; exact absurd hx hc
      · exact le_lat hx k (by omega)
theorem lat_self {days : List Int} {x : Nat} (hx : days.contains (x : Int) = true) : lat days x = x := Nat.le_antisymm (lat_le _ _) (le_lat hx x (Nat.le_refl _))
/-- From one day up to the next of them. -/
theorem lat_seg {days : List Int} {d t k : Nat} (hd : days.contains (d : Int) = true) (hn : ∀ x : Nat, days.contains (x : Int) = true → x < t → x ≤ d) (h0 : days.contains (0 : Int) = true) (h1 : d ≤ k) (h2 : k < t) : lat days k = d := by
  have a := le_lat hd k h1
  have b := hn _ (lat_in days h0 k) (by have := lat_le days k; omega)
  omega
def tbl (n : Nat) (f : Nat → Int) : List Int := (List.range n).map f
theorem tbl_len (n : Nat) (f : Nat → Int) : (tbl n f).length = n := by simp [tbl]
theorem tbl_get {n : Nat} (f : Nat → Int) {i : Nat} (h : i < n) : (tbl n f).getD i 0 = f i := by simp [tbl, h]
theorem tbl_set {n : Nat} {f g : Nat → Int} {i : Nat} {x : Int} (h1 : g i = x) (h2 : ∀ j, j < n → j ≠ i → g j = f j) : (tbl n f).set i x = tbl n g := by
  refine List.ext_getElem (by simp [tbl]) fun j hj1 hj2 => ?_
  have hj : j < n := by simpa [tbl] using hj2
  by_cases e : i = j
  · subst e; simp [tbl, h1]
  · simp [tbl, e, h2 j hj (fun e' => e e'.symm)]
theorem tbl_eq {n : Nat} {f g : Nat → Int} (h : ∀ i, i < n → f i = g i) : tbl n f = tbl n g := List.map_congr_left fun i hi => h i (by simpa using hi)
theorem tbl_self (l : List Int) : tbl l.length (fn l) = l := by
  refine List.ext_getElem (by simp [tbl]) fun j hj1 hj2 => ?_
  simp [tbl, fn, hj2]
theorem tbl_zero (n : Nat) : tbl n (fun _ => 0) = List.replicate n 0 := by
  refine List.ext_getElem (by simp [tbl]) fun j hj1 hj2 => ?_
  simp [tbl]
/-- Lots on these days alone. -/
def lotsL (nd days : List Int) : List Int := tbl nd.length fun d => lev (lat days) (fn nd) nd.length d
def dayB (days : List Int) (n : Nat) : Bool := decide (0 < days.length) && (days.getD 0 0 == 0) && Ma.riseB days n
def lfB (nd : List Int) (S K : Int) (days : List Int) : Bool := goodB nd S K && dayB days nd.length
def lfL (nd : List Int) (S K : Int) (days : List Int) : List Int := if lfB nd S K days then lotsL nd days else []
def edL (nd : List Int) (S K : Int) : List Int := if goodB nd S K then nd else []
def ctL (nd : List Int) (S K : Int) : List Int := if goodB nd S K then tab S K (fn nd) nd.length else []
theorem lots_len (nd days : List Int) : (lotsL nd days).length = nd.length := tbl_len _ _
theorem lots_at {nd days : List Int} {d : Nat} (h : d < nd.length) : fn (lotsL nd days) d = lev (lat days) (fn nd) nd.length d := tbl_get _ h
/-- What has come on some days' lots by a day. -/
theorem lots_sum {nd days : List Int} {t : Nat} (ht : t ≤ nd.length) : sumTo (fn (lotsL nd days)) t = sumTo (fun i => if lat days i < t then fn nd i else 0) nd.length := by
  rw [← lev_sum]
  exact sum_eq t fun i hi => lots_at (by omega)
theorem sum_cut {f : Nat → Int} {t : Nat} : ∀ n, t ≤ n → sumTo (fun i => if i < t then f i else 0) n = sumTo f t
  | 0, h => by
    have : t = 0 := by omega
    subst this; rfl
  | n + 1, h => by
    by_cases e : t = n + 1
    · subst e; exact sum_eq _ fun i hi => by rw [if_pos hi]
    · simp only [sumTo]
      rw [sum_cut n (by omega), if_neg (by omega)]; omega
theorem left_nn {nd days : List Int} (h : ∀ i, 0 ≤ fn nd i) {t : Nat} (ht : t ≤ nd.length) : 0 ≤ left (fn nd) (fn (lotsL nd days)) t := by
  unfold left
  rw [lots_sum ht, ← sum_cut (f := fn nd) nd.length ht]
  have := sum_le (f := fun i => if i < t then fn nd i else 0) (g := fun i => if lat days i < t then fn nd i else 0) nd.length fun i hi => by
    have h1 := lat_le days i
    have h2 := h i
    show (if i < t then fn nd i else 0) ≤ (if lat days i < t then fn nd i else 0)
    split <;> split <;> omega
  omega
/-- Nothing is left where a day of these begins, or all days end. -/
theorem left_day {nd days : List Int} {t : Nat} (ht : t ≤ nd.length) (hb : t = nd.length ∨ days.contains (t : Int) = true) : left (fn nd) (fn (lotsL nd days)) t = 0 := by
  unfold left
  rw [lots_sum ht, ← sum_cut (f := fn nd) nd.length ht]
  have : sumTo (fun i => if lat days i < t then fn nd i else 0) nd.length = sumTo (fun i => if i < t then fn nd i else 0) nd.length := sum_eq _ fun i hi => by
    have h1 := lat_le days i
    by_cases e : i < t
    · rw [if_pos e, if_pos (by omega)]
    · rw [if_neg e, if_neg]
      rcases hb with hb | hb
      · omega
      · have := le_lat hb i (by omega); omega
  omega
theorem lots_day {nd days : List Int} {i : Nat} (hi : i < nd.length) (h0 : days.contains (0 : Int) = true) (hl : 0 < fn (lotsL nd days) i) : days.contains (i : Int) = true := by
  rw [lots_at hi] at hl
  obtain ⟨j, hj, e⟩ := Bx.lev_some (q := lat days) (x := fn nd) (k := nd.length) (b := i) (by omega)
  rw [← e]
  exact lat_in days h0 j
theorem lots_bd {nd days : List Int} {S K : Int} (hg : Good nd S K) {i : Nat} (hi : i < nd.length) : 0 ≤ fn (lotsL nd days) i ∧ fn (lotsL nd days) i ≤ 200 := by
  rw [lots_at hi]
  refine ⟨Bx.lev_nonneg (fun j _ => (hg.bd j).1) i, ?_⟩
  have := sum_bd (f := fun j => if lat days j = i then fn nd j else 0) (lo := 0) (hi := 20) nd.length fun j hj => by
    have := hg.bd j
    show 0 ≤ (if lat days j = i then fn nd j else 0) ∧ (if lat days j = i then fn nd j else 0) ≤ 20
    split <;> omega
  have h10 := hg.n10
  have : lev (lat days) (fn nd) nd.length i ≤ 20 * (nd.length : Int) := this.2
  omega
/-- Lots on days are enough and lean, and as much as is needed. -/
theorem lots_ok {nd days : List Int} {S K : Int} (hg : goodB nd S K = true) : okB nd S K (lotsL nd days) = true := by
  have g := good_of hg
  simp only [okB, lotsB, hg, lots_len, decide_true, Bool.true_and, Bool.and_eq_true]
  refine ⟨Pf.allB_of fun i hi => ?_, en_of fun i hi => left_nn (fun j => (g.bd j).1) (by rw [lots_len] at hi; omega)⟩
  rw [lots_len] at hi
  have := lots_bd (days := days) g hi
  exact Pf.inB_of this.1 this.2
theorem lots_lean {nd days : List Int} (h0 : days.contains (0 : Int) = true) : lean nd (lotsL nd days) = true := lean_of fun i hi => by
  rw [lots_len] at hi
  rintro ⟨h1, h2⟩
  have := left_day (nd := nd) (t := i) (by omega) (Or.inr (lots_day hi h0 h1))
  omega
theorem sumTo_sum (l : List Int) : ∀ k, k ≤ l.length → sumTo (fn l) k = (l.take k).sum
  | 0, _ => by simp [sumTo]
  | k + 1, h => by
    rw [Pf.take_sum_succ l k (by omega), ← sumTo_sum l k (by omega)]; rfl
theorem sum_all (l : List Int) : sumTo (fn l) l.length = l.sum := by rw [sumTo_sum l _ (Nat.le_refl _), List.take_length]
theorem lots_all (nd days : List Int) : (lotsL nd days).sum = nd.sum := by
  have := left_day (nd := nd) (days := days) (t := nd.length) (Nat.le_refl _) (Or.inl rfl)
  unfold left at this
  rw [← sum_all, ← sum_all, lots_len]
  omega
/-- One lot for the days up to the next one. -/
theorem seg_cost {S K : Int} {nd f : Nat → Int} {d t : Nat} (h : d < t) (hl : left nd f d = 0) (hd : f d = seg nd d t) (hz : ∀ j, d < j → j < t → f j = 0) : cst S K nd f t = cst S K nd f d + one S K nd d t := by
  have hs : ∀ m, d < m → m ≤ t → sumTo f m = sumTo f d + seg nd d t := by
    intro m
    induction m with
    | zero => intro h1; omega
    | succ m ih =>
      intro h1 h2
      simp only [sumTo]
      by_cases e : m = d
      · subst e; rw [hd]
      · rw [ih (by omega) (by omega), hz m (by omega) (by omega)]; omega
  have hlm : ∀ m, d < m → m ≤ t → left nd f m = seg nd m t := by
    intro m h1 h2
    have := hs m h1 h2
    unfold left seg at *
    omega
  have hc : ∀ m, d < m → m ≤ t → cst S K nd f m = cst S K nd f d + (if 0 < seg nd d t then S else 0) + K * sumTo (fun i => if d ≤ i then seg nd (i + 1) t else 0) m := by
    intro m
    induction m with
    | zero => intro h1; omega
    | succ m ih =>
      intro h1 h2
      rw [cst_succ, hlm (m + 1) h1 h2]
      have e2 : sumTo (fun i => if d ≤ i then seg nd (i + 1) t else 0) (m + 1) = sumTo (fun i => if d ≤ i then seg nd (i + 1) t else 0) m + seg nd (m + 1) t := by
        simp only [sumTo]; rw [if_pos (show d ≤ m by omega)]
      rw [e2, Int.mul_add]
      by_cases e : m = d
      · subst e
        have e3 : sumTo (fun i => if m ≤ i then seg nd (i + 1) t else 0) m = 0 := by
          have : sumTo (fun i => if m ≤ i then seg nd (i + 1) t else 0) m = sumTo (fun _ => 0) m := sum_eq m fun i hi => by rw [if_neg (by omega)]
          rw [this, sum_const]; omega
        rw [e3, hd]; omega
      · rw [ih (by omega) (by omega), hz m (by omega) (by omega)]
        simp only [Int.lt_irrefl, if_false]
        omega
  rw [hc t h (Nat.le_refl _), kp_left]
  unfold one
  omega
/-- What the least costs come from, from the latest day back. -/
def at_ (S K : Int) (nd : Nat → Int) (t d : Nat) : Int := T S K nd d + one S K nd d t
def dn (S K : Int) (nd : Nat → Int) (t : Nat) : Nat → Nat
  | 0 => 0
  | d + 1 => if at_ S K nd t (d + 1) = T S K nd t then d + 1 else dn S K nd t d
theorem dn_le (S K : Int) (nd : Nat → Int) (t : Nat) : ∀ d, dn S K nd t d ≤ d
  | 0 => Nat.le_refl _
  | d + 1 => by
    rw [dn]; split
    · exact Nat.le_refl _
    · have := dn_le S K nd t d; omega
theorem dn_is {S K : Int} {nd : Nat → Int} {t : Nat} : ∀ d, (∃ x, x ≤ d ∧ at_ S K nd t x = T S K nd t) → at_ S K nd t (dn S K nd t d) = T S K nd t
  | 0, ⟨x, hx, h⟩ => by
    have : x = 0 := by omega
    subst this; exact h
  | d + 1, ⟨x, hx, h⟩ => by
    rw [dn]; split
    · assumption
    · rename_i hn
      refine dn_is d ⟨x, ?_, h⟩
      by_cases e : x = d + 1
      · subst e; exact absurd h hn
      · omega
def last (S K : Int) (nd : Nat → Int) (t : Nat) : Nat := dn S K nd t (t - 1)
theorem last_lt {S K : Int} {nd : Nat → Int} {t : Nat} (h : 0 < t) : last S K nd t < t := by
  have := dn_le S K nd t (t - 1)
  unfold last; omega
theorem last_is {S K : Int} {nd : Nat → Int} {t : Nat} (h : 0 < t) : at_ S K nd t (last S K nd t) = T S K nd t := by
  obtain ⟨d, h1, h2⟩ := T_is S K nd h
  exact dn_is _ ⟨d, by omega, h2.symm⟩
/-- A day that is still to be looked at: found, or there is one ahead of it. -/
theorem dn_stop {S K : Int} {nd : Nat → Int} {t d : Nat} (h : at_ S K nd t d = T S K nd t) : dn S K nd t d = d := by
  cases d with
  | zero => rfl
  | succ d => rw [dn, if_pos h]
theorem dn_go {S K : Int} {nd : Nat → Int} {t d : Nat} (h0 : 0 < t) (hl : dn S K nd t d = last S K nd t) (h : at_ S K nd t d ≠ T S K nd t) : 1 ≤ d ∧ dn S K nd t (d - 1) = last S K nd t := by
  cases d with
  | zero =>
    have := last_is (S := S) (K := K) (nd := nd) h0
    rw [← hl] at this
    exact absurd this h
  | succ d => rw [dn, if_neg h] at hl; exact ⟨by omega, hl⟩
def bd (S K : Int) (nd : Nat → Int) (t : Nat) (acc : List Int) : List Int :=
  if _h : 0 < t then bd S K nd (last S K nd t) (((last S K nd t : Nat) : Int) :: acc) else acc
termination_by t
decreasing_by exact last_lt (by assumption)
theorem bd_zero (S K : Int) (nd : Nat → Int) (acc : List Int) : bd S K nd 0 acc = acc := by rw [bd]; simp
theorem bd_pos {S K : Int} {nd : Nat → Int} {t : Nat} (h : 0 < t) (acc : List Int) : bd S K nd t acc = bd S K nd (last S K nd t) (((last S K nd t : Nat) : Int) :: acc) := by rw [bd, dif_pos h]
def bdL (nd : List Int) (S K : Int) : List Int := bd S K (fn nd) nd.length []
/-- What holds of the days that were found. -/
structure Ch (S K : Int) (nd : Nat → Int) (n t : Nat) (acc : List Int) : Prop where
  tn : t ≤ n
  head : t = n ∨ acc.getD 0 0 = (t : Int) ∧ 0 < acc.length
  all : ∀ i, i < acc.length → ∃ x : Nat, acc.getD i 0 = (x : Int) ∧ t ≤ x ∧ x < n
  rise : ∀ i, i + 1 < acc.length → acc.getD i 0 < acc.getD (i + 1) 0
  link : ∀ s : Nat, (s = n ∨ acc.contains (s : Int) = true) → t < s → acc.contains ((last S K nd s : Nat) : Int) = true ∧ ∀ x : Nat, acc.contains (x : Int) = true → x < s → x ≤ last S K nd s
theorem mem_at {l : List Int} {x : Int} (h : l.contains x = true) : ∃ i, i < l.length ∧ l.getD i 0 = x := by
  simp only [List.contains_eq_mem, decide_eq_true_eq] at h
  obtain ⟨i, hi, e⟩ := List.mem_iff_getElem.1 h
  exact ⟨i, hi, by simp [hi, e]⟩
theorem Ch.low {S K : Int} {nd : Nat → Int} {n t : Nat} {acc : List Int} (h : Ch S K nd n t acc) {x : Nat} (hx : acc.contains (x : Int) = true) : t ≤ x ∧ x < n := by
  obtain ⟨i, hi, e⟩ := mem_at hx
  obtain ⟨y, e2, h1, h2⟩ := h.all i hi
  omega
theorem Ch.start (S K : Int) (nd : Nat → Int) (n : Nat) : Ch S K nd n n [] := ⟨Nat.le_refl _, Or.inl rfl, fun i hi => absurd hi (by simp), fun i hi => absurd hi (by simp), fun s hs h => by
  rcases hs with rfl | hs
  · omega
  · simp at hs⟩
theorem Ch.step {S K : Int} {nd : Nat → Int} {n t : Nat} {acc : List Int} (h : Ch S K nd n t acc) (h0 : 0 < t) : Ch S K nd n (last S K nd t) (((last S K nd t : Nat) : Int) :: acc) := by
  have hl := last_lt (S := S) (K := K) (nd := nd) h0
  have htn := h.tn
  refine ⟨by omega, Or.inr ⟨rfl, by simp⟩, ?_, ?_, ?_⟩
  · intro i hi
    cases i with
    | zero => exact ⟨_, rfl, Nat.le_refl _, by omega⟩
    | succ i =>
      obtain ⟨x, e, h1, h2⟩ := h.all i (by simpa using hi)
      exact ⟨x, e, by omega, h2⟩
  · intro i hi
    cases i with
    | zero =>
      obtain ⟨x, e, h1, h2⟩ := h.all 0 (by simpa using hi)
      show ((last S K nd t : Nat) : Int) < acc.getD 0 0
      omega
    | succ i => exact h.rise i (by simpa using hi)
  · intro s hs hlt
    have memc : ∀ y : Int, ((((last S K nd t : Nat) : Int) :: acc).contains y = true) ↔ (y = ((last S K nd t : Nat) : Int) ∨ acc.contains y = true) := fun y => by
      simp [List.contains_eq_mem]
    rcases Nat.lt_trichotomy s t with hst | hst | hst
    · rcases hs with hs | hs
      · omega
      · rcases (memc _).1 hs with hs | hs
        · omega
        · have := (h.low hs).1; omega
    · subst hst
      refine ⟨(memc _).2 (Or.inl rfl), fun x hx hxs => ?_⟩
      rcases (memc _).1 hx with hx | hx
      · omega
      · have := (h.low hx).1; omega
    · have hs' : s = n ∨ acc.contains (s : Int) = true := by
        rcases hs with hs | hs
        · exact Or.inl hs
        · rcases (memc _).1 hs with hs | hs
          · omega
          · exact Or.inr hs
      obtain ⟨k1, k2⟩ := h.link s hs' hst
      refine ⟨(memc _).2 (Or.inr k1), fun x hx hxs => ?_⟩
      rcases (memc _).1 hx with hx | hx
      · have := (h.low k1).1; omega
      · exact k2 x hx hxs
theorem bd_ch {S K : Int} {nd : Nat → Int} {n : Nat} : ∀ t acc, Ch S K nd n t acc → Ch S K nd n 0 (bd S K nd t acc) := by
  intro t
  induction t using Nat.strongRecOn with
  | _ t ih =>
    intro acc h
    by_cases h0 : 0 < t
    · rw [bd_pos h0]
      exact ih _ (last_lt h0) _ (h.step h0)
    · have : t = 0 := by omega
      subst this
      rw [bd_zero]; exact h
/-- The days are rising, the first one 0. -/
theorem Ch.days {S K : Int} {nd : Nat → Int} {n : Nat} {D : List Int} (h : Ch S K nd n 0 D) (hn : 0 < n) : dayB D n = true := by
  have hh : D.getD 0 0 = 0 ∧ 0 < D.length := by
    rcases h.head with e | e
    · omega
    · exact e
  simp only [dayB, hh.1, hh.2, decide_true, Bool.true_and, beq_self_eq_true]
  refine List.all_eq_true.2 fun i hi => ?_
  have hi' : i < D.length := by simpa using hi
  obtain ⟨x, e, _, h2⟩ := h.all i hi'
  unfold Ma.riseAt Ma.least
  refine Pf.inB_of ?_ (by omega)
  split
  · omega
  · have := h.rise (i - 1) (by omega)
    rw [show i - 1 + 1 = i by omega] at this
    omega
theorem bdL_days {nd : List Int} {S K : Int} (h : 0 < nd.length) : dayB (bdL nd S K) nd.length = true := (bd_ch _ _ (Ch.start S K (fn nd) nd.length)).days h
theorem day_zero {D : List Int} {n : Nat} (h : dayB D n = true) : D.contains (0 : Int) = true := by
  simp only [dayB, Bool.and_eq_true, decide_eq_true_eq, beq_iff_eq] at h
  have : D[0]'h.1.1 = 0 := by have := h.1.2; rwa [Pf.getD_lt D 0 h.1.1] at this
  rw [List.contains_eq_mem, decide_eq_true_eq, ← this]
  exact List.getElem_mem _
/-- The lots of the best days cost what the table tells. -/
theorem best_cost {nd : List Int} {S K : Int} (hg : Good nd S K) : cst S K (fn nd) (fn (lotsL nd (bdL nd S K))) nd.length = T S K (fn nd) nd.length := by
  have hc := bd_ch _ _ (Ch.start S K (fn nd) nd.length)
  have h0 := day_zero (bdL_days (S := S) (K := K) (nd := nd) hg.n1)
  show cst S K (fn nd) (fn (lotsL nd (bd S K (fn nd) nd.length []))) nd.length = _
  change (bd S K (fn nd) nd.length []).contains (0 : Int) = true at h0
  generalize bd S K (fn nd) nd.length [] = D at *
  have key : ∀ t, t ≤ nd.length → (t = nd.length ∨ D.contains (t : Int) = true) → cst S K (fn nd) (fn (lotsL nd D)) t = T S K (fn nd) t := by
    intro t
    induction t using Nat.strongRecOn with
    | _ t ih =>
      intro htn ht
      by_cases e : t = 0
      · subst e; rfl
      obtain ⟨k1, k2⟩ := hc.link t ht (by omega)
      have hlt := last_lt (S := S) (K := K) (nd := fn nd) (t := t) (by omega)
      have hls := last_is (S := S) (K := K) (nd := fn nd) (t := t) (by omega)
      generalize last S K (fn nd) t = d at *
      have hq : ∀ j, d ≤ j → j < t → lat D j = d := fun j h1 h2 => lat_seg k1 k2 h0 h1 h2
      have hq2 : ∀ j, t ≤ j → j < nd.length → t ≤ lat D j := fun j h1 h2 => by
        rcases ht with ht | ht
        · omega
        · exact le_lat ht j h1
      have hq3 : ∀ j, j < d → lat D j < d := fun j h1 => by have := lat_le D j; omega
      have hz : ∀ j, d < j → j < t → fn (lotsL nd D) j = 0 := fun j h1 h2 => by
        rw [lots_at (by omega)]
        refine Bx.lev_none fun i hi => ?_
        by_cases a : i < d
        · have := hq3 i a; omega
        · by_cases b : i < t
          · have := hq i (by omega) b; omega
          · have := hq2 i (by omega) hi; omega
      have hld := left_day (nd := nd) (days := D) (t := d) (by omega) (Or.inr k1)
      have hlt' := left_day (nd := nd) (days := D) (t := t) htn ht
      have hd : fn (lotsL nd D) d = seg (fn nd) d t := by
        have a : sumTo (fn (lotsL nd D)) t = sumTo (fn (lotsL nd D)) (d + 1) := sum_stay t (by omega) fun j h1 h2 => hz j (by omega) h2
        have b : sumTo (fn (lotsL nd D)) (d + 1) = sumTo (fn (lotsL nd D)) d + fn (lotsL nd D) d := rfl
        unfold left at hld hlt'
        unfold seg
        omega
      rw [seg_cost hlt hld hd hz, ih d hlt (by omega) (Or.inr k1), ← hls]
      rfl
  exact key _ (Nat.le_refl _) (Or.inl rfl)
end Go.Proofs.Yticekgjgknfloaa.Lo
