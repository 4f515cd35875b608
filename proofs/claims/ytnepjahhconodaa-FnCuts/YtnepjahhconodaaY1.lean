/-
  In one: Math, A, B, C, D, E, F, Q, R, S, Xi, Rk, Pf, Pa, Hv, Pb, Yf, Pg, Hs, Jc0, Qw0, Qa, Lm13, Gg13, Ha, Hb, Hc.
-/
import Derived.Test.YtnepjahhconodaaRows
import Derived.WalkKit
import Derived.WalkSpells
import Derived.WalkLawsBesides
import Derived.Deep.QuietTactic
import Derived.BigQuiet
import Derived.Laws.StructEq
import Derived.Deep.RegionHeld3
import Derived.OwnWalk
import Derived.Laws.AppendOwn
import Derived.Laws.OwnMore
import Derived.Sort.WalkA
import Derived.Lib.AppendZeros
import Derived.Deep.AppendLies
import Derived.Deep.DeepCutAuto
import Derived.Deep.RegionLaw
namespace Go.Proofs.Ytnepjahhconodaa.Fr
def g (a b : Int) : Int := (Int.gcd a b : Int)
def mkN (n d : Int) : Int := if d < 0 then (-n).tdiv (g n d) else n.tdiv (g n d)
def mkD (n d : Int) : Int := if d < 0 then (-d).tdiv (g n d) else d.tdiv (g n d)
def partB (n : Int) : Bool := decide (-1000000000 ≤ n ∧ n ≤ 1000000000)
def goodB (n d : Int) : Bool := decide (-1000000000 ≤ n ∧ n ≤ 1000000000 ∧ 1 ≤ d ∧ d ≤ 1000000000 ∧ g n d = 1)
def fitN (n d : Int) : Int := if goodB n d = true then n else 0
def fitD (n d : Int) : Int := if goodB n d = true then d else 0

theorem g_nonneg (a b : Int) : 0 ≤ g a b := by unfold g; omega
theorem g_pos (a b : Int) (h : b ≠ 0) : 0 < g a b := by
  unfold g
  have : 0 < Int.gcd a b := Int.gcd_pos_of_ne_zero_right a h
  omega
theorem g_step (a b : Int) : g b (a.tmod b) = g a b := by
  unfold g Int.gcd
  rw [Int.natAbs_tmod, Nat.gcd_comm b.natAbs, ← Nat.gcd_rec, Nat.gcd_comm]
theorem g_zero (a : Int) : g a 0 = a.natAbs := by unfold g; simp
theorem g_abs (a b : Int) : g a.natAbs b.natAbs = g a b := by unfold g Int.gcd; simp
theorem g_neg (a b : Int) : g (-a) (-b) = g a b := by unfold g Int.gcd; simp
theorem g_negl (a b : Int) : g (-a) b = g a b := by unfold g Int.gcd; simp
theorem g_negr (a b : Int) : g a (-b) = g a b := by unfold g Int.gcd; simp
theorem g_dvdl (a b : Int) : g a b ∣ a := Int.gcd_dvd_left a b
theorem g_dvdr (a b : Int) : g a b ∣ b := Int.gcd_dvd_right a b
theorem g_le (a b : Int) (h : b ≠ 0) : g a b ≤ b.natAbs := by
  have h1 : 0 < (b.natAbs : Int) := by omega
  have h2 : g a b ∣ (b.natAbs : Int) := by rw [Int.dvd_natAbs]; exact g_dvdr a b
  exact Int.le_of_dvd h1 h2
theorem tmod_lt (a b : Int) (h : b ≠ 0) : (a.tmod b).natAbs < b.natAbs := by
  rw [Int.natAbs_tmod]; exact Nat.mod_lt _ (by omega)
theorem tdiv_abs (a b : Int) : (a.tdiv b).natAbs ≤ a.natAbs := by
  rw [Int.natAbs_tdiv]; exact Nat.div_le_self _ _
theorem mk_iff (n d : Int) (h : 1 ≤ d) : (n = mkN n d ∧ d = mkD n d) ↔ g n d = 1 := by
  have hn : ¬ d < 0 := by omega
  unfold mkN mkD
  rw [if_neg hn, if_neg hn]
  constructor
  · rintro ⟨_, h2⟩
    obtain ⟨k, hk⟩ := g_dvdr n d
    have hp := g_pos n d (by omega)
    generalize g n d = G at *
    have e : d.tdiv G = k := by rw [hk]; exact Int.mul_tdiv_cancel_left k (by omega)
    rw [e] at h2
    subst h2
    exact Int.eq_of_mul_eq_mul_right (a := d) (by omega) (by omega)
  · intro e; rw [e]; simp
theorem mkN_abs (n d : Int) : (mkN n d).natAbs ≤ n.natAbs := by
  unfold mkN; split
  · have := tdiv_abs (-n) (g n d); omega
  · exact tdiv_abs _ _
theorem mkD_abs (n d : Int) : (mkD n d).natAbs ≤ d.natAbs := by
  unfold mkD; split
  · have := tdiv_abs (-d) (g n d); omega
  · exact tdiv_abs _ _
theorem goodB_iff (n d : Int) : goodB n d = true ↔ (-1000000000 ≤ n ∧ n ≤ 1000000000 ∧ 1 ≤ d ∧ d ≤ 1000000000 ∧ g n d = 1) := by unfold goodB; simp
theorem good_of_mk (n d : Int) (h1 : partB n = true) (h2 : partB d = true) (h3 : 0 < d) : goodB n d = ((n == mkN n d) && (d == mkD n d)) := by
  have := mk_iff n d (by omega)
  unfold partB at h1 h2
  simp at h1 h2
  rw [Bool.eq_iff_iff, goodB_iff]
  simp only [Bool.and_eq_true, beq_iff_eq, this]
  omega
theorem good_n1 (n d : Int) (h : partB n = false) : goodB n d = false := by
  unfold partB at h; unfold goodB; simp at h ⊢; omega
theorem good_n2 (n d : Int) (h : partB d = false) : goodB n d = false := by
  unfold partB at h; unfold goodB; simp at h ⊢; omega
theorem good_n3 (n d : Int) (h : d ≤ 0) : goodB n d = false := by
  unfold goodB; simp; omega
theorem mul_bd (x y : Int) (hx0 : -1000000000 ≤ x) (hx1 : x ≤ 1000000000) (hy0 : -1000000000 ≤ y) (hy1 : y ≤ 1000000000) : -1000000000000000000 ≤ x * y ∧ x * y ≤ 1000000000000000000 := by
  have h : (x * y).natAbs ≤ 1000000000 * 1000000000 := by rw [Int.natAbs_mul]; exact Nat.mul_le_mul (by omega) (by omega)
  omega
theorem good_bd (n d : Int) (h : goodB n d = true) : -1000000000 ≤ n ∧ n ≤ 1000000000 ∧ 1 ≤ d ∧ d ≤ 1000000000 := by
  rw [goodB_iff] at h; omega
theorem den_pos (d1 d2 : Int) (h1 : 1 ≤ d1) (h2 : 1 ≤ d2) : 1 ≤ d1 * d2 := by
  have : 0 < d1 * d2 := Int.mul_pos (by omega) (by omega)
  omega
def addN (n1 d1 n2 d2 : Int) : Int := if goodB n1 d1 && goodB n2 d2 then fitN (mkN (n1 * d2 + n2 * d1) (d1 * d2)) (mkD (n1 * d2 + n2 * d1) (d1 * d2)) else 0
def addD (n1 d1 n2 d2 : Int) : Int := if goodB n1 d1 && goodB n2 d2 then fitD (mkN (n1 * d2 + n2 * d1) (d1 * d2)) (mkD (n1 * d2 + n2 * d1) (d1 * d2)) else 0
def addB (n1 d1 n2 d2 : Int) : Bool := goodB n1 d1 && goodB n2 d2 && goodB (mkN (n1 * d2 + n2 * d1) (d1 * d2)) (mkD (n1 * d2 + n2 * d1) (d1 * d2))
def mulN (n1 d1 n2 d2 : Int) : Int := if goodB n1 d1 && goodB n2 d2 then fitN (mkN (n1 * n2) (d1 * d2)) (mkD (n1 * n2) (d1 * d2)) else 0
def mulD (n1 d1 n2 d2 : Int) : Int := if goodB n1 d1 && goodB n2 d2 then fitD (mkN (n1 * n2) (d1 * d2)) (mkD (n1 * n2) (d1 * d2)) else 0
def mulB (n1 d1 n2 d2 : Int) : Bool := goodB n1 d1 && goodB n2 d2 && goodB (mkN (n1 * n2) (d1 * d2)) (mkD (n1 * n2) (d1 * d2))
def divN (n1 d1 n2 d2 : Int) : Int := if goodB n1 d1 && goodB n2 d2 && n2 != 0 then fitN (mkN (n1 * d2) (d1 * n2)) (mkD (n1 * d2) (d1 * n2)) else 0
def divD (n1 d1 n2 d2 : Int) : Int := if goodB n1 d1 && goodB n2 d2 && n2 != 0 then fitD (mkN (n1 * d2) (d1 * n2)) (mkD (n1 * d2) (d1 * n2)) else 0
def divB (n1 d1 n2 d2 : Int) : Bool := goodB n1 d1 && goodB n2 d2 && n2 != 0 && goodB (mkN (n1 * d2) (d1 * n2)) (mkD (n1 * d2) (d1 * n2))
def flr (n d : Int) : Int := if n.tmod d < 0 then n.tdiv d - 1 else n.tdiv d
def lessB (n1 d1 n2 d2 : Int) : Bool := decide (n1 * d2 < n2 * d1)
/-- The sum from the front on, as far as each sum on the way is good. -/
def sumL : List (Int × Int) → Int → Int → Option (Int × Int)
  | [], n, d => some (n, d)
  | x :: r, n, d => if addB n d x.1 x.2 = true then sumL r (addN n d x.1 x.2) (addD n d x.1 x.2) else none
def sumN (l : List (Int × Int)) : Int := if l.length ≤ 50 then ((sumL l 0 1).getD (0, 0)).1 else 0
def sumD (l : List (Int × Int)) : Int := if l.length ≤ 50 then ((sumL l 0 1).getD (0, 0)).2 else 0
def sumB (l : List (Int × Int)) : Bool := decide (l.length ≤ 50) && (sumL l 0 1).isSome
theorem drop_get (xs : List (Int × Int)) (k : Nat) (h : k < xs.length) : xs.drop k = xs.getD k (0, 0) :: xs.drop (k + 1) := by
  rw [List.drop_eq_getElem_cons h, List.getD_eq_getElem?_getD, List.getElem?_eq_getElem h]; rfl
theorem sumL_step (xs : List (Int × Int)) (k : Nat) (n d : Int) (x : Int × Int) (h : k < xs.length) (hx : xs.getD k (0, 0) = x) (hb : addB n d x.1 x.2 = true) : sumL (xs.drop k) n d = sumL (xs.drop (k + 1)) (addN n d x.1 x.2) (addD n d x.1 x.2) := by
  rw [drop_get xs k h, hx]; simp [sumL, hb]
theorem sumL_stop (xs : List (Int × Int)) (k : Nat) (n d : Int) (x : Int × Int) (h : k < xs.length) (hx : xs.getD k (0, 0) = x) (hb : addB n d x.1 x.2 = false) : sumL (xs.drop k) n d = none := by
  rw [drop_get xs k h, hx]; simp [sumL, hb]
theorem sum_none (xs : List (Int × Int)) (h : sumL xs 0 1 = none) : sumN xs = 0 ∧ sumD xs = 0 ∧ sumB xs = false := by
  unfold sumN sumD sumB; rw [h]; simp
theorem sum_some (xs : List (Int × Int)) (hl : xs.length ≤ 50) (n d : Int) (h : sumL xs 0 1 = some (n, d)) : sumN xs = n ∧ sumD xs = d ∧ sumB xs = true := by
  unfold sumN sumD sumB; rw [h]; simp [hl]
theorem sum_long (xs : List (Int × Int)) (hl : 50 < xs.length) : sumN xs = 0 ∧ sumD xs = 0 ∧ sumB xs = false := by
  have : ¬ xs.length ≤ 50 := by omega
  unfold sumN sumD sumB; simp [this]
theorem cop_dvd (a b c : Int) (h : Int.gcd a b = 1) (hd : a ∣ b * c) : a ∣ c := by
  rw [← Int.natAbs_dvd_natAbs] at hd ⊢
  rw [Int.natAbs_mul] at hd
  exact Nat.Coprime.dvd_of_dvd_mul_left (show Nat.Coprime a.natAbs b.natAbs from h) hd
theorem frac_uniq (n1 d1 n2 d2 : Int) (h1 : goodB n1 d1 = true) (h2 : goodB n2 d2 = true) (h : n1 * d2 = n2 * d1) : n1 = n2 ∧ d1 = d2 := by
  rw [goodB_iff] at h1 h2
  obtain ⟨_, _, p1, _, g1⟩ := h1
  obtain ⟨_, _, p2, _, g2⟩ := h2
  have c1 : Int.gcd d1 n1 = 1 := by unfold g at g1; rw [Int.gcd_comm]; omega
  have c2 : Int.gcd d2 n2 = 1 := by unfold g at g2; rw [Int.gcd_comm]; omega
  have e1 : d1 ∣ d2 := by
    have : d1 ∣ n1 * d2 := by rw [h]; exact Int.dvd_mul_left _ _
    exact cop_dvd d1 n1 d2 c1 this
  have e2 : d2 ∣ d1 := by
    have : d2 ∣ n2 * d1 := by rw [← h]; exact Int.dvd_mul_left _ _
    exact cop_dvd d2 n2 d1 c2 this
  have ed : d1 = d2 := Int.dvd_antisymm (by omega) (by omega) e1 e2
  subst ed
  exact ⟨Int.eq_of_mul_eq_mul_right (by omega) h, rfl⟩
theorem less_cases (n1 d1 n2 d2 : Int) (h1 : goodB n1 d1 = true) (h2 : goodB n2 d2 = true) :
    (lessB n1 d1 n2 d2 = true ∧ lessB n2 d2 n1 d1 = false) ∨ (lessB n1 d1 n2 d2 = false ∧ lessB n2 d2 n1 d1 = true) ∨ (lessB n1 d1 n2 d2 = false ∧ lessB n2 d2 n1 d1 = false ∧ n1 = n2 ∧ d1 = d2) := by
  unfold lessB
  by_cases a : n1 * d2 < n2 * d1
  · left; simp [a]; omega
  · by_cases b : n2 * d1 < n1 * d2
    · right; left; simp [b]; omega
    · right; right
      have := frac_uniq n1 d1 n2 d2 h1 h2 (by omega)
      refine ⟨by simp; omega, by simp; omega, this.1, this.2⟩
def subN (n1 d1 n2 d2 : Int) : Int := if goodB n1 d1 && goodB n2 d2 then fitN (mkN (n1 * d2 - n2 * d1) (d1 * d2)) (mkD (n1 * d2 - n2 * d1) (d1 * d2)) else 0
def subD (n1 d1 n2 d2 : Int) : Int := if goodB n1 d1 && goodB n2 d2 then fitD (mkN (n1 * d2 - n2 * d1) (d1 * d2)) (mkD (n1 * d2 - n2 * d1) (d1 * d2)) else 0
def subB (n1 d1 n2 d2 : Int) : Bool := goodB n1 d1 && goodB n2 d2 && goodB (mkN (n1 * d2 - n2 * d1) (d1 * d2)) (mkD (n1 * d2 - n2 * d1) (d1 * d2))
theorem mkN_neg_iff (n d : Int) (hd : 0 < d) : mkN n d < 0 ↔ n < 0 := by
  have hg := g_pos n d (by omega)
  unfold mkN
  rw [if_neg (by omega)]
  obtain ⟨k, hk⟩ := g_dvdl n d
  generalize g n d = G at *
  have e : n.tdiv G = k := by rw [hk]; exact Int.mul_tdiv_cancel_left k (by omega)
  rw [e, hk]
  constructor
  · intro h; exact Int.mul_neg_of_pos_of_neg hg h
  · intro h
    rcases Int.lt_or_le k 0 with h' | h'
    · exact h'
    · have := Int.mul_nonneg (by omega : 0 ≤ G) h'; omega
theorem sub_less (n1 d1 n2 d2 : Int) (h1 : goodB n1 d1 = true) (h2 : goodB n2 d2 = true) (h : subB n1 d1 n2 d2 = true) : lessB n1 d1 n2 d2 = decide (subN n1 d1 n2 d2 < 0) := by
  have p1 := good_bd n1 d1 h1
  have p2 := good_bd n2 d2 h2
  unfold subB at h
  rw [h1, h2] at h
  simp at h
  unfold subN fitN
  rw [h1, h2]
  simp only [Bool.and_self, if_true, h]
  have := mkN_neg_iff (n1 * d2 - n2 * d1) (d1 * d2) (by have := den_pos d1 d2 p1.2.2.1 p2.2.2.1; omega)
  unfold lessB
  rw [Bool.eq_iff_iff]
  simp only [decide_eq_true_eq, this]
  omega
theorem flr_spec (n d : Int) (hd : 1 ≤ d) : flr n d * d ≤ n ∧ n < (flr n d + 1) * d := by
  have e := Int.tmod_add_mul_tdiv n d
  have hl := tmod_lt n d (by omega)
  unfold flr
  split
  · rename_i h
    constructor
    · have : (n.tdiv d - 1) * d = d * n.tdiv d - d := by rw [Int.sub_mul, Int.one_mul, Int.mul_comm]
      rw [this]; omega
    · have : (n.tdiv d - 1 + 1) * d = d * n.tdiv d := by rw [Int.sub_add_cancel, Int.mul_comm]
      rw [this]; omega
  · rename_i h
    constructor
    · rw [Int.mul_comm]; omega
    · have : (n.tdiv d + 1) * d = d * n.tdiv d + d := by rw [Int.add_mul, Int.one_mul, Int.mul_comm]
      rw [this]; omega
theorem sumL_snoc (ys : List (Int × Int)) (x : Int × Int) : ∀ n d, sumL (ys ++ [x]) n d = (sumL ys n d).bind fun p => if addB p.1 p.2 x.1 x.2 = true then some (addN p.1 p.2 x.1 x.2, addD p.1 p.2 x.1 x.2) else none := by
  induction ys with
  | nil => intro n d; simp [sumL]
  | cons y r ih =>
    intro n d
    simp only [List.cons_append, sumL]
    split
    · exact ih _ _
    · rfl
theorem sum_back (ys : List (Int × Int)) (x : Int × Int) (h : sumB (ys ++ [x]) = true) : sumB ys = true ∧ addB (sumN ys) (sumD ys) x.1 x.2 = true ∧ addN (sumN ys) (sumD ys) x.1 x.2 = sumN (ys ++ [x]) ∧ addD (sumN ys) (sumD ys) x.1 x.2 = sumD (ys ++ [x]) := by
  unfold sumB at h
  simp only [List.length_append, List.length_cons, List.length_nil, Bool.and_eq_true, decide_eq_true_eq] at h
  obtain ⟨hl, hs⟩ := h
  rw [sumL_snoc] at hs
  cases e : sumL ys 0 1 with
  | none => rw [e] at hs; simp at hs
  | some p =>
    rw [e] at hs
    simp only [Option.bind_some] at hs
    have hadd : addB p.1 p.2 x.1 x.2 = true := by
      cases hh : addB p.1 p.2 x.1 x.2
      · rw [hh] at hs; simp at hs
      · rfl
    have s1 := sum_some ys (by omega) p.1 p.2 e
    have e2 : sumL (ys ++ [x]) 0 1 = some (addN p.1 p.2 x.1 x.2, addD p.1 p.2 x.1 x.2) := by rw [sumL_snoc, e]; simp [hadd]
    have s2 := sum_some (ys ++ [x]) (by simp; omega) _ _ e2
    rw [s1.1, s1.2.1, s2.1, s2.2.1]
    exact ⟨s1.2.2, hadd, rfl, rfl⟩
end Go.Proofs.Ytnepjahhconodaa.Fr
namespace Go.Proofs.Ytnepjahhconodaa
open Go.RowKit

theorem World.drewN_drew (w : World) (k : Nat) : (w.drewN k).drew = w.drewN (k + 1) := rfl
theorem hide {p : Prop} (h : p) : Hid p := h
theorem ret_bool {a b : Bool} (h : a = b) : Ending.returned (.bool a) = .returned (.bool b) := by rw [h]
theorem ret_int {k : IntKind} {a b : Int} (h : a = b) : Ending.returned (.int k a) = .returned (.int k b) := by rw [h]

theorem wrap_id (a : Int) (h0 : -9000000000000000000 ≤ a) (h1 : a ≤ 9000000000000000000) : wrap64 a = a := by unfold wrap64; omega
theorem wrap_id' (a : Int) (h0 : -9223372036854775808 ≤ a) (h1 : a ≤ 9223372036854775807) : wrap64 a = a := by unfold wrap64; omega
theorem wrap_mul (x y : Int) (hx0 : -1000000000 ≤ x) (hx1 : x ≤ 1000000000) (hy0 : -1000000000 ≤ y) (hy1 : y ≤ 1000000000) : wrap64 (x * y) = x * y := by
  have := Fr.mul_bd x y hx0 hx1 hy0 hy1
  exact wrap_id _ (by omega) (by omega)
theorem mkN_neg (n d : Int) (h0 : -4000000000000000000 ≤ n) (h1 : n ≤ 4000000000000000000) (hd : d < 0) : wrap64 (-n.tdiv (Fr.g (-n) (-d))) = Fr.mkN n d := by
  have := Fr.tdiv_abs n (Fr.g (-n) (-d))
  rw [wrap_id _ (by omega) (by omega)]
  unfold Fr.mkN; rw [if_pos hd, Fr.g_neg, Int.neg_tdiv]
theorem mkD_neg (n d : Int) (h0 : -4000000000000000000 ≤ d) (hd : d < 0) : wrap64 (-d.tdiv (Fr.g (-n) (-d))) = Fr.mkD n d := by
  have := Fr.tdiv_abs d (Fr.g (-n) (-d))
  rw [wrap_id _ (by omega) (by omega)]
  unfold Fr.mkD; rw [if_pos hd, Fr.g_neg, Int.neg_tdiv]
theorem mkN_pos (n d : Int) (hd : 0 < d) : n.tdiv (Fr.g n d) = Fr.mkN n d := by
  unfold Fr.mkN; rw [if_neg (by omega)]
theorem wrap_mkN (n d : Int) (h0 : -4000000000000000000 ≤ n) (h1 : n ≤ 4000000000000000000) : wrap64 (Fr.mkN n d) = Fr.mkN n d := by
  have := Fr.mkN_abs n d
  exact wrap_id _ (by omega) (by omega)
theorem mkD_pos (n d : Int) (hd : 0 < d) : d / Fr.g n d = Fr.mkD n d := by
  unfold Fr.mkD; rw [if_neg (by omega), Int.tdiv_eq_ediv_of_nonneg (by omega)]

end Go.Proofs.Ytnepjahhconodaa
namespace Go.Proofs.Ytnepjahhconodaa
open Go.RowKit

theorem bcell {W w1 : World} (hb : Below W.heap.size W w1) : (∀ b o, b < W.heap.size → w1.cell? ⟨b, o, none⟩ = W.cell? ⟨b, o, none⟩) ∧ (∀ b o, b < W.heap.size → w1.frozen? ⟨b, o, none⟩ = W.frozen? ⟨b, o, none⟩) :=
  ⟨fun b o h => hb.cell (p := ⟨b, o, none⟩) h, fun b o h => hb.frozen (p := ⟨b, o, none⟩) h⟩

end Go.Proofs.Ytnepjahhconodaa
namespace Go.Proofs.Ytnepjahhconodaa
open Go.RowKit

theorem lt3 {a b : Nat} (h : a + 1 + 1 < b) : a < b ∧ a + 1 < b := ⟨by omega, by omega⟩
theorem fracs_no (P : Program) (f : FuncId) (args : Array Value) (w : World) (a b : Int) (c : Bool) (ha : a = 0) (hb : b = 0) (hc : c = false)
    (h : Calls P f args w fun e w' => e = .returned (.tuple #[.agg #[.int .i64 0, .int .i64 0], .bool false]) ∧ Below w.heap.size w w') :
    Calls P f args w fun e w' => e = .returned (.tuple #[.agg #[.int .i64 a, .int .i64 b], .bool c]) ∧ Below w.heap.size w w' := by
  subst ha; subst hb; subst hc; exact h



end Go.Proofs.Ytnepjahhconodaa
namespace Go.Proofs.Ytnepjahhconodaa
open Go.RowKit

set_option maxRecDepth 100000 in
set_option maxHeartbeats 400000 in
theorem in_yes {n lo hi : Int} {w : World} (h1 : lo ≤ n) (h2 : n ≤ hi) :
    Calls Try.prog 55 #[.int .i64 n, .int .i64 lo, .int .i64 hi] w fun e w' => e = .returned (.bool true) ∧ w' = w := by
  go_enter Try.func55, Try.ntmps55
  go_wp2
  go_ret
  exact ⟨rfl, rfl⟩

set_option maxRecDepth 100000 in
set_option maxHeartbeats 400000 in
theorem in_no {n lo hi : Int} {w : World} (h : n < lo ∨ hi < n) :
    Calls Try.prog 55 #[.int .i64 n, .int .i64 lo, .int .i64 hi] w fun e w' => e = .returned (.bool false) ∧ w' = w := by
  by_cases h1 : lo ≤ n
  · have h2 : ¬ n ≤ hi := by omega
    clear h
    go_enter Try.func55, Try.ntmps55
    go_wp2
    go_ret
    exact ⟨rfl, rfl⟩
  · clear h
    go_enter Try.func55, Try.ntmps55
    go_wp2
    go_ret
    exact ⟨rfl, rfl⟩

end Go.Proofs.Ytnepjahhconodaa
namespace Go.Proofs.Ytnepjahhconodaa
open Go.RowKit

end Go.Proofs.Ytnepjahhconodaa
namespace Go.Proofs.Ytnepjahhconodaa
open Go.RowKit


theorem lt_of_some {W : World} {b o : Nat} (h : (W.cell? ⟨b, o, none⟩).isSome = true) : b < W.heap.size := by
  apply Nat.lt_of_not_le
  intro hle
  have : W.heap[b]? = none := by simp; omega
  simp [World.cell?, this] at h
theorem bsome {W w1 : World} (hb : Below W.heap.size W w1) : (∀ b o, (W.cell? ⟨b, o, none⟩).isSome = true → w1.cell? ⟨b, o, none⟩ = W.cell? ⟨b, o, none⟩) ∧ (∀ b o, (W.cell? ⟨b, o, none⟩).isSome = true → w1.frozen? ⟨b, o, none⟩ = W.frozen? ⟨b, o, none⟩) :=
  ⟨fun b o h => hb.cell (p := ⟨b, o, none⟩) (lt_of_some h), fun b o h => hb.frozen (p := ⟨b, o, none⟩) (lt_of_some h)⟩
theorem new_var {W w1 : World} (hb : Below W.heap.size W w1) (b : Nat) (v0 v1 : Value) (h0 : W.cell? ⟨b, 0, none⟩ = some v0) (h1 : W.cell? ⟨b, 1, none⟩ = some v1) (h2 : W.frozen? ⟨b, 0, none⟩ = false) (h3 : W.frozen? ⟨b, 1, none⟩ = false) :
    w1.cell? ⟨b, 0, none⟩ = some v0 ∧ w1.cell? ⟨b, 1, none⟩ = some v1 ∧ w1.frozen? ⟨b, 0, none⟩ = false ∧ w1.frozen? ⟨b, 1, none⟩ = false := by
  obtain ⟨hc, hf⟩ := bsome hb
  exact ⟨(hc _ _ (by rw [h0]; rfl)).trans h0, (hc _ _ (by rw [h1]; rfl)).trans h1, (hf _ _ (by rw [h0]; rfl)).trans h2, (hf _ _ (by rw [h1]; rfl)).trans h3⟩
theorem new_first {w w1 : World} {a b : Obj} {v0 v1 : Value} {t : TypeId} (hb : Below (((w.alloc a).alloc b).alloc (.cells #[v0, v1] t)).drew.heap.size (((w.alloc a).alloc b).alloc (.cells #[v0, v1] t)).drew w1) :
    w1.cell? ⟨w.heap.size + 1 + 1, 0, none⟩ = some v0 ∧ w1.cell? ⟨w.heap.size + 1 + 1, 1, none⟩ = some v1 ∧ w1.frozen? ⟨w.heap.size + 1 + 1, 0, none⟩ = false ∧ w1.frozen? ⟨w.heap.size + 1 + 1, 1, none⟩ = false :=
  new_var hb _ v0 v1 (by simp [go_sem]) (by simp [go_sem]) (by simp [go_sem]) (by simp [go_sem])
theorem last_cell {W w1 : World} (hb : Below W.heap.size W w1) (o : Nat) : (W.cell? ⟨W.heap.size - 1, o, none⟩).isSome = true → w1.cell? ⟨W.heap.size - 1, o, none⟩ = W.cell? ⟨W.heap.size - 1, o, none⟩ := (bsome hb).1 _ _
theorem last_frozen {W w1 : World} (hb : Below W.heap.size W w1) (o : Nat) : (W.cell? ⟨W.heap.size - 1, o, none⟩).isSome = true → w1.frozen? ⟨W.heap.size - 1, o, none⟩ = W.frozen? ⟨W.heap.size - 1, o, none⟩ := (bsome hb).2 _ _
theorem set1 {W : World} {b i : Nat} {x : Value} (h : (W.cell? ⟨b, i, none⟩).isSome = true) : (W.setCell ⟨b, i, none⟩ x).cell? ⟨b, i, none⟩ = some x := by
  obtain ⟨v, hv⟩ := Option.isSome_iff_exists.1 h
  exact World.cell?_setCell_same _ _ _ hv
theorem set2 {W : World} {b : Nat} {x y : Value} (h0 : (W.cell? ⟨b, 0, none⟩).isSome = true) (h1 : (W.cell? ⟨b, 1, none⟩).isSome = true) :
    ((W.setCell ⟨b, 0, none⟩ x).setCell ⟨b, 1, none⟩ y).cell? ⟨b, 0, none⟩ = some x ∧ ((W.setCell ⟨b, 0, none⟩ x).setCell ⟨b, 1, none⟩ y).cell? ⟨b, 1, none⟩ = some y ∧ b < ((W.setCell ⟨b, 0, none⟩ x).setCell ⟨b, 1, none⟩ y).heap.size := by
  refine ⟨?_, ?_, ?_⟩
  · rw [World.cell?_setCell_other _ _ _ _ (by simp)]; exact set1 h0
  · exact set1 (by rw [World.cell?_setCell_other _ _ _ _ (by simp)]; exact h1)
  · simpa using lt_of_some h0
theorem held_below {w w1 w2 : World} {n1 d1 n2 d2 : Int}
    (s : w1.cell? ⟨w.heap.size, 0, none⟩ = some (.int .i64 n1) ∧ w1.cell? ⟨w.heap.size, 1, none⟩ = some (.int .i64 d1) ∧ w1.cell? ⟨w.heap.size + 1, 0, none⟩ = some (.int .i64 n2) ∧ w1.cell? ⟨w.heap.size + 1, 1, none⟩ = some (.int .i64 d2) ∧ Below w.heap.size w w1 ∧ w.heap.size + 1 < w1.heap.size)
    (hb : Below w1.heap.size w1 w2) :
    w2.cell? ⟨w.heap.size, 0, none⟩ = some (.int .i64 n1) ∧ w2.cell? ⟨w.heap.size, 1, none⟩ = some (.int .i64 d1) ∧ w2.cell? ⟨w.heap.size + 1, 0, none⟩ = some (.int .i64 n2) ∧ w2.cell? ⟨w.heap.size + 1, 1, none⟩ = some (.int .i64 d2) ∧ Below w.heap.size w w2 ∧ w.heap.size + 1 < w2.heap.size := by
  obtain ⟨s0, s1, s2, s3, s4, s5⟩ := s
  obtain ⟨hc, _⟩ := bcell hb
  exact ⟨(hc _ _ (by omega)).trans s0, (hc _ _ (by omega)).trans s1, (hc _ _ s5).trans s2, (hc _ _ s5).trans s3, s4.trans (hb.mono (by omega)), Nat.lt_of_lt_of_le s5 hb.size⟩
theorem below_alloc_drew (w : World) (o : Obj) : Below w.drew.heap.size w.drew (w.alloc o).drew := (Below.refl _ w.drew).alloc (Nat.le_refl _) o
theorem below_alloc (w : World) (o : Obj) : Below w.heap.size w (w.alloc o) := (Below.refl _ _).alloc (Nat.le_refl _) o
theorem held_start (w : World) (n1 d1 n2 d2 : Int) (t : TypeId) :
    ((w.alloc (.cells #[.int .i64 n1, .int .i64 d1] t)).alloc (.cells #[.int .i64 n2, .int .i64 d2] t)).cell? ⟨w.heap.size, 0, none⟩ = some (.int .i64 n1) ∧ ((w.alloc (.cells #[.int .i64 n1, .int .i64 d1] t)).alloc (.cells #[.int .i64 n2, .int .i64 d2] t)).cell? ⟨w.heap.size, 1, none⟩ = some (.int .i64 d1) ∧ ((w.alloc (.cells #[.int .i64 n1, .int .i64 d1] t)).alloc (.cells #[.int .i64 n2, .int .i64 d2] t)).cell? ⟨w.heap.size + 1, 0, none⟩ = some (.int .i64 n2) ∧ ((w.alloc (.cells #[.int .i64 n1, .int .i64 d1] t)).alloc (.cells #[.int .i64 n2, .int .i64 d2] t)).cell? ⟨w.heap.size + 1, 1, none⟩ = some (.int .i64 d2) ∧ Below w.heap.size w ((w.alloc (.cells #[.int .i64 n1, .int .i64 d1] t)).alloc (.cells #[.int .i64 n2, .int .i64 d2] t)) ∧ w.heap.size + 1 < ((w.alloc (.cells #[.int .i64 n1, .int .i64 d1] t)).alloc (.cells #[.int .i64 n2, .int .i64 d2] t)).heap.size :=
  ⟨by simp, by simp, by simp, by simp, ((Below.refl _ _).alloc (Nat.le_refl _) _).alloc (by simp) _, by simp⟩
theorem held_alloc {w w1 : World} {n1 d1 n2 d2 : Int} {o : Obj}
    (s : w1.cell? ⟨w.heap.size, 0, none⟩ = some (.int .i64 n1) ∧ w1.cell? ⟨w.heap.size, 1, none⟩ = some (.int .i64 d1) ∧ w1.cell? ⟨w.heap.size + 1, 0, none⟩ = some (.int .i64 n2) ∧ w1.cell? ⟨w.heap.size + 1, 1, none⟩ = some (.int .i64 d2) ∧ Below w.heap.size w w1 ∧ w.heap.size + 1 < w1.heap.size) :
    (w1.alloc o).cell? ⟨w.heap.size, 0, none⟩ = some (.int .i64 n1) ∧ (w1.alloc o).cell? ⟨w.heap.size, 1, none⟩ = some (.int .i64 d1) ∧ (w1.alloc o).cell? ⟨w.heap.size + 1, 0, none⟩ = some (.int .i64 n2) ∧ (w1.alloc o).cell? ⟨w.heap.size + 1, 1, none⟩ = some (.int .i64 d2) ∧ Below w.heap.size w (w1.alloc o) ∧ w.heap.size + 1 < (w1.alloc o).heap.size := held_below s (below_alloc _ _)
theorem held_drew {w w1 : World} {n1 d1 n2 d2 : Int}
    (s : w1.cell? ⟨w.heap.size, 0, none⟩ = some (.int .i64 n1) ∧ w1.cell? ⟨w.heap.size, 1, none⟩ = some (.int .i64 d1) ∧ w1.cell? ⟨w.heap.size + 1, 0, none⟩ = some (.int .i64 n2) ∧ w1.cell? ⟨w.heap.size + 1, 1, none⟩ = some (.int .i64 d2) ∧ Below w.heap.size w w1 ∧ w.heap.size + 1 < w1.heap.size) :
    w1.drew.cell? ⟨w.heap.size, 0, none⟩ = some (.int .i64 n1) ∧ w1.drew.cell? ⟨w.heap.size, 1, none⟩ = some (.int .i64 d1) ∧ w1.drew.cell? ⟨w.heap.size + 1, 0, none⟩ = some (.int .i64 n2) ∧ w1.drew.cell? ⟨w.heap.size + 1, 1, none⟩ = some (.int .i64 d2) ∧ Below w.heap.size w w1.drew ∧ w.heap.size + 1 < w1.drew.heap.size := held_below s ((Below.refl _ _).drew)
theorem held_set {w w1 : World} {n1 d1 n2 d2 : Int} {b i : Nat} {v : Value}
    (s : w1.cell? ⟨w.heap.size, 0, none⟩ = some (.int .i64 n1) ∧ w1.cell? ⟨w.heap.size, 1, none⟩ = some (.int .i64 d1) ∧ w1.cell? ⟨w.heap.size + 1, 0, none⟩ = some (.int .i64 n2) ∧ w1.cell? ⟨w.heap.size + 1, 1, none⟩ = some (.int .i64 d2) ∧ Below w.heap.size w w1 ∧ w.heap.size + 1 < w1.heap.size)
    (hb : w.heap.size + 1 < b) :
    (w1.setCell ⟨b, i, none⟩ v).cell? ⟨w.heap.size, 0, none⟩ = some (.int .i64 n1) ∧ (w1.setCell ⟨b, i, none⟩ v).cell? ⟨w.heap.size, 1, none⟩ = some (.int .i64 d1) ∧ (w1.setCell ⟨b, i, none⟩ v).cell? ⟨w.heap.size + 1, 0, none⟩ = some (.int .i64 n2) ∧ (w1.setCell ⟨b, i, none⟩ v).cell? ⟨w.heap.size + 1, 1, none⟩ = some (.int .i64 d2) ∧ Below w.heap.size w (w1.setCell ⟨b, i, none⟩ v) ∧ w.heap.size + 1 < (w1.setCell ⟨b, i, none⟩ v).heap.size := by
  obtain ⟨s0, s1, s2, s3, s4, s5⟩ := s
  have hb' : Below b w1 (w1.setCell ⟨b, i, none⟩ v) := (Below.refl b w1).setCell (p := ⟨b, i, none⟩) (Nat.le_refl b) v
  exact ⟨(hb'.cell (p := ⟨_, _, none⟩) (by show w.heap.size < b; omega)).trans s0, (hb'.cell (p := ⟨_, _, none⟩) (by show w.heap.size < b; omega)).trans s1, (hb'.cell (p := ⟨_, _, none⟩) hb).trans s2, (hb'.cell (p := ⟨_, _, none⟩) hb).trans s3, s4.setCell (by show w.heap.size ≤ b; omega) v, by simpa using s5⟩
theorem held2_below {w wc w1 w2 : World} {n1 d1 n2 d2 RN RD : Int} {b : Nat}
    (s : w1.cell? ⟨w.heap.size, 0, none⟩ = some (.int .i64 n1) ∧ w1.cell? ⟨w.heap.size, 1, none⟩ = some (.int .i64 d1) ∧ w1.cell? ⟨w.heap.size + 1, 0, none⟩ = some (.int .i64 n2) ∧ w1.cell? ⟨w.heap.size + 1, 1, none⟩ = some (.int .i64 d2) ∧ w1.cell? ⟨b, 0, none⟩ = some (.int .i64 RN) ∧ w1.cell? ⟨b, 1, none⟩ = some (.int .i64 RD) ∧ Below w.heap.size w w1 ∧ w.heap.size + 1 < w1.heap.size ∧ wc.heap.size ≤ w1.heap.size ∧ b < wc.heap.size)
    (hb : Below w1.heap.size w1 w2) :
    w2.cell? ⟨w.heap.size, 0, none⟩ = some (.int .i64 n1) ∧ w2.cell? ⟨w.heap.size, 1, none⟩ = some (.int .i64 d1) ∧ w2.cell? ⟨w.heap.size + 1, 0, none⟩ = some (.int .i64 n2) ∧ w2.cell? ⟨w.heap.size + 1, 1, none⟩ = some (.int .i64 d2) ∧ w2.cell? ⟨b, 0, none⟩ = some (.int .i64 RN) ∧ w2.cell? ⟨b, 1, none⟩ = some (.int .i64 RD) ∧ Below w.heap.size w w2 ∧ w.heap.size + 1 < w2.heap.size ∧ wc.heap.size ≤ w2.heap.size ∧ b < wc.heap.size := by
  obtain ⟨s0, s1, s2, s3, s4, s5, s6, s7, s8, s9⟩ := s
  obtain ⟨hc, _⟩ := bcell hb
  exact ⟨(hc _ _ (by omega)).trans s0, (hc _ _ (by omega)).trans s1, (hc _ _ s7).trans s2, (hc _ _ s7).trans s3, (hc _ _ (by omega)).trans s4, (hc _ _ (by omega)).trans s5, s6.trans (hb.mono (by omega)), Nat.lt_of_lt_of_le s7 hb.size, Nat.le_trans s8 hb.size, s9⟩
theorem held2_set {w wc w1 : World} {n1 d1 n2 d2 RN RD : Int} {b c i : Nat} {v : Value}
    (s : w1.cell? ⟨w.heap.size, 0, none⟩ = some (.int .i64 n1) ∧ w1.cell? ⟨w.heap.size, 1, none⟩ = some (.int .i64 d1) ∧ w1.cell? ⟨w.heap.size + 1, 0, none⟩ = some (.int .i64 n2) ∧ w1.cell? ⟨w.heap.size + 1, 1, none⟩ = some (.int .i64 d2) ∧ w1.cell? ⟨b, 0, none⟩ = some (.int .i64 RN) ∧ w1.cell? ⟨b, 1, none⟩ = some (.int .i64 RD) ∧ Below w.heap.size w w1 ∧ w.heap.size + 1 < w1.heap.size ∧ wc.heap.size ≤ w1.heap.size ∧ b < wc.heap.size)
    (hx : w.heap.size + 1 < c) (hy : wc.heap.size ≤ c) :
    (w1.setCell ⟨c, i, none⟩ v).cell? ⟨w.heap.size, 0, none⟩ = some (.int .i64 n1) ∧ (w1.setCell ⟨c, i, none⟩ v).cell? ⟨w.heap.size, 1, none⟩ = some (.int .i64 d1) ∧ (w1.setCell ⟨c, i, none⟩ v).cell? ⟨w.heap.size + 1, 0, none⟩ = some (.int .i64 n2) ∧ (w1.setCell ⟨c, i, none⟩ v).cell? ⟨w.heap.size + 1, 1, none⟩ = some (.int .i64 d2) ∧ (w1.setCell ⟨c, i, none⟩ v).cell? ⟨b, 0, none⟩ = some (.int .i64 RN) ∧ (w1.setCell ⟨c, i, none⟩ v).cell? ⟨b, 1, none⟩ = some (.int .i64 RD) ∧ Below w.heap.size w (w1.setCell ⟨c, i, none⟩ v) ∧ w.heap.size + 1 < (w1.setCell ⟨c, i, none⟩ v).heap.size ∧ wc.heap.size ≤ (w1.setCell ⟨c, i, none⟩ v).heap.size ∧ b < wc.heap.size := by
  obtain ⟨s0, s1, s2, s3, s4, s5, s6, s7, s8, s9⟩ := s
  have hb' : Below c w1 (w1.setCell ⟨c, i, none⟩ v) := (Below.refl c w1).setCell (p := ⟨c, i, none⟩) (Nat.le_refl c) v
  have hc : ∀ x o, x < c → (w1.setCell ⟨c, i, none⟩ v).cell? ⟨x, o, none⟩ = w1.cell? ⟨x, o, none⟩ := fun x o h => hb'.cell (p := ⟨x, o, none⟩) h
  exact ⟨(hc _ _ (by omega)).trans s0, (hc _ _ (by omega)).trans s1, (hc _ _ (by omega)).trans s2, (hc _ _ (by omega)).trans s3, (hc _ _ (by omega)).trans s4, (hc _ _ (by omega)).trans s5, s6.setCell (by show w.heap.size ≤ c; omega) v, by simpa using s7, by simpa using s8, s9⟩
end Go.Proofs.Ytnepjahhconodaa
namespace Go.Proofs.Ytnepjahhconodaa
open Go.RowKit

/-- All old blocks but 'c' are as they were. -/
structure Kp (c : Nat) (w w' : World) : Prop where
  os : w'.os = w.os
  tape : w'.tape = w.tape
  output : w'.output = w.output
  size : w.heap.size ≤ w'.heap.size
  block : ∀ k, k < w.heap.size → k ≠ c → w'.heap[k]? = w.heap[k]?
theorem Kp.refl (c : Nat) (w : World) : Kp c w w := ⟨rfl, rfl, rfl, Nat.le_refl _, fun _ _ _ => rfl⟩
theorem Kp.trans {c : Nat} {a b d : World} (h : Kp c a b) (k : Kp c b d) : Kp c a d :=
  ⟨k.os.trans h.os, k.tape.trans h.tape, k.output.trans h.output, Nat.le_trans h.size k.size, fun i hi hne => (k.block i (Nat.lt_of_lt_of_le hi h.size) hne).trans (h.block i hi hne)⟩
theorem Kp.of_below {c : Nat} {a b : World} (h : Below a.heap.size a b) : Kp c a b := ⟨h.os, h.tape, h.output, h.size, fun k hk _ => h.block k hk⟩
theorem Kp.below {c B : Nat} {a b : World} (h : Kp c a b) (hB : B ≤ c) (hs : B ≤ a.heap.size) : Below B a b := ⟨h.os, h.tape, h.output, h.size, fun k hk => h.block k (by omega) (by omega)⟩
theorem Kp.cell {c : Nat} {w w' : World} (h : Kp c w w') {b o : Nat} (hb : b < w.heap.size) (hne : b ≠ c) : w'.cell? ⟨b, o, none⟩ = w.cell? ⟨b, o, none⟩ := World.cell?_of_block (w := w) (h.block b hb hne)
theorem Kp.frozen {c : Nat} {w w' : World} (h : Kp c w w') {b o : Nat} (hb : b < w.heap.size) (hne : b ≠ c) : w'.frozen? ⟨b, o, none⟩ = w.frozen? ⟨b, o, none⟩ := World.frozen?_of_block (w := w) (h.block b hb hne)
theorem Kp.drewN {c : Nat} {a w : World} (h : Kp c a w) (n : Nat) : Kp c a (w.drewN n) := ⟨h.os, h.tape, h.output, h.size, h.block⟩
theorem Kp.setCell {c : Nat} {a w : World} (h : Kp c a w) (o : Nat) (v : Value) : Kp c a (w.setCell ⟨c, o, none⟩ v) :=
  ⟨h.os, h.tape, h.output, by simpa using h.size, fun k hk hne => (Below.heap_setCell w ⟨c, o, none⟩ v k hne).trans (h.block k hk hne)⟩

/-- The bytes that the cursor reads lie in old memory. -/
def Bytes (w : World) (a : Option Addr) (len : Nat) : Prop := len = 0 ∨ ∃ b off, a = some ⟨b, off, none⟩ ∧ ∀ i, i < len → ∃ z : Int, w.cell? ⟨b, off + i, none⟩ = some (.int .u8 z) ∧ 0 ≤ z ∧ z ≤ 255
/-- A cursor lies in block c; it has read at most N bytes. -/
def Cur (w : World) (c : Nat) (a : Option Addr) (len cap N : Nat) : Prop :=
  c < w.heap.size ∧ w.cell? ⟨c, 0, none⟩ = some (.slice a len cap) ∧ (∃ at_ : Nat, w.cell? ⟨c, 1, none⟩ = some (.int .i64 at_) ∧ at_ ≤ N) ∧ (∃ s : Int, w.cell? ⟨c, 2, none⟩ = some (.int .u64 s) ∧ 0 ≤ s ∧ s < 18446744073709551616) ∧
  w.frozen? ⟨c, 1, none⟩ = false ∧ w.frozen? ⟨c, 2, none⟩ = false ∧ Bytes w a len ∧ (∀ b off, a = some ⟨b, off, none⟩ → 0 < len → b ≠ c ∧ b < w.heap.size)

theorem u64_bd (x : Int) : 0 ≤ IntKind.u64.wrap x ∧ IntKind.u64.wrap x < 18446744073709551616 := by
  simp [IntKind.wrap, IntKind.bits, IntKind.signed]; omega

theorem and255 (E : Int) (h0 : 0 ≤ E) (h1 : E ≤ 18446744073709551615) : 0 ≤ wrap64 (bits BinOp.and IntKind.u64 E 255) ∧ wrap64 (bits BinOp.and IntKind.u64 E 255) ≤ 255 := by
  have h := bits_and_u64_nat E.toNat 255 (by omega) (by omega)
  rw [show (255 : Nat) = 2 ^ 8 - 1 by decide, Nat.and_two_pow_sub_one_eq_mod, Int.toNat_of_nonneg h0] at h
  have h2 : bits BinOp.and IntKind.u64 E 255 = ((E.toNat % 2 ^ 8 : Nat) : Int) := h
  rw [h2, wrap_id _ (by omega) (by omega)]
  omega

set_option maxRecDepth 100000 in
set_option maxHeartbeats 1000000 in
theorem next_in (c b off len cap at_ : Nat) (s z : Int) (w : World) (h0 : w.cell? ⟨c, 0, none⟩ = some (.slice (some ⟨b, off, none⟩) len cap)) (h1 : w.cell? ⟨c, 1, none⟩ = some (.int .i64 at_)) (h2 : w.cell? ⟨c, 2, none⟩ = some (.int .u64 s))
    (f1 : w.frozen? ⟨c, 1, none⟩ = false) (f2 : w.frozen? ⟨c, 2, none⟩ = false) (hN : at_ ≤ 1000000000) (hlt : at_ < len) (hz : w.cell? ⟨b, off + at_, none⟩ = some (.int .u8 z)) (z0 : 0 ≤ z) (z1 : z ≤ 255) :
    Calls Try.prog 60 #[.pointer (some ⟨c, 0, none⟩)] w fun e w' => e = .returned (.int .i64 z) ∧ ∃ k k' s', 0 ≤ s' ∧ s' < 18446744073709551616 ∧ w' = ((((w.drewN k).setCell ⟨c, 1, none⟩ (.int .i64 ((at_ : Int) + 1))).setCell ⟨c, 2, none⟩ (.int .u64 s')).drewN k') := by
  have i0 : (0 : Int) ≤ (at_ : Int) := by omega
  have i1 : (at_ : Int) < (len : Int) := by omega
  go_enter Try.func60, Try.ntmps60
  go_wp2
  go_quiet (fail)
  go_wp2
  go_quiet (fail)
  go_wp2
  go_quiet (fail)
  go_wp2
  go_ret
  exact ⟨rfl, _, _, _, (u64_bd _).1, (u64_bd _).2, rfl⟩

set_option maxRecDepth 100000 in
set_option maxHeartbeats 1000000 in
theorem next_out (c len cap at_ : Nat) (a : Option Addr) (s : Int) (w : World) (h0 : w.cell? ⟨c, 0, none⟩ = some (.slice a len cap)) (h1 : w.cell? ⟨c, 1, none⟩ = some (.int .i64 at_)) (h2 : w.cell? ⟨c, 2, none⟩ = some (.int .u64 s))
    (f1 : w.frozen? ⟨c, 1, none⟩ = false) (f2 : w.frozen? ⟨c, 2, none⟩ = false) (hN : at_ ≤ 1000000000) (hlt : len ≤ at_) :
    Calls Try.prog 60 #[.pointer (some ⟨c, 0, none⟩)] w fun e w' => ∃ z : Int, e = .returned (.int .i64 z) ∧ 0 ≤ z ∧ z ≤ 255 ∧ ∃ k k' s', 0 ≤ s' ∧ s' < 18446744073709551616 ∧ w' = ((((w.drewN k).setCell ⟨c, 1, none⟩ (.int .i64 ((at_ : Int) + 1))).setCell ⟨c, 2, none⟩ (.int .u64 s')).drewN k') := by
  have i1 : ¬ (at_ : Int) < (len : Int) := by omega
  have i2 : ¬ (at_ : Int) + 1 ≤ (len : Int) := by omega
  go_enter Try.func60, Try.ntmps60
  go_wp2
  go_quiet (fail)
  go_wp2
  go_quiet (fail)
  go_wp2
  have hq := u64_bd (IntKind.u64.wrap (IntKind.u64.wrap (s * 6364136223846793005)) + 1442695040888963407)
  have hb := and255 (IntKind.u64.wrap (IntKind.u64.wrap (IntKind.u64.wrap (s * 6364136223846793005)) + 1442695040888963407) / 1099511627776) (by omega) (by omega)
  go_ret
  exact ⟨_, rfl, hb.1, hb.2, _, _, _, hq.1, hq.2, rfl⟩

/-- What 'next' leaves behind. -/
theorem cur_next {c len cap at_ N k k' : Nat} {a : Option Addr} {s' : Int} {w : World} (hc : Cur w c a len cap N) (hN : at_ ≤ N) (hs0 : 0 ≤ s') (hs1 : s' < 18446744073709551616) :
    Cur ((((w.drewN k).setCell ⟨c, 1, none⟩ (.int .i64 ((at_ : Int) + 1))).setCell ⟨c, 2, none⟩ (.int .u64 s')).drewN k') c a len cap (N + 1) ∧ Kp c w ((((w.drewN k).setCell ⟨c, 1, none⟩ (.int .i64 ((at_ : Int) + 1))).setCell ⟨c, 2, none⟩ (.int .u64 s')).drewN k') := by
  obtain ⟨h0, h1, ⟨x, h2, _⟩, ⟨y, h3, _, _⟩, h4, h5, h6, h7⟩ := hc
  have hk : Kp c w ((((w.drewN k).setCell ⟨c, 1, none⟩ (.int .i64 ((at_ : Int) + 1))).setCell ⟨c, 2, none⟩ (.int .u64 s')).drewN k') := ((((Kp.refl c w).drewN k).setCell _ _).setCell _ _).drewN k'
  refine ⟨⟨?_, ?_, ⟨at_ + 1, ?_, by omega⟩, ⟨s', ?_, hs0, hs1⟩, ?_, ?_, ?_, ?_⟩, hk⟩
  · exact Nat.lt_of_lt_of_le h0 hk.size
  · simpa [go_sem] using h1
  · simp [go_sem, h2]
  · simp [go_sem, h3]
  · simpa [go_sem] using h4
  · simpa [go_sem] using h5
  · rcases h6 with h | ⟨b, off, rfl, hb⟩
    · exact Or.inl h
    · refine Or.inr ⟨b, off, rfl, fun i hi => ?_⟩
      obtain ⟨hne, hlt⟩ := h7 b off rfl (by omega)
      obtain ⟨z, hz, hz'⟩ := hb i hi
      exact ⟨z, (hk.cell hlt hne).trans hz, hz'⟩
  · intro b off e hl
    obtain ⟨hne, hlt⟩ := h7 b off e hl
    exact ⟨hne, Nat.lt_of_lt_of_le hlt hk.size⟩

theorem next_any {c len cap N : Nat} {a : Option Addr} {w : World} (hc : Cur w c a len cap N) (hN : N ≤ 1000000000) :
    Calls Try.prog 60 #[.pointer (some ⟨c, 0, none⟩)] w fun e w' => ∃ z : Int, e = .returned (.int .i64 z) ∧ 0 ≤ z ∧ z ≤ 255 ∧ Cur w' c a len cap (N + 1) ∧ Kp c w w' := by
  have hc' := hc
  obtain ⟨h0, h1, ⟨at_, h2, h2'⟩, ⟨y, h3, h3', h3''⟩, h4, h5, h6, h7⟩ := hc
  by_cases hlt : at_ < len
  · rcases h6 with h | ⟨b, off, rfl, hb⟩
    · omega
    · obtain ⟨z, hz, z0, z1⟩ := hb at_ hlt
      refine (next_in c b off len cap at_ y z w h1 h2 h3 h4 h5 (by omega) hlt hz z0 z1).mono ?_
      rintro e w' ⟨rfl, k, k', s', s0, s1, rfl⟩
      exact ⟨z, rfl, z0, z1, cur_next hc' h2' s0 s1⟩
  · refine (next_out c len cap at_ a y w h1 h2 h3 h4 h5 (by omega) (by omega)).mono ?_
    rintro e w' ⟨z, rfl, z0, z1, k, k', s', s0, s1, rfl⟩
    exact ⟨z, rfl, z0, z1, cur_next hc' h2' s0 s1⟩
end Go.Proofs.Ytnepjahhconodaa
namespace Go.Proofs.Ytnepjahhconodaa
open Go.RowKit

theorem Cur.below {w w' : World} {c len cap N : Nat} {a : Option Addr} (h : Cur w c a len cap N) (hb : Below w.heap.size w w') : Cur w' c a len cap N := by
  obtain ⟨h0, h1, ⟨x, h2, h2'⟩, ⟨y, h3, h3', h3''⟩, h4, h5, h6, h7⟩ := h
  obtain ⟨hc, hf⟩ := bcell hb
  refine ⟨Nat.lt_of_lt_of_le h0 hb.size, (hc _ _ h0).trans h1, ⟨x, (hc _ _ h0).trans h2, h2'⟩, ⟨y, (hc _ _ h0).trans h3, h3', h3''⟩, (hf _ _ h0).trans h4, (hf _ _ h0).trans h5, ?_, ?_⟩
  · rcases h6 with h | ⟨b, off, rfl, hbb⟩
    · exact Or.inl h
    · refine Or.inr ⟨b, off, rfl, fun i hi => ?_⟩
      obtain ⟨hne, hlt⟩ := h7 b off rfl (by omega)
      obtain ⟨z, hz, hz'⟩ := hbb i hi
      exact ⟨z, (hc _ _ hlt).trans hz, hz'⟩
  · intro b off e hl
    obtain ⟨hne, hlt⟩ := h7 b off e hl
    exact ⟨hne, Nat.lt_of_lt_of_le hlt hb.size⟩
theorem Cur.le {w : World} {c len cap N M : Nat} {a : Option Addr} (h : Cur w c a len cap N) (hNM : N ≤ M) : Cur w c a len cap M := by
  obtain ⟨h0, h1, ⟨x, h2, h2'⟩, h3, h4, h5, h6, h7⟩ := h
  exact ⟨h0, h1, ⟨x, h2, by omega⟩, h3, h4, h5, h6, h7⟩

set_option maxRecDepth 100000 in
set_option maxHeartbeats 400000 in
theorem pick_one {c len cap N : Nat} {a : Option Addr} {w : World} (n : Int) (h : n ≤ 1) (hc : Cur w c a len cap N) :
    Calls Try.prog 48 #[.pointer (some ⟨c, 0, none⟩), .int .i64 n] w fun e w' => ∃ r : Int, e = .returned (.int .i64 r) ∧ 0 ≤ r ∧ (r < n ∨ r = 0) ∧ Cur w' c a len cap (N + 2) ∧ Kp c w w' := by
  have HC := hide hc
  clear hc
  go_enter Try.func48, Try.ntmps48
  go_wp2_with fail
  go_ret
  exact ⟨0, rfl, by omega, by omega, HC.out.le (by omega), Kp.refl _ _⟩

set_option maxRecDepth 100000 in
set_option maxHeartbeats 400000 in
theorem pick_mid {c len cap N : Nat} {a : Option Addr} {w : World} (n : Int) (h0 : 1 < n) (h1 : n ≤ 200) (hc : Cur w c a len cap N) (hN : N ≤ 900000000) :
    Calls Try.prog 48 #[.pointer (some ⟨c, 0, none⟩), .int .i64 n] w fun e w' => ∃ r : Int, e = .returned (.int .i64 r) ∧ 0 ≤ r ∧ (r < n ∨ r = 0) ∧ Cur w' c a len cap (N + 2) ∧ Kp c w w' := by
  have HC := hide hc
  clear hc
  have h2 : ¬ n ≤ 1 := by omega
  have h3 : ¬ 200 < n := by omega
  have hne : (n == 0) = false := by simp; omega
  go_enter Try.func48, Try.ntmps48
  go_wp2_with fail
  refine (next_any HC.out (by omega)).mono ?_
  rintro e w1 ⟨z, rfl, z0, z1, hc1, hk1⟩
  have HC1 := hide hc1
  clear hc1
  have hr0 := Int.emod_nonneg z (show n ≠ 0 by omega)
  have hr1 := Int.emod_lt_of_pos z (show 0 < n by omega)
  go_wp2_with fail
  go_ret
  exact ⟨_, rfl, hr0, Or.inl hr1, HC1.out.le (by omega), hk1⟩

set_option maxRecDepth 100000 in
set_option maxHeartbeats 400000 in
theorem pick_big {c len cap N : Nat} {a : Option Addr} {w : World} (n : Int) (h0 : 200 < n) (h1 : n ≤ 1000000000) (hc : Cur w c a len cap N) (hN : N ≤ 900000000) :
    Calls Try.prog 48 #[.pointer (some ⟨c, 0, none⟩), .int .i64 n] w fun e w' => ∃ r : Int, e = .returned (.int .i64 r) ∧ 0 ≤ r ∧ (r < n ∨ r = 0) ∧ Cur w' c a len cap (N + 2) ∧ Kp c w w' := by
  have HC := hide hc
  clear hc
  have h2 : ¬ n ≤ 1 := by omega
  have hne : (n == 0) = false := by simp; omega
  go_enter Try.func48, Try.ntmps48
  go_wp2_with fail
  refine (next_any HC.out (by omega)).mono ?_
  rintro e w1 ⟨z, rfl, z0, z1, hc1, hk1⟩
  have HC1 := hide hc1
  clear hc1
  go_wp2_with fail
  refine (next_any HC1.out (by omega)).mono ?_
  rintro e w2 ⟨y, rfl, y0, y1, hc2, hk2⟩
  have HC2 := hide hc2
  clear hc2
  have hr0 := Int.emod_nonneg (z * 256 + y) (show n ≠ 0 by omega)
  have hr1 := Int.emod_lt_of_pos (z * 256 + y) (show 0 < n by omega)
  go_wp2_with fail
  go_ret
  exact ⟨_, rfl, hr0, Or.inl hr1, HC2.out, hk1.trans hk2⟩

theorem pick_any {c len cap N : Nat} {a : Option Addr} {w : World} (n : Int) (h1 : n ≤ 1000000000) (hc : Cur w c a len cap N) (hN : N ≤ 900000000) :
    Calls Try.prog 48 #[.pointer (some ⟨c, 0, none⟩), .int .i64 n] w fun e w' => ∃ r : Int, e = .returned (.int .i64 r) ∧ 0 ≤ r ∧ (r < n ∨ r = 0) ∧ Cur w' c a len cap (N + 2) ∧ Kp c w w' := by
  by_cases ha : n ≤ 1
  · exact pick_one n ha hc
  · by_cases hb : n ≤ 200
    · exact pick_mid n (by omega) hb hc hN
    · exact pick_big n (by omega) h1 hc hN

set_option maxRecDepth 100000 in
set_option maxHeartbeats 400000 in
theorem one_any {c len cap N : Nat} {a : Option Addr} {w : World} (n : Int) (h1 : n ≤ 1000000000) (hc : Cur w c a len cap N) (hN : N ≤ 900000000) :
    Calls Try.prog 27 #[.pointer (some ⟨c, 0, none⟩), .int .i64 n] w fun e w' => ∃ r : Bool, e = .returned (.bool r) ∧ Cur w' c a len cap (N + 2) ∧ Kp c w w' := by
  have HC := hide hc
  clear hc
  go_enter Try.func27, Try.ntmps27
  go_wp2_with fail
  refine (pick_any n h1 HC.out hN).mono ?_
  rintro e w1 ⟨r, rfl, r0, r1, hc1, hk1⟩
  go_wp2_with fail
  go_ret
  exact ⟨_, rfl, hc1, hk1⟩

set_option maxRecDepth 100000 in
set_option maxHeartbeats 400000 in
theorem among_any {c len cap N b l k : Nat} {a : Option Addr} {w : World} (hc : Cur w c a len cap N) (hN : N ≤ 900000000) (hl : 0 < l) (hl1 : l ≤ 1000000) (hb : b < w.heap.size) (hne : b ≠ c)
    (hz : ∀ i, i < l → ∃ z : Int, w.cell? ⟨b, i, none⟩ = some (.int .i64 z)) :
    Calls Try.prog 49 #[.pointer (some ⟨c, 0, none⟩), .slice (some ⟨b, 0, none⟩) l k] w fun e w' => ∃ r : Int, e = .returned (.int .i64 r) ∧ Cur w' c a len cap (N + 2) ∧ Kp c w w' := by
  have HC := hide hc
  have HZ := hide hz
  clear hc hz
  go_enter Try.func49, Try.ntmps49
  go_wp2_with fail
  refine (pick_any (l : Int) (by omega) HC.out hN).mono ?_
  rintro e w1 ⟨r, rfl, r0, r1, hc1, hk1⟩
  have HC1 := hide hc1
  clear hc1
  obtain ⟨i, rfl⟩ := Int.eq_ofNat_of_zero_le r0
  have hi : i < l := by omega
  have hi' : (i : Int) < (l : Int) := by omega
  obtain ⟨z, hcell⟩ := HZ.out i hi
  have hcell' : w1.cell? ⟨b, i, none⟩ = some (.int .i64 z) := (hk1.cell hb hne).trans hcell
  clear r1
  go_wp2_with fail
  go_ret
  exact ⟨_, rfl, HC1.out, hk1⟩
end Go.Proofs.Ytnepjahhconodaa
namespace Go.Proofs.Ytnepjahhconodaa
open Go.RowKit

theorem Kp.alloc {c : Nat} {a w : World} (h : Kp c a w) (o : Obj) : Kp c a (w.alloc o) := h.trans (Kp.of_below (below_alloc w o))
theorem Kp.setNew {c B : Nat} {a w : World} (h : Kp c a w) (hB : a.heap.size ≤ B) (o : Nat) (v : Value) : Kp c a (w.setCell ⟨B, o, none⟩ v) :=
  ⟨h.os, h.tape, h.output, by simpa using h.size, fun k hk hne => (Below.heap_setCell w ⟨B, o, none⟩ v k (by show k ≠ B; omega)).trans (h.block k hk hne)⟩
theorem Cur.set {w : World} {c len cap N B o : Nat} {a : Option Addr} {v : Value} (h : Cur w c a len cap N) (hB : B ≠ c) (hb : ∀ b off, a = some ⟨b, off, none⟩ → 0 < len → b ≠ B) : Cur (w.setCell ⟨B, o, none⟩ v) c a len cap N := by
  obtain ⟨h0, h1, ⟨x, h2, h2'⟩, ⟨y, h3, h3', h3''⟩, h4, h5, h6, h7⟩ := h
  have hc : ∀ i j, i ≠ B → (w.setCell ⟨B, o, none⟩ v).cell? ⟨i, j, none⟩ = w.cell? ⟨i, j, none⟩ := fun i j hi => World.cell?_of_block (w := w) (Below.heap_setCell w ⟨B, o, none⟩ v i hi)
  have hf : ∀ x, (w.setCell ⟨B, o, none⟩ v).frozen? x = w.frozen? x := fun x => World.frozen?_setCell _ _ _ _
  refine ⟨by simpa using h0, (hc _ _ (Ne.symm hB)).trans h1, ⟨x, (hc _ _ (Ne.symm hB)).trans h2, h2'⟩, ⟨y, (hc _ _ (Ne.symm hB)).trans h3, h3', h3''⟩, (hf _).trans h4, (hf _).trans h5, ?_, ?_⟩
  · rcases h6 with h | ⟨b, off, rfl, hbb⟩
    · exact Or.inl h
    · refine Or.inr ⟨b, off, rfl, fun i hi => ?_⟩
      obtain ⟨z, hz, hz'⟩ := hbb i hi
      exact ⟨z, (hc _ _ (hb b off rfl (by omega))).trans hz, hz'⟩
  · intro b off e hl
    obtain ⟨hne, hlt⟩ := h7 b off e hl
    exact ⟨hne, by simpa using hlt⟩
theorem Kp.var {c : Nat} {W w1 : World} (hk : Kp c W w1) (b : Nat) (hb : b < W.heap.size) (hne : b ≠ c) (v0 v1 : Value) (h0 : W.cell? ⟨b, 0, none⟩ = some v0) (h1 : W.cell? ⟨b, 1, none⟩ = some v1) (h2 : W.frozen? ⟨b, 0, none⟩ = false) (h3 : W.frozen? ⟨b, 1, none⟩ = false) :
    w1.cell? ⟨b, 0, none⟩ = some v0 ∧ w1.cell? ⟨b, 1, none⟩ = some v1 ∧ w1.frozen? ⟨b, 0, none⟩ = false ∧ w1.frozen? ⟨b, 1, none⟩ = false :=
  ⟨(hk.cell hb hne).trans h0, (hk.cell hb hne).trans h1, (hk.frozen hb hne).trans h2, (hk.frozen hb hne).trans h3⟩
theorem six_cells (w : World) (t : TypeId) (z0 z1 z2 z3 z4 z5 : Int) : ∀ i, i < 6 → ∃ z : Int, (w.alloc (.cells #[.int .i64 z0, .int .i64 z1, .int .i64 z2, .int .i64 z3, .int .i64 z4, .int .i64 z5] t)).cell? ⟨w.heap.size, i, none⟩ = some (.int .i64 z) := by
  intro i hi
  have : i = 0 ∨ i = 1 ∨ i = 2 ∨ i = 3 ∨ i = 4 ∨ i = 5 := by omega
  rcases this with rfl | rfl | rfl | rfl | rfl | rfl
  · exact ⟨z0, by simp⟩
  · exact ⟨z1, by simp⟩
  · exact ⟨z2, by simp⟩
  · exact ⟨z3, by simp⟩
  · exact ⟨z4, by simp⟩
  · exact ⟨z5, by simp⟩

/-- Bytes that were handed in: they lie in old memory. -/
def Src (w : World) (a : Option Addr) (len : Nat) : Prop := Bytes w a len ∧ ∀ b off, a = some ⟨b, off, none⟩ → 0 < len → b < w.heap.size
theorem Src.below {w w' : World} {a : Option Addr} {len : Nat} (h : Src w a len) (hb : Below w.heap.size w w') : Src w' a len := by
  obtain ⟨h6, h7⟩ := h
  obtain ⟨hc, _⟩ := bcell hb
  refine ⟨?_, fun b off e hl => Nat.lt_of_lt_of_le (h7 b off e hl) hb.size⟩
  rcases h6 with h | ⟨b, off, rfl, hbb⟩
  · exact Or.inl h
  · refine Or.inr ⟨b, off, rfl, fun i hi => ?_⟩
    obtain ⟨z, hz, hz'⟩ := hbb i hi
    exact ⟨z, (hc _ _ (h7 b off rfl (by omega))).trans hz, hz'⟩
theorem cur_new {w : World} {a : Option Addr} {len cap : Nat} (h : Src w a len) : Cur (w.alloc (.cells #[.slice a len cap, .int .i64 0, .int .u64 0] 47)) w.heap.size a len cap 0 := by
  have h' := h.below (below_alloc w (.cells #[.slice a len cap, .int .i64 0, .int .u64 0] 47))
  exact ⟨by simp, by simp, ⟨0, by simp, Nat.le_refl _⟩, ⟨0, by simp, by omega, by omega⟩, by simp [go_sem], by simp [go_sem], h'.1, fun b off e hl => ⟨by have := h.2 b off e hl; omega, h'.2 b off e hl⟩⟩

end Go.Proofs.Ytnepjahhconodaa
namespace Go.Proofs.Ytnepjahhconodaa
open Go.RowKit

def ints (xs : List Int) : List Value := xs.map fun x => .int .i64 x
theorem ints_len (xs : List Int) : (ints xs).length = xs.length := by simp [ints]
theorem ints_snoc (xs : List Int) (x : Int) : ints (xs ++ [x]) = ints xs ++ [.int .i64 x] := by simp [ints]
theorem ints_get (xs : List Int) (j : Nat) (h : j < xs.length) : (ints xs)[j]? = some (.int .i64 (xs.getD j 0)) := by
  simp [ints, h]
theorem ints_set (xs : List Int) (j : Nat) (x : Int) : (ints xs).set j (.int .i64 x) = ints (xs.set j x) := by simp [ints, List.map_set]

/-- A slice of whole numbers, as it lies in memory. -/
def IRow (w : World) (v : Value) (xs : List Int) : Prop :=
  (xs = [] ∧ ∃ a c, v = .slice a 0 c) ∨ ∃ b o c, v = .slice (some ⟨b, o, none⟩) xs.length c ∧ b < w.heap.size ∧ ∀ i, i < xs.length → w.cell? ⟨b, o + i, none⟩ = some (.int .i64 (xs.getD i 0))
theorem IRow.below {w w' : World} {v : Value} {xs : List Int} (h : IRow w v xs) (hb : Below w.heap.size w w') : IRow w' v xs := by
  rcases h with h | ⟨b, o, c, hv, hlt, hc⟩
  · exact Or.inl h
  · exact Or.inr ⟨b, o, c, hv, Nat.lt_of_lt_of_le hlt hb.size, fun i hi => (hb.cell (p := ⟨b, o + i, none⟩) hlt).trans (hc i hi)⟩
theorem irow_owns {w : World} {base e : Nat} {v : Value} {xs : List Int} (h : w.ownsRow base e 1 v xs.length (ints xs)) : IRow w v xs := by
  rcases h.2 with ⟨hv, hn⟩ | ⟨g, cap, cur, hv, hb, hg, r⟩
  · exact Or.inl ⟨List.length_eq_zero_iff.1 hn, none, 0, hn ▸ hv⟩
  · subst hv
    refine Or.inr ⟨g, 0, cap, rfl, (Array.getElem?_eq_some_iff.1 hg).1, fun i hi => ?_⟩
    rw [Nat.zero_add, h.cellAt i (by simpa using hi), ints_get xs i hi]
end Go.Proofs.Ytnepjahhconodaa
namespace Go.Proofs.Ytnepjahhconodaa.Rk
open Go.Sort

/-- The value of the good with number i. -/
def val (vs : List Int) (i : Nat) : Int := vs.getD i 0
/-- Inserted ahead of the first one that is less. -/
def insL (vs : List Int) (i : Nat) : List Nat → List Nat
  | [] => [i]
  | x :: r => if val vs x ≥ val vs i then x :: insL vs i r else i :: x :: r
/-- The first k numbers, ranked. -/
def upto (vs : List Int) : Nat → List Nat
  | 0 => []
  | k + 1 => insL vs k (upto vs k)
def rank (vs : List Int) : List Nat := upto vs vs.length

theorem insL_len (vs : List Int) (i : Nat) : ∀ l, (insL vs i l).length = l.length + 1
  | [] => rfl
  | x :: r => by unfold insL; split <;> simp [insL_len vs i r]
theorem upto_len (vs : List Int) : ∀ k, (upto vs k).length = k
  | 0 => rfl
  | k + 1 => by rw [upto, insL_len, upto_len vs k]
theorem rank_len (vs : List Int) : (rank vs).length = vs.length := upto_len _ _
theorem insL_perm (vs : List Int) (i : Nat) : ∀ l, (insL vs i l).Perm (i :: l)
  | [] => List.Perm.refl _
  | x :: r => by
    unfold insL; split
    · exact ((insL_perm vs i r).cons x).trans (List.Perm.swap i x r)
    · exact List.Perm.refl _
theorem upto_perm (vs : List Int) : ∀ k, (upto vs k).Perm (List.range k)
  | 0 => List.Perm.refl _
  | k + 1 => by
    rw [upto, List.range_succ]
    exact ((insL_perm vs k _).trans ((upto_perm vs k).cons k)).trans (List.perm_append_singleton k (List.range k)).symm
theorem rank_perm (vs : List Int) : (rank vs).Perm (List.range vs.length) := upto_perm _ _
theorem upto_mem {vs : List Int} {k x : Nat} (h : x ∈ upto vs k) : x < k := by simpa using (upto_perm vs k).mem_iff.1 h
theorem rank_mem {vs : List Int} {x : Nat} (h : x ∈ rank vs) : x < vs.length := upto_mem h
theorem mem_insL {vs : List Int} {i x : Nat} {l : List Nat} : x ∈ insL vs i l ↔ x = i ∨ x ∈ l := by
  rw [(insL_perm vs i l).mem_iff, List.mem_cons]

/-- From the greatest one down. -/
def Down (vs : List Int) (l : List Nat) : Prop := l.Pairwise fun a b => val vs a ≥ val vs b
theorem insL_down (vs : List Int) (i : Nat) : ∀ l, Down vs l → Down vs (insL vs i l)
  | [], _ => by simp [insL, Down]
  | x :: r, h => by
    have h' := List.pairwise_cons.1 h
    unfold insL; split
    · rename_i hx
      refine List.pairwise_cons.2 ⟨fun y hy => ?_, insL_down vs i r h'.2⟩
      rcases mem_insL.1 hy with rfl | hy
      · exact hx
      · exact h'.1 y hy
    · rename_i hx
      refine List.pairwise_cons.2 ⟨fun y hy => ?_, h⟩
      rcases List.mem_cons.1 hy with rfl | hy
      · omega
      · have := h'.1 y hy; omega
theorem upto_down (vs : List Int) : ∀ k, Down vs (upto vs k)
  | 0 => List.Pairwise.nil
  | k + 1 => insL_down vs k _ (upto_down vs k)
theorem rank_down (vs : List Int) : Down vs (rank vs) := upto_down _ _

/-- Of alike ones the first one first. -/
def Stays (vs : List Int) (l : List Nat) : Prop := l.Pairwise fun a b => val vs a > val vs b ∨ (val vs a = val vs b ∧ a < b)
theorem insL_stays (vs : List Int) (i : Nat) : ∀ l, (∀ x ∈ l, x < i) → Stays vs l → Stays vs (insL vs i l)
  | [], _, _ => by simp [insL, Stays]
  | x :: r, hl, h => by
    have h' := List.pairwise_cons.1 h
    unfold insL; split
    · rename_i hx
      refine List.pairwise_cons.2 ⟨fun y hy => ?_, insL_stays vs i r (fun z hz => hl z (List.mem_cons_of_mem _ hz)) h'.2⟩
      rcases mem_insL.1 hy with rfl | hy
      · have := hl x (List.mem_cons_self ..); omega
      · exact h'.1 y hy
    · rename_i hx
      refine List.pairwise_cons.2 ⟨fun y hy => ?_, h⟩
      rcases List.mem_cons.1 hy with rfl | hy
      · left; omega
      · have := h'.1 y hy; left; omega
theorem upto_stays (vs : List Int) : ∀ k, Stays vs (upto vs k)
  | 0 => List.Pairwise.nil
  | k + 1 => insL_stays vs k _ (fun _ hx => upto_mem hx) (upto_stays vs k)
theorem rank_stays (vs : List Int) : Stays vs (rank vs) := upto_stays _ _

/-- Where it is inserted. -/
theorem insL_at (vs : List Int) (i : Nat) : ∀ (l : List Nat) (k : Nat), k ≤ l.length → (∀ j, j < k → val vs (l.getD j 0) ≥ val vs i) → (k < l.length → val vs (l.getD k 0) < val vs i) → insL vs i l = l.take k ++ i :: l.drop k
  | [], k, hk, _, _ => by simp at hk; subst hk; rfl
  | x :: r, 0, _, _, h2 => by
    have := h2 (by simp)
    unfold insL; rw [if_neg (by simpa using this)]; rfl
  | x :: r, k + 1, hk, h1, h2 => by
    have := h1 0 (by omega)
    unfold insL; rw [if_pos (by simpa using this), insL_at vs i r k (by simpa using hk) (fun j hj => by simpa using h1 (j + 1) (by omega)) (fun h => by simpa using h2 (by simpa using h))]
    rfl

/-- Of a list that goes down, inserted from behind. -/
theorem insL_behind (vs : List Int) (i : Nat) : ∀ (l : List Nat) (p : Nat), Down vs (l ++ [p]) → insL vs i (l ++ [p]) = if val vs i > val vs p then insL vs i l ++ [p] else l ++ [p, i]
  | [], p, _ => by
    simp only [List.nil_append, insL]
    split <;> split <;> first | rfl | omega
  | x :: r, p, h => by
    have h' := List.pairwise_cons.1 h
    have hp := h'.1 p (by simp)
    have ih := insL_behind vs i r p h'.2
    simp only [List.cons_append, insL]
    split
    · rename_i hx
      rw [ih]; split <;> rfl
    · rename_i hx
      rw [if_pos (by omega)]; rfl

/-- The comparison by which the program sorts: a ahead of b, where a's value is greater. -/
def lt (vs : List Int) (m : Nat) (a b : Fin (m + 1)) : Bool := decide (val vs b < val vs a)
def arr (m : Nat) (l : List (Fin (m + 1))) : Array (Fin (m + 1)) := l.toArray

theorem swp_list {α : Type} [Inhabited α] (A : List α) (p x : α) (S : List α) : swp (A ++ p :: x :: S).toArray (A.length + 1) A.length = (A ++ x :: p :: S).toArray := by
  unfold swp
  simp

theorem get_list {α : Type} [Inhabited α] (A : List α) (p : α) (S : List α) : (A ++ p :: S).toArray[A.length]! = p := by simp

def vals (m : Nat) (l : List (Fin (m + 1))) : List Nat := l.map (·.val)

theorem inner (vs : List Int) (m : Nat) (i : Fin (m + 1)) : ∀ (n : Nat) (A S : List (Fin (m + 1))), A.length = n → Down vs (vals m A) → ∃ B, insInner (lt vs m) 0 n (A ++ i :: S).toArray = (B ++ S).toArray ∧ vals m B = insL vs i.val (vals m A)
  | 0, A, S, hn, _ => by
    obtain rfl := List.length_eq_zero_iff.1 hn
    exact ⟨[i], rfl, rfl⟩
  | n + 1, A, S, hn, hd => by
    obtain ⟨A', p, rfl⟩ : ∃ A' p, A = A' ++ [p] := ⟨A.dropLast, A.getLast (by intro e; simp [e] at hn), (List.dropLast_concat_getLast _).symm⟩
    have hA' : A'.length = n := by simpa using hn
    have e1 : vals m (A' ++ [p]) = vals m A' ++ [p.val] := by simp [vals]
    have hd' : Down vs (vals m A') := by
      rw [e1] at hd; exact (List.pairwise_append.1 hd).1
    rw [e1, insL_behind vs i.val _ _ (e1 ▸ hd)]
    have g1 : (A' ++ [p] ++ i :: S).toArray[n + 1]! = i := by
      have := get_list (A' ++ [p]) i S
      rw [hn] at this
      exact this
    have g2 : (A' ++ [p] ++ i :: S).toArray[n]! = p := by
      have := get_list A' p (i :: S)
      rw [List.append_assoc]
      rw [hA'] at this
      exact this
    rw [insInner, g1, g2]
    by_cases h : val vs p.val < val vs i.val
    · have hl : lt vs m i p = true := decide_eq_true h
      rw [if_pos (by simp [hl]), if_pos h]
      have hs : swp (A' ++ [p] ++ i :: S).toArray (n + 1) n = (A' ++ i :: p :: S).toArray := by
        have := swp_list A' p i S
        rw [hA'] at this
        rw [List.append_assoc]
        exact this
      rw [hs]
      obtain ⟨B, hB, hv⟩ := inner vs m i n A' (p :: S) hA' hd'
      exact ⟨B ++ [p], by rw [hB, List.append_assoc]; rfl, by simp [vals] at hv ⊢; exact hv⟩
    · have hl : lt vs m i p = false := decide_eq_false h
      rw [if_neg (by simp [hl]), if_neg (by omega)]
      exact ⟨A' ++ [p, i], by simp, by simp [vals]⟩

/-- The whole sort of the numbers 0, 1, .. m. -/
theorem outer (vs : List Int) (m : Nat) : ∀ (r k : Nat) (A S : List (Fin (m + 1))), A.length = k → vals m A = upto vs k → vals m S = (List.range' k (m + 1 - k)) → k ≤ m + 1 → m + 1 - k = r →
    ∃ B, insOuter (lt vs m) 0 (m + 1) k (A ++ S).toArray = B.toArray ∧ vals m B = upto vs (m + 1)
  | 0, k, A, S, hA, hv, hS, hk, hr => by
    have e : k = m + 1 := by omega
    subst e
    rw [insOuter_stop _ _ _ _ _ (by omega)]
    have : S = [] := by simpa [vals] using hS
    subst this
    exact ⟨A, by simp, hv⟩
  | r + 1, k, A, S, hA, hv, hS, hk, hr => by
    have hlt : k < m + 1 := by omega
    rw [insOuter_go _ _ _ _ _ hlt]
    have e : m + 1 - k = (m + 1 - (k + 1)) + 1 := by omega
    rw [e, List.range'_succ] at hS
    obtain ⟨s, S', rfl⟩ : ∃ s S', S = s :: S' := by
      cases S with
      | nil => simp [vals] at hS
      | cons s S' => exact ⟨s, S', rfl⟩
    simp [vals] at hS
    obtain ⟨B, hB, hvB⟩ := inner vs m s k A S' hA (by rw [hv]; exact upto_down vs k)
    rw [hB]
    rw [hv, hS.1] at hvB
    exact outer vs m r (k + 1) B S' (by have := congrArg List.length hvB; simpa [vals, insL_len, upto_len] using this) hvB (by simpa [vals] using hS.2) (by omega) (by omega)

theorem sorted (vs : List Int) (m : Nat) (d : Array (Fin (m + 1))) (hd : vals m d.toList = List.range (m + 1)) (hv : vs.length = m + 1) :
    ∃ B, insertionSort (lt vs m) d 0 (m + 1) = B.toArray ∧ vals m B = rank vs := by
  unfold insertionSort rank
  rw [hv]
  obtain ⟨l, rfl⟩ : ∃ l : List (Fin (m + 1)), d = l.toArray := ⟨d.toList, by simp⟩
  simp only at hd
  rw [List.range_succ_eq_map] at hd
  obtain ⟨s, S, rfl⟩ : ∃ s S, l = s :: S := by
    cases l with
    | nil => simp [vals] at hd
    | cons s S' => exact ⟨s, S', rfl⟩
  simp only [vals, List.map_cons, List.cons.injEq] at hd
  refine outer vs m m 1 [s] S rfl ?_ ?_ (by omega) (by omega)
  · simp [vals, upto, insL, hd.1]
  · show S.map (·.val) = _
    rw [hd.2, Nat.add_sub_cancel]
    apply List.ext_getElem
    · simp
    · intro j h1 h2
      simp; omega
end Go.Proofs.Ytnepjahhconodaa.Rk
namespace Go.Proofs.Ytnepjahhconodaa.Pf

theorem getD_lt {α : Type} (xs : List α) (d : α) {i : Nat} (h : i < xs.length) : xs.getD i d = xs[i] := by simp [h]
def inB (n lo hi : Int) : Bool := decide (lo ≤ n) && decide (n ≤ hi)
theorem inB_yes {n lo hi : Int} (h : inB n lo hi = true) : lo ≤ n ∧ n ≤ hi := by simpa [inB] using h
theorem inB_of {n lo hi : Int} (h1 : lo ≤ n) (h2 : n ≤ hi) : inB n lo hi = true := by simp [inB, h1, h2]
theorem inB_no {n lo hi : Int} (h : inB n lo hi = false) : n < lo ∨ hi < n := by
  by_cases h1 : lo ≤ n
  · right; simp [inB, h1] at h; omega
  · left; omega
def allB (xs : List Int) (lo hi : Int) : Bool := xs.all fun x => inB x lo hi
theorem allB_get {xs : List Int} {lo hi : Int} (h : allB xs lo hi = true) {i : Nat} (hi' : i < xs.length) : inB (xs.getD i 0) lo hi = true := by
  have := List.all_eq_true.1 h (xs.getD i 0) (by rw [getD_lt _ _ hi']; exact List.getElem_mem hi')
  exact this
theorem allB_of {xs : List Int} {lo hi : Int} (h : ∀ i, i < xs.length → inB (xs.getD i 0) lo hi = true) : allB xs lo hi = true := by
  refine List.all_eq_true.2 fun x hx => ?_
  obtain ⟨i, hi', rfl⟩ := List.getElem_of_mem hx
  have := h i hi'
  rwa [getD_lt _ _ hi'] at this
theorem allB_not {xs : List Int} {lo hi : Int} {i : Nat} (hi' : i < xs.length) (h : inB (xs.getD i 0) lo hi = false) : allB xs lo hi = false := by
  cases e : allB xs lo hi
  · rfl
  · rw [allB_get e hi'] at h; cases h

/-- One good of a profile: how often, how much. -/
def goodAt (p f : Int) : Bool := inB p 0 10000 && inB f 0 10000000 && ((p == 0) == (f == 0))
def goodP (ps fs : List Int) : Bool := decide (ps.length = fs.length) && decide (ps.length ≤ 12) && (List.range ps.length).all fun i => goodAt (ps.getD i 0) (fs.getD i 0)
theorem goodP_len {ps fs : List Int} (h : goodP ps fs = true) : ps.length = fs.length ∧ ps.length ≤ 12 := by
  simp only [goodP, Bool.and_eq_true, decide_eq_true_eq] at h
  exact h.1
theorem goodP_at {ps fs : List Int} (h : goodP ps fs = true) {i : Nat} (hi : i < ps.length) : goodAt (ps.getD i 0) (fs.getD i 0) = true := by
  simp only [goodP, Bool.and_eq_true, decide_eq_true_eq] at h
  exact List.all_eq_true.1 h.2 i (by simpa using hi)
theorem goodP_of {ps fs : List Int} (h1 : ps.length = fs.length) (h2 : ps.length ≤ 12) (h : ∀ i, i < ps.length → goodAt (ps.getD i 0) (fs.getD i 0) = true) : goodP ps fs = true := by
  simp only [goodP, Bool.and_eq_true, decide_eq_true_eq]
  exact ⟨⟨h1, h2⟩, List.all_eq_true.2 fun i hi => h i (by simpa using hi)⟩
theorem goodP_ne {ps fs : List Int} (h : ps.length ≠ fs.length) : goodP ps fs = false := by simp [goodP, h]
theorem goodP_many {ps fs : List Int} (h : 12 < ps.length) : goodP ps fs = false := by simp [goodP, show ¬ ps.length ≤ 12 by omega]
theorem goodP_not {ps fs : List Int} {i : Nat} (hi : i < ps.length) (h : goodAt (ps.getD i 0) (fs.getD i 0) = false) : goodP ps fs = false := by
  cases e : goodP ps fs
  · rfl
  · rw [goodP_at e hi] at h; cases h
theorem goodAt_bd {p f : Int} (h : goodAt p f = true) : 0 ≤ p ∧ p ≤ 10000 ∧ 0 ≤ f ∧ f ≤ 10000000 ∧ (p = 0 ↔ f = 0) := by
  simp only [goodAt, Bool.and_eq_true] at h
  have h1 := inB_yes h.1.1
  have h2 := inB_yes h.1.2
  refine ⟨h1.1, h1.2, h2.1, h2.2, ?_⟩
  have h3 := h.2
  by_cases a : p = 0 <;> by_cases b : f = 0 <;> simp [a, b] at h3 ⊢
theorem goodP_picks {ps fs : List Int} (h : goodP ps fs = true) : allB ps 0 10000 = true :=
  allB_of fun i hi => by have := goodAt_bd (goodP_at h hi); exact inB_of this.1 this.2.1
theorem goodP_flow {ps fs : List Int} (h : goodP ps fs = true) : allB fs 0 10000000 = true :=
  allB_of fun i hi => by have := goodAt_bd (goodP_at h (i := i) (by have := goodP_len h; omega)); exact inB_of this.2.2.1 this.2.2.2.1
theorem goodP_split {ps fs : List Int} (h1 : ps.length = fs.length) (h2 : ps.length ≤ 12) (h3 : allB ps 0 10000 = true) (h4 : allB fs 0 10000000 = true) (h : ∀ i, i < ps.length → ((ps.getD i 0 == 0) == (fs.getD i 0 == 0)) = true) : goodP ps fs = true :=
  goodP_of h1 h2 fun i hi => by simp only [goodAt, Bool.and_eq_true]; exact ⟨⟨allB_get h3 hi, allB_get h4 (by omega)⟩, h i hi⟩
theorem goodP_npicks {ps fs : List Int} (h : allB ps 0 10000 = false) : goodP ps fs = false := by
  cases e : goodP ps fs
  · rfl
  · rw [goodP_picks e] at h; cases h
theorem goodP_nflow {ps fs : List Int} (h : allB fs 0 10000000 = false) : goodP ps fs = false := by
  cases e : goodP ps fs
  · rfl
  · rw [goodP_flow e] at h; cases h
theorem goodP_nzero {ps fs : List Int} {i : Nat} (hi : i < ps.length) (h : ((ps.getD i 0 == 0) == (fs.getD i 0 == 0)) = false) : goodP ps fs = false :=
  goodP_not hi (by unfold goodAt; rw [h, Bool.and_false])

theorem take_sum_succ (xs : List Int) (k : Nat) (h : k < xs.length) : (xs.take (k + 1)).sum = (xs.take k).sum + xs.getD k 0 := by
  rw [List.take_succ_eq_append_getElem h, List.sum_append, getD_lt _ _ h]; simp
theorem sum_bd {lo hi : Int} : ∀ {xs : List Int}, allB xs lo hi = true → lo * xs.length ≤ xs.sum ∧ xs.sum ≤ hi * xs.length
  | [], _ => by simp
  | x :: r, h => by
    simp only [allB, List.all_cons, Bool.and_eq_true] at h
    have ih := sum_bd (xs := r) h.2
    have hx := inB_yes h.1
    simp only [List.sum_cons, List.length_cons, Int.natCast_add, Int.natCast_one, Int.mul_add, Int.mul_one]
    omega
theorem allB_take {xs : List Int} {lo hi : Int} (h : allB xs lo hi = true) (k : Nat) : allB (xs.take k) lo hi = true :=
  List.all_eq_true.2 fun x hx => List.all_eq_true.1 h x (List.mem_of_mem_take hx)
end Go.Proofs.Ytnepjahhconodaa.Pf
namespace Go.Proofs.Ytnepjahhconodaa
open Go.RowKit

/-- A slice of whole numbers, wherever it lies: its address, and what it holds. -/
def ARow (w : World) (a : Option Addr) (xs : List Int) : Prop := xs = [] ∨ ∃ b off, a = some ⟨b, off, none⟩ ∧ b < w.heap.size ∧ ∀ i, i < xs.length → w.cell? ⟨b, off + i, none⟩ = some (.int .i64 (xs.getD i 0))
theorem ARow.keep {w w' : World} {a : Option Addr} {xs : List Int} (h : ARow w a xs) (hs : w.heap.size ≤ w'.heap.size) (hB : ∀ b, b < w.heap.size → w'.heap[b]? = w.heap[b]?) : ARow w' a xs := by
  rcases h with h | ⟨b, off, ha, hb, hc⟩
  · exact Or.inl h
  · exact Or.inr ⟨b, off, ha, Nat.lt_of_lt_of_le hb hs, fun i hi => (World.cell?_of_block (w := w) (a := ⟨b, off + i, none⟩) (hB b hb)).trans (hc i hi)⟩
theorem ARow.below {w w' : World} {a : Option Addr} {xs : List Int} (h : ARow w a xs) (hB : Below w.heap.size w w') : ARow w' a xs := h.keep hB.size hB.block
theorem ARow.alloc {w : World} {a : Option Addr} {xs : List Int} (h : ARow w a xs) (o : Obj) : ARow (w.alloc o) a xs := h.below ((Below.refl _ _).alloc (Nat.le_refl _) _)
theorem ARow.drewN {w : World} {a : Option Addr} {xs : List Int} (h : ARow w a xs) (q : Nat) : ARow (w.drewN q) a xs := h
theorem ARow.at {w : World} {a : Option Addr} {xs : List Int} (h : ARow w a xs) {i : Nat} (hi : i < xs.length) : ∃ b off, a = some ⟨b, off, none⟩ ∧ w.cell? ⟨b, off + i, none⟩ = some (.int .i64 (xs.getD i 0)) := by
  rcases h with h | ⟨b, off, ha, _, hc⟩
  · rw [h] at hi; simp at hi
  · exact ⟨b, off, ha, hc i hi⟩
theorem ARow.at' {w : World} {a : Option Addr} {xs : List Int} (h : ARow w a xs) {i : Nat} (hi : i < xs.length) : ∃ b off, a = some ⟨b, off, none⟩ ∧ ∀ o, (w.alloc o).cell? ⟨b, off + i, none⟩ = some (.int .i64 (xs.getD i 0)) := by
  rcases h with h | ⟨b, off, ha, hb, hc⟩
  · rw [h] at hi; simp at hi
  · exact ⟨b, off, ha, fun o => (((Below.refl _ _).alloc (Nat.le_refl _) o).cell (p := ⟨b, off + i, none⟩) hb).trans (hc i hi)⟩
theorem arow_owns {w : World} {base e : Nat} {g n cap : Nat} {xs : List Int} (hn : n = xs.length) (h : w.ownsRow base e 1 (.slice (some ⟨g, 0, none⟩) n cap) n (ints xs)) : ARow w (some ⟨g, 0, none⟩) xs := by
  subst hn
  rcases irow_owns h with ⟨h, _⟩ | ⟨b, o, c, hv, hlt, hc⟩
  · exact Or.inl h
  · cases hv; exact Or.inr ⟨_, _, rfl, hlt, hc⟩

set_option maxRecDepth 100000 in
set_option maxHeartbeats 400000 in
theorem between_any (n lo hi : Int) (w : World) :
    Calls Try.prog 52 #[.int .i64 n, .int .i64 lo, .int .i64 hi] w fun e w' => e = .returned (.bool (Pf.inB n lo hi)) ∧ w' = w := by
  unfold Pf.inB
  by_cases h1 : lo ≤ n
  · by_cases h2 : n ≤ hi
    · go_enter Try.func52, Try.ntmps52
      go_wp2
      go_ret
      exact ⟨by simp [h1, h2], rfl⟩
    · go_enter Try.func52, Try.ntmps52
      go_wp2
      go_ret
      exact ⟨by simp [show ¬ n ≤ hi by omega], rfl⟩
  · go_enter Try.func52, Try.ntmps52
    go_wp2
    go_ret
    exact ⟨by simp [show ¬ lo ≤ n by omega], rfl⟩
theorem between_eq {n lo hi : Int} {w : World} {b : Bool} (h : Pf.inB n lo hi = b) :
    Calls Try.prog 52 #[.int .i64 n, .int .i64 lo, .int .i64 hi] w fun e w' => e = .returned (.bool b) ∧ w' = w := h ▸ between_any n lo hi w

set_option maxRecDepth 100000 in
set_option maxHeartbeats 1000000 in
theorem areb_any {a : Option Addr} {c : Nat} {xs : List Int} {lo hi : Int} {w : World} (h : ARow w a xs) (hl : xs.length ≤ 4000000000000) :
    Calls Try.prog 63 #[.slice a xs.length c, .int .i64 lo, .int .i64 hi] w fun e w' => e = .returned (.bool (Pf.allB xs lo hi)) ∧ w' = w := by
  have H := hide h
  clear h
  go_enter Try.func63, Try.ntmps63
  go_wp2_with fail
  go_loop [6, 8, 11] (fun s6 _ s => ∃ k : Nat, s6 = .bool false ∧ s = .int .i64 k ∧ k ≤ xs.length ∧ Hid (∀ i, i < k → Pf.inB (xs.getD i 0) lo hi = true)) (fun _ _ s => xs.length - (intOf s).toNat)
  case atStart => exact ⟨0, rfl, rfl, Nat.zero_le _, hide fun i hi => absurd hi (Nat.not_lt_zero _)⟩
  case round =>
    obtain ⟨k, rfl, rfl, hk, HA⟩ := hrel
    by_cases hlt : k < xs.length
    · obtain ⟨b, off, rfl, r1⟩ := H.out.at hlt
      have i0 : (0 : Int) ≤ (k : Int) := by omega
      have i1 : (k : Int) < (xs.length : Int) := by omega
      have HX := hide (rfl : xs.getD k 0 = xs.getD k 0)
      generalize hx : xs.getD k 0 = x at r1
      cases hb : Pf.inB x lo hi
      · have HN := hide (Pf.allB_not (lo := lo) (hi := hi) hlt (by rw [hx]; exact hb))
        clear hx
        go_wp2_with fail
        refine (between_eq hb).mono ?_
        rintro e w1 ⟨rfl, rfl⟩
        go_wp2_with fail
        go_ret
        exact ⟨ret_bool HN.out.symm, rfl⟩
      · have HY : Hid (∀ i, i < k + 1 → Pf.inB (xs.getD i 0) lo hi = true) := hide fun i hi => by
          by_cases e : i = k
          · subst e; rw [hx]; exact hb
          · exact HA.out i (by omega)
        clear hx
        go_wp2_with fail
        refine (between_eq hb).mono ?_
        rintro e w1 ⟨rfl, rfl⟩
        go_wp2_with fail
        go_round
        case rel => exact ⟨k + 1, rfl, by go_num, by omega, HY⟩
        case measure => simp only [intOf]; omega
    · have hke : k = xs.length := by omega
      subst hke
      have HY := hide (Pf.allB_of HA.out)
      go_wp2_with fail
      go_ret
      exact ⟨ret_bool HY.out.symm, rfl⟩
theorem areb_eqn {a : Option Addr} {n c : Nat} {xs : List Int} {lo hi : Int} {w : World} {r : Bool} (h : Hid (ARow w a xs)) (hn : Hid (xs.length = n)) (hl : n ≤ 1000) (hr : Hid (Pf.allB xs lo hi = r)) :
    Calls Try.prog 63 #[.slice a n c, .int .i64 lo, .int .i64 hi] w fun e w' => e = .returned (.bool r) ∧ w' = w := by
  have := hn.out
  subst this
  exact hr.out ▸ areb_any h.out (by omega)

theorem in_eq {n lo hi : Int} {w : World} {b : Bool} (h : Pf.inB n lo hi = b) :
    Calls Try.prog 55 #[.int .i64 n, .int .i64 lo, .int .i64 hi] w fun e w' => e = .returned (.bool b) ∧ w' = w := by
  cases b
  · exact in_no (Pf.inB_no h)
  · exact in_yes (Pf.inB_yes h).1 (Pf.inB_yes h).2

set_option maxRecDepth 100000 in
set_option maxHeartbeats 1000000 in
theorem all_any {a : Option Addr} {c : Nat} {xs : List Int} {lo hi : Int} {w : World} (h : ARow w a xs) (hl : xs.length ≤ 4000000000000) :
    Calls Try.prog 54 #[.slice a xs.length c, .int .i64 lo, .int .i64 hi] w fun e w' => e = .returned (.bool (Pf.allB xs lo hi)) ∧ w' = w := by
  have H := hide h
  clear h
  go_enter Try.func54, Try.ntmps54
  go_wp2_with fail
  go_loop [6, 8, 11] (fun s6 _ s => ∃ k : Nat, s6 = .bool false ∧ s = .int .i64 k ∧ k ≤ xs.length ∧ Hid (∀ i, i < k → Pf.inB (xs.getD i 0) lo hi = true)) (fun _ _ s => xs.length - (intOf s).toNat)
  case atStart => exact ⟨0, rfl, rfl, Nat.zero_le _, hide fun i hi => absurd hi (Nat.not_lt_zero _)⟩
  case round =>
    obtain ⟨k, rfl, rfl, hk, HA⟩ := hrel
    by_cases hlt : k < xs.length
    · obtain ⟨b, off, rfl, r1⟩ := H.out.at hlt
      have i0 : (0 : Int) ≤ (k : Int) := by omega
      have i1 : (k : Int) < (xs.length : Int) := by omega
      have HX := hide (rfl : xs.getD k 0 = xs.getD k 0)
      generalize hx : xs.getD k 0 = x at r1
      cases hb : Pf.inB x lo hi
      · have HN := hide (Pf.allB_not (lo := lo) (hi := hi) hlt (by rw [hx]; exact hb))
        clear hx
        go_wp2_with fail
        refine (in_eq hb).mono ?_
        rintro e w1 ⟨rfl, rfl⟩
        go_wp2_with fail
        go_ret
        exact ⟨ret_bool HN.out.symm, rfl⟩
      · have HY : Hid (∀ i, i < k + 1 → Pf.inB (xs.getD i 0) lo hi = true) := hide fun i hi => by
          by_cases e : i = k
          · subst e; rw [hx]; exact hb
          · exact HA.out i (by omega)
        clear hx
        go_wp2_with fail
        refine (in_eq hb).mono ?_
        rintro e w1 ⟨rfl, rfl⟩
        go_wp2_with fail
        go_round
        case rel => exact ⟨k + 1, rfl, by go_num, by omega, HY⟩
        case measure => simp only [intOf]; omega
    · have hke : k = xs.length := by omega
      subst hke
      have HY := hide (Pf.allB_of HA.out)
      go_wp2_with fail
      go_ret
      exact ⟨ret_bool HY.out.symm, rfl⟩
theorem all_eq {a : Option Addr} {c : Nat} {xs : List Int} {lo hi : Int} {w : World} {r : Bool} (h : ARow w a xs) (hl : xs.length ≤ 4000000000000) (hr : Pf.allB xs lo hi = r) :
    Calls Try.prog 54 #[.slice a xs.length c, .int .i64 lo, .int .i64 hi] w fun e w' => e = .returned (.bool r) ∧ w' = w := hr ▸ all_any h hl

set_option maxRecDepth 100000 in
set_option maxHeartbeats 1000000 in
theorem isum_any {a : Option Addr} {c : Nat} {xs : List Int} {w : World} (h : ARow w a xs) (hl : xs.length ≤ 1000) (hb : Pf.allB xs (-10000000) 10000000 = true) :
    Calls Try.prog 45 #[.slice a xs.length c] w fun e w' => e = .returned (.int .i64 xs.sum) ∧ w' = w := by
  have H := hide h
  have HB := hide hb
  clear h hb
  go_enter Try.func45, Try.ntmps45
  go_wp2_with fail
  go_loop [3, 5, 8] (fun s3 _ s => ∃ (k : Nat) (n : Int), s3 = .int .i64 n ∧ s = .int .i64 k ∧ k ≤ xs.length ∧ Hid (n = (xs.take k).sum) ∧ -10000000000 ≤ n ∧ n ≤ 10000000000) (fun _ _ s => xs.length - (intOf s).toNat)
  case atStart => exact ⟨0, 0, rfl, rfl, Nat.zero_le _, hide (by simp), by omega, by omega⟩
  case round =>
    obtain ⟨k, n, rfl, rfl, hk, HN, hn0, hn1⟩ := hrel
    by_cases hlt : k < xs.length
    · obtain ⟨b, off, rfl, r1⟩ := H.out.at hlt
      have i0 : (0 : Int) ≤ (k : Int) := by omega
      have i1 : (k : Int) < (xs.length : Int) := by omega
      have hs := Pf.take_sum_succ xs k hlt
      have hx := Pf.inB_yes (Pf.allB_get HB.out hlt)
      have ht := Pf.sum_bd (Pf.allB_take HB.out (k + 1))
      rw [show (xs.take (k + 1)).length = k + 1 by simp; omega] at ht
      rw [hs, ← HN.out] at ht
      rw [← HN.out] at hs
      have HS := hide hs
      generalize xs.getD k 0 = x at *
      clear hs
      obtain ⟨hx0, hx1⟩ := hx
      have ht0 : -10000000000 ≤ n + x := by omega
      have ht1 : n + x ≤ 10000000000 := by omega
      clear ht
      go_wp2_with fail
      go_round
      case rel => exact ⟨k + 1, n + x, by go_num, by go_num, by omega, hide HS.out.symm, by omega, by omega⟩
      case measure => simp only [intOf]; omega
    · have hke : k = xs.length := by omega
      subst hke
      have HE := HN.out
      rw [List.take_length] at HE
      have HE' := hide HE
      clear HE
      go_wp2_with fail
      go_ret
      exact ⟨ret_int HE'.out, rfl⟩
end Go.Proofs.Ytnepjahhconodaa
namespace Go.Proofs.Ytnepjahhconodaa
open Go.RowKit

theorem infoI : ∃ i, Try.prog.info? 3 = some i ∧ i.zero = some (.int .i64 0) ∧ i.size = 1 ∧ i.bytes = 8 := by
  have h : (Try.prog.info? 3).map (fun i => (i.zero, i.size, i.bytes)) = some (some (.int .i64 0), 1, 8) := by kernel_rfl
  obtain ⟨i, hi, hzz⟩ := Option.map_eq_some_iff.1 h
  simp only [Prod.mk.injEq] at hzz
  exact ⟨i, hi, hzz.1, hzz.2.1, hzz.2.2⟩
/-- A slice of values of one cell each. -/
def VRow (w : World) (a : Option Addr) (vs : List Value) : Prop := vs = [] ∨ ∃ b off, a = some ⟨b, off, none⟩ ∧ b < w.heap.size ∧ ∀ j u, vs[j]? = some u → w.cell? ⟨b, off + j, none⟩ = some u
theorem VRow.below {w w' : World} {a : Option Addr} {vs : List Value} (h : VRow w a vs) (hb : Below w.heap.size w w') : VRow w' a vs := by
  rcases h with h | ⟨b, off, ha, hl, hc⟩
  · exact Or.inl h
  · exact Or.inr ⟨b, off, ha, Nat.lt_of_lt_of_le hl hb.size, fun j u hj => (hb.cell (p := ⟨b, off + j, none⟩) hl).trans (hc j u hj)⟩
theorem ARow.vrow {w : World} {a : Option Addr} {xs : List Int} (h : ARow w a xs) : VRow w a (ints xs) := by
  rcases h with h | ⟨b, off, ha, hl, hc⟩
  · exact Or.inl (by rw [h]; rfl)
  · refine Or.inr ⟨b, off, ha, hl, fun j u hj => ?_⟩
    have hjl : j < xs.length := by
      have := (List.getElem?_eq_some_iff.1 hj).1
      simpa [ints] using this
    rw [hc j hjl]
    rw [ints_get xs j hjl] at hj
    exact hj
theorem c_ints (xs : List Int) : ∀ u ∈ ints xs, u.oneCell' = true := by
  intro u hu
  simp only [ints, List.mem_map] at hu
  obtain ⟨x, _, rfl⟩ := hu; rfl
theorem add_plain' (b o j : Nat) : (⟨b, o, none⟩ : Addr).add j = ⟨b, o + j, none⟩ := by unfold Addr.add; split <;> simp_all
/-- Append of whatever list of values, onto an owned one. -/
theorem run_append_v {P : Program} (w : World) (base : Nat) (t ty e : TypeId) (i : TypeInfo) (z : Value) (bytes : Nat) (ht : P.underlying t = some (.slice e)) (hi : P.info? e = some i) (hz : i.zero = some z)
    (hsize : i.size = 1) (hby : i.bytes = bytes) (hzs : z.cells.size = 1) (v : Value) (n : Nat) (xs : List Value) (hown : w.ownsRow base e 1 v n xs)
    (a : Option Addr) (m c : Nat) (news : List Value) (hm : news.length = m) (hv : VRow w a news) (h1 : ∀ u ∈ news, u.oneCell' = true) (h63 : n + m ≤ maxLen) (hbytes : (n + m) * bytes ≤ 140737488355328) (hbase : base ≤ w.heap.size) :
    ∃ v' w', (Builtin.append_ #[t, t] ty #[v, .slice a m c]).run P w = .ok v' w' ∧ w'.ownsRow base e 1 v' (n + m) (xs ++ news) ∧ w.grownBy w' v.ownBlock := by
  cases a with
  | none =>
    have hn : news = [] := by
      rcases hv with h | ⟨b, off, h, _⟩
      · exact h
      · cases h
    subst hn
    have : m = 0 := by simpa using hm.symm
    subst this
    refine ⟨v, w, ?_, by simpa using hown, World.grownBy.refl _ _⟩
    rcases hown.2 with ⟨rfl, rfl⟩ | ⟨g, cap, cur, rfl, _, _, hnc, _⟩
    · simp [Builtin.append_, run_underlying ht, sizeOf, typeInfo, hi, Builtin.lenOf, Builtin.firstCells]
    · simp [Builtin.append_, run_underlying ht, sizeOf, typeInfo, hi, Builtin.lenOf, Builtin.firstCells, hnc, storeCells]
  | some ad =>
    obtain ⟨v', w', hr, h2, h3, _⟩ := run_append_own (P := P) w base t ty e i z 1 bytes ht hi hz hsize hby hzs (by decide) v n xs hown ad m c news (by omega) (fun j u hj => by
      rcases hv with h | ⟨b, off, h, _, hc⟩
      · rw [h] at hj; simp at hj
      · cases h; rw [add_plain']; exact hc j u hj) h1 h63 hbytes hbase
    exact ⟨v', w', hr, h2, h3⟩
theorem grown_under' {w w' : World} {base e s n k : Nat} {v : Value} {xs : List Value} (hg : w.grownBy w' v.ownBlock) (h : w.ownsRow base e s v n xs) (hk : k ≤ base) (hs : k ≤ w.heap.size) : Below k w w' :=
  ⟨hg.os, hg.tape, hg.output, hg.size, fun b hb => hg.block b (by omega) (fun he => by have := h.lt b he.symm; omega)⟩
theorem vrow_new (w : World) (u : Value) (e : TypeId) : VRow (w.alloc (.cells #[u] e)) (some ⟨w.heap.size, 0, none⟩) [u] := by
  refine Or.inr ⟨w.heap.size, 0, rfl, by simp, fun j x hj => ?_⟩
  have : j = 0 := by
    have := (List.getElem?_eq_some_iff.1 hj).1
    simpa using this
  subst this
  have : x = u := by simpa using hj.symm
  subst this
  simp
/-- One value more behind an owned list of ints. -/
theorem push_int {w : World} {base n : Nat} {v : Value} {xs : List Value} {x : Int} (hown : w.ownsRow base 3 1 v n xs) (hn : n ≤ 100000) (hb : base ≤ w.heap.size) :
    ∃ v' w', (∀ ty, (Builtin.append_ #[25, 25] ty #[v, .slice (some ⟨w.heap.size, 0, none⟩) 1 1]).run Try.prog (w.alloc (.cells #[.int .i64 x] 3)) = .ok v' w') ∧ w'.ownsRow base 3 1 v' (n + 1) (xs ++ [.int .i64 x]) ∧ w.grownBy w' v.ownBlock := by
  obtain ⟨i0, hi, hz0, hz1, hz2⟩ := infoI
  obtain ⟨v', w', h1, h2, h3⟩ := run_append_v (P := Try.prog) (w.alloc (.cells #[.int .i64 x] 3)) base 25 0 3 i0 _ 8 Try.underlying25 hi hz0 hz1 hz2 rfl v n xs (hown.alloc _) (some ⟨w.heap.size, 0, none⟩) 1 1 [.int .i64 x] rfl (vrow_new w _ 3) (fun u hu => by simp at hu; subst hu; rfl) (by unfold maxLen; omega) (by omega) (by simp; omega)
  refine ⟨v', w', fun _ => h1, h2, ?_⟩
  have hg := World.grownBy_alloc w (.cells #[.int .i64 x] 3) v.ownBlock
  exact ⟨h3.os.trans hg.os, h3.tape.trans hg.tape, h3.output.trans hg.output, Nat.le_trans hg.size h3.size, fun b hb hne => (h3.block b (Nat.lt_of_lt_of_le hb hg.size) hne).trans (hg.block b hb hne)⟩
/-- An owned list is nothing, or lies somewhere. -/
theorem own_form {w : World} {base e s n : Nat} {v : Value} {xs : List Value} (h : w.ownsRow base e s v n xs) : ∃ a c, v = .slice a n c := by
  rcases h.2 with ⟨rfl, rfl⟩ | ⟨g, cap, cur, rfl, _⟩
  · exact ⟨none, 0, rfl⟩
  · exact ⟨_, _, rfl⟩
end Go.Proofs.Ytnepjahhconodaa
namespace Go.Proofs.Ytnepjahhconodaa
open Go.RowKit
end Go.Proofs.Ytnepjahhconodaa
namespace Go.Proofs.Ytnepjahhconodaa
open Go.RowKit

theorem makeI_run (n : Nat) (hn : n ≤ 1048576) (w : World) : (Instr.makeSlice 25 (.int .i64 (n : Int)) (.int .i64 (n : Int))).run Try.prog w = .ok (.slice (some ⟨w.heap.size, 0, none⟩) n n) (w.alloc (.cells (madeCells #[.int .i64 0] n) 3)) := by
  have h : (Try.prog.info? 3).map (fun i => (i.zero, i.size, i.bytes)) = some (some (.int .i64 0), 1, 8) := by kernel_rfl
  obtain ⟨i, hi, hzz⟩ := Option.map_eq_some_iff.1 h
  simp only [Prod.mk.injEq] at hzz
  obtain ⟨hz, hs, hb⟩ := hzz
  have := run_make (P := Try.prog) w 25 3 i _ Try.underlying25 hi hz .i64 .i64 (n : Int) (n : Int) (by omega) (by omega) (by rw [hb]; omega) (by omega)
  simpa [hs, Value.cells] using this
theorem made_own (w : World) (n : Nat) (hn : n ≤ 1048576) : (w.alloc (.cells (madeCells #[.int .i64 0] n) 3)).ownsRow w.heap.size 3 1 (.slice (some ⟨w.heap.size, 0, none⟩) n n) n (ints (List.replicate n 0)) := by
  have h := World.ownsRow_lit (base := w.heap.size) (e := 3) (size := 1) w (madeCells #[.int .i64 0] n) n (Nat.le_refl _) (by unfold maxLen; omega) (by simp [madeCells])
  rw [toList_madeCells_one] at h
  simpa [ints] using h
theorem getD_set_take (xs ys : List Int) (k : Nat) (hy : ys.length = xs.length) (hk : k < xs.length) (h : ys.take k = xs.take k) : (ys.set k (xs.getD k 0)).take (k + 1) = xs.take (k + 1) := by
  rw [List.take_add_one, List.take_add_one, List.take_set_of_le (Nat.le_refl _), h]
  congr 1
  simp [hk, hy]

end Go.Proofs.Ytnepjahhconodaa
namespace Go.Proofs.Ytnepjahhconodaa
open Go.RowKit

theorem owns_keep {w w' : World} {base e s n c g : Nat} {xs : List Value} (h : w.ownsRow base e s (.slice (some ⟨g, 0, none⟩) n c) n xs) (hb : w'.heap[g]? = w.heap[g]?) : w'.ownsRow base e s (.slice (some ⟨g, 0, none⟩) n c) n xs := by
  rcases h with ⟨h0, h | ⟨g', cap, cur, h1, h2, h3, h4⟩⟩
  · cases h.1
  · cases h1; exact ⟨h0, Or.inr ⟨g, c, cur, rfl, h2, hb.trans h3, h4⟩⟩
theorem owns_low {w : World} {base base' e s n : Nat} {v : Value} {xs : List Value} (h : w.ownsRow base e s v n xs) (hb : base' ≤ base) : w.ownsRow base' e s v n xs := by
  rcases h with ⟨h0, h | ⟨g, cap, cur, h1, h2, h3⟩⟩
  · exact ⟨h0, Or.inl h⟩
  · exact ⟨h0, Or.inr ⟨g, cap, cur, h1, Nat.le_trans hb h2, h3⟩⟩
/-- A variable of two fields in a block of its own. -/
def PBox (w : World) (B : Nat) (v0 v1 : Value) : Prop := w.cell? ⟨B, 0, none⟩ = some v0 ∧ w.cell? ⟨B, 1, none⟩ = some v1 ∧ B < w.heap.size
theorem PBox.below {w w' : World} {B : Nat} {v0 v1 : Value} (h : PBox w B v0 v1) (hb : Below w.heap.size w w') : PBox w' B v0 v1 :=
  ⟨(hb.cell (p := ⟨B, 0, none⟩) h.2.2).trans h.1, (hb.cell (p := ⟨B, 1, none⟩) h.2.2).trans h.2.1, Nat.lt_of_lt_of_le h.2.2 hb.size⟩
theorem PBox.new (w : World) (v0 v1 : Value) (t : TypeId) : PBox (w.alloc (.cells #[v0, v1] t)) w.heap.size v0 v1 := ⟨by simp [go_sem], by simp [go_sem], by simp⟩
theorem PBox.drewN {w : World} {B : Nat} {v0 v1 : Value} (h : PBox w B v0 v1) (q : Nat) : PBox (w.drewN q) B v0 v1 := h
theorem grown_below' {w w' : World} {g k : Nat} (hg : w.grownBy w' (some g)) (h : k ≤ g) (hk : k ≤ w.heap.size) : Below k w w' :=
  ⟨hg.os, hg.tape, hg.output, hg.size, fun b hb => hg.block b (by omega) (by simp; omega)⟩
theorem below_new (w : World) (o : Obj) : Below w.heap.size w (w.alloc o) := (Below.refl _ _).alloc (Nat.le_refl _) o
end Go.Proofs.Ytnepjahhconodaa
namespace Go.Proofs.Ytnepjahhconodaa
open Go.RowKit

theorem own_far {w : World} {base e s n k : Nat} {v : Value} {xs : List Value} (h : w.ownsRow base e s v n xs) (hk : k < base) : some k ≠ v.ownBlock := by
  rcases h.2 with ⟨rfl, _⟩ | ⟨g, cap, cur, rfl, hb, _⟩
  · simp [Value.ownBlock]
  · simp [Value.ownBlock]; omega
theorem own_some {w : World} {base e s n : Nat} {v : Value} {xs : List Value} (h : w.ownsRow base e s v n xs) (hn : n ≠ 0) : ∃ g cap, v = .slice (some ⟨g, 0, none⟩) n cap ∧ base ≤ g ∧ g < w.heap.size := by
  rcases h.2 with ⟨_, h0⟩ | ⟨g, cap, cur, hv, hb, hg, _⟩
  · exact absurd h0 hn
  · exact ⟨g, cap, hv, hb, (Array.getElem?_eq_some_iff.1 hg).1⟩
theorem Cur.blocks {w w' : World} {c len cap N : Nat} {a : Option Addr} (h : Cur w c a len cap N) (hs : w.heap.size ≤ w'.heap.size) (hc : w'.heap[c]? = w.heap[c]?)
    (hb : ∀ b off, a = some ⟨b, off, none⟩ → 0 < len → w'.heap[b]? = w.heap[b]?) : Cur w' c a len cap N := by
  obtain ⟨h0, h1, ⟨x, h2, h2'⟩, ⟨y, h3, h3', h3''⟩, h4, h5, h6, h7⟩ := h
  have ec : ∀ o, w'.cell? ⟨c, o, none⟩ = w.cell? ⟨c, o, none⟩ := fun o => World.cell?_of_block (w := w) hc
  have ef : ∀ o, w'.frozen? ⟨c, o, none⟩ = w.frozen? ⟨c, o, none⟩ := fun o => World.frozen?_of_block (w := w) hc
  refine ⟨Nat.lt_of_lt_of_le h0 hs, (ec 0).trans h1, ⟨x, (ec 1).trans h2, h2'⟩, ⟨y, (ec 2).trans h3, h3', h3''⟩, (ef 1).trans h4, (ef 2).trans h5, ?_, ?_⟩
  · rcases h6 with h | ⟨b, off, rfl, hbb⟩
    · exact Or.inl h
    · refine Or.inr ⟨b, off, rfl, fun i hi => ?_⟩
      obtain ⟨z, hz, hz'⟩ := hbb i hi
      exact ⟨z, (World.cell?_of_block (w := w) (hb b off rfl (by omega))).trans hz, hz'⟩
  · intro b off e hl
    obtain ⟨hne, hlt⟩ := h7 b off e hl
    exact ⟨hne, Nat.lt_of_lt_of_le hlt hs⟩
theorem Cur.old {w : World} {c len cap N : Nat} {a : Option Addr} (h : Cur w c a len cap N) : ∀ b off, a = some ⟨b, off, none⟩ → 0 < len → b < w.heap.size := fun b off e hl => (h.2.2.2.2.2.2.2 b off e hl).2
theorem own_kp {w w' : World} {c base e s n : Nat} {v : Value} {xs : List Value} (h : w.ownsRow base e s v n xs) (hk : Kp c w w') (hc : c < base) : w'.ownsRow base e s v n xs := by
  refine ⟨h.1, ?_⟩
  rcases h.2 with h0 | ⟨g, cap, cur, hv, hb, hg, r⟩
  · exact Or.inl h0
  · exact Or.inr ⟨g, cap, cur, hv, hb, (hk.block g (Array.getElem?_eq_some_iff.1 hg).1 (by omega)).trans hg, r⟩
theorem kp_set {w w3 : World} {c g o : Nat} {v : Value} (h : Kp c w w3) (hg : w.heap.size ≤ g) : Kp c w (w3.setCell ⟨g, o, none⟩ v) := h.setNew hg o v
theorem cur_set {w w3 : World} {c g o len cap N : Nat} {a : Option Addr} {v : Value} (hc : Cur w3 c a len cap N) (hcw : c < w.heap.size) (hold : ∀ b off, a = some ⟨b, off, none⟩ → 0 < len → b < w.heap.size) (hg : w.heap.size ≤ g) : Cur (w3.setCell ⟨g, o, none⟩ v) c a len cap N :=
  hc.set (by omega) (fun b off e hl => by have := hold b off e hl; omega)
set_option maxRecDepth 100000 in
set_option maxHeartbeats 400000 in
theorem amongB_any {c len cap N b l k : Nat} {lo hi : Int} {a : Option Addr} {w : World} (hc : Cur w c a len cap N) (hN : N ≤ 900000000) (hl : 0 < l) (hl1 : l ≤ 1000000) (hb : b < w.heap.size) (hne : b ≠ c)
    (hz : ∀ i, i < l → ∃ z : Int, w.cell? ⟨b, i, none⟩ = some (.int .i64 z) ∧ lo ≤ z ∧ z ≤ hi) :
    Calls Try.prog 49 #[.pointer (some ⟨c, 0, none⟩), .slice (some ⟨b, 0, none⟩) l k] w fun e w' => ∃ r : Int, e = .returned (.int .i64 r) ∧ lo ≤ r ∧ r ≤ hi ∧ Cur w' c a len cap (N + 2) ∧ Kp c w w' := by
  have HC := hide hc
  have HZ := hide hz
  clear hc hz
  go_enter Try.func49, Try.ntmps49
  go_wp2_with fail
  refine (pick_any (l : Int) (by omega) HC.out hN).mono ?_
  rintro e w1 ⟨r, rfl, r0, r1, hc1, hk1⟩
  have HC1 := hide hc1
  clear hc1
  obtain ⟨i, rfl⟩ := Int.eq_ofNat_of_zero_le r0
  have hi : i < l := by omega
  have hi' : (i : Int) < (l : Int) := by omega
  obtain ⟨z, hcell, z0, z1⟩ := HZ.out i hi
  have hcell' : w1.cell? ⟨b, i, none⟩ = some (.int .i64 z) := (hk1.cell hb hne).trans hcell
  clear r1
  go_wp2_with fail
  go_ret
  exact ⟨_, rfl, z0, z1, HC1.out, hk1⟩
theorem three_cells (w : World) (t : TypeId) {z0 z1 z2 lo hi : Int} (h0 : lo ≤ z0 ∧ z0 ≤ hi) (h1 : lo ≤ z1 ∧ z1 ≤ hi) (h2 : lo ≤ z2 ∧ z2 ≤ hi) : ∀ i, i < 3 → ∃ z : Int, (w.alloc (.cells #[.int .i64 z0, .int .i64 z1, .int .i64 z2] t)).cell? ⟨w.heap.size, i, none⟩ = some (.int .i64 z) ∧ lo ≤ z ∧ z ≤ hi := by
  intro i hi
  have : i = 0 ∨ i = 1 ∨ i = 2 := by omega
  rcases this with rfl | rfl | rfl
  · exact ⟨z0, by simp, h0⟩
  · exact ⟨z1, by simp, h1⟩
  · exact ⟨z2, by simp, h2⟩
theorem kp_push {w w3 w4 : World} {c e s n : Nat} {v : Value} {xs : List Value} (h : Kp c w w3) (own : w3.ownsRow w.heap.size e s v n xs) (hg : w3.grownBy w4 v.ownBlock) : Kp c w w4 := by
  have hz := h.size
  refine ⟨hg.os.trans h.os, hg.tape.trans h.tape, hg.output.trans h.output, by have := hg.size; omega, fun k hk hne => ?_⟩
  rw [hg.block k (by omega) (own_far own hk)]
  exact h.block k hk hne
theorem cur_push {w w3 w4 : World} {c e s n len cap N : Nat} {a : Option Addr} {v : Value} {xs : List Value} (hc : Cur w3 c a len cap N) (hcw : c < w.heap.size) (hold : ∀ b off, a = some ⟨b, off, none⟩ → 0 < len → b < w.heap.size) (hs : w.heap.size ≤ w3.heap.size)
    (own : w3.ownsRow w.heap.size e s v n xs) (hg : w3.grownBy w4 v.ownBlock) : Cur w4 c a len cap N := by
  have blk : ∀ k, k < w.heap.size → w4.heap[k]? = w3.heap[k]? := fun k hk => hg.block k (by omega) (own_far own hk)
  exact hc.blocks (by have := hg.size; omega) (blk c hcw) (fun b off e hl => blk b (hold b off e hl))
/-- One number more, and where the list lies then. -/
theorem push_lies {w : World} {base n : Nat} {v : Value} {xs : List Value} {x : Int} (hown : w.ownsRow base 3 1 v n xs) (hn : n ≤ 100000) (hb : base ≤ w.heap.size) :
    ∃ g cap w', (∀ ty, (Builtin.append_ #[25, 25] ty #[v, .slice (some ⟨w.heap.size, 0, none⟩) 1 1]).run Try.prog (w.alloc (.cells #[.int .i64 x] 3)) = .ok (.slice (some ⟨g, 0, none⟩) (n + 1) cap) w') ∧ w'.ownsRow base 3 1 (.slice (some ⟨g, 0, none⟩) (n + 1) cap) (n + 1) (xs ++ [.int .i64 x]) ∧ w.grownBy w' v.ownBlock ∧ (v.ownBlock = some g ∨ w.heap.size ≤ g) := by
  obtain ⟨i0, hi, hz0, hz1, hz2⟩ := infoI
  obtain ⟨g, cap, w', h1, h2, h3, h4, _⟩ := run_append_lies (P := Try.prog) (w := w.alloc (.cells #[.int .i64 x] 3)) 25 0 base 3 i0 _ 1 8 Try.underlying25 hi hz0 hz1 hz2 rfl (by decide) v n xs (hown.alloc _) ⟨w.heap.size, 0, none⟩ 1 1 [.int .i64 x] rfl (fun j u hj => by
      rcases vrow_new w (.int .i64 x) 3 with h | ⟨b, off, e, _, hc⟩
      · cases h
      · cases e; rw [add_plain']; exact hc j u hj) (fun u hu => by simp at hu; subst hu; rfl) (by omega) (by unfold maxLen; omega) (by omega) (by simp; omega) _ rfl
  refine ⟨g, cap, w', fun _ => h1, h2, ?_, ?_⟩
  · have hg := World.grownBy_alloc w (.cells #[.int .i64 x] 3) v.ownBlock
    exact ⟨h3.os.trans hg.os, h3.tape.trans hg.tape, h3.output.trans hg.output, Nat.le_trans hg.size h3.size, fun b hb hne => (h3.block b (Nat.lt_of_lt_of_le hb hg.size) hne).trans (hg.block b hb hne)⟩
  · rcases h4 with h | h
    · exact Or.inl h
    · right; simp at h; omega
theorem own_cap {w : World} {base n : Nat} {v : Value} {xs : List Int} (hx : xs.length = n) (h : w.ownsRow base 3 1 v n (ints xs)) : ∃ a cap, v = .slice a n cap ∧ n ≤ cap ∧ ARow w a xs := by
  rcases h.2 with ⟨rfl, hn⟩ | ⟨g, cap, cur, rfl, _, _, hc, _⟩
  · subst hn; exact ⟨none, 0, rfl, Nat.le_refl _, Or.inl (List.length_eq_zero_iff.1 hx)⟩
  · exact ⟨_, _, rfl, hc, arow_owns hx.symm h⟩
end Go.Proofs.Ytnepjahhconodaa
namespace Go.Proofs.Ytnepjahhconodaa
open Go.RowKit

theorem g_own {w w' : World} {base e s n : Nat} {v : Value} {xs : List Value} (h : w.ownsRow base e s v n xs) (hb : Below w.heap.size w w') : w'.ownsRow base e s v n xs := by
  refine ⟨h.1, ?_⟩
  rcases h.2 with h0 | ⟨g, cap, cur, hv, hbg, hg, r⟩
  · exact Or.inl h0
  · exact Or.inr ⟨g, cap, cur, hv, hbg, (hb.block g (Array.getElem?_eq_some_iff.1 hg).1).trans hg, r⟩
/-- Nothing is turned but blocks from lo on and below hi. -/
def Rng (lo hi : Nat) (w w' : World) : Prop := w'.os = w.os ∧ w'.tape = w.tape ∧ w'.output = w.output ∧ w.heap.size ≤ w'.heap.size ∧ ∀ b, b < w.heap.size → (b < lo ∨ hi ≤ b) → w'.heap[b]? = w.heap[b]?
theorem Rng.refl (lo hi : Nat) (w : World) : Rng lo hi w w := ⟨rfl, rfl, rfl, Nat.le_refl _, fun _ _ _ => rfl⟩
theorem Rng.below {lo hi k : Nat} {w w' : World} (h : Rng lo hi w w') (hk : k ≤ lo) (hs : k ≤ w.heap.size) : Below k w w' := ⟨h.1, h.2.1, h.2.2.1, h.2.2.2.1, fun b hb => h.2.2.2.2 b (by omega) (Or.inl (by omega))⟩
theorem Rng.grown {lo hi g : Nat} {w w1 w2 : World} (h : Rng lo hi w w1) (hg : w1.grownBy w2 (some g)) (h1 : lo ≤ g) (h2 : g < hi) : Rng lo hi w w2 :=
  ⟨hg.os.trans h.1, hg.tape.trans h.2.1, hg.output.trans h.2.2.1, Nat.le_trans h.2.2.2.1 hg.size, fun b hb hh => (hg.block b (Nat.lt_of_lt_of_le hb h.2.2.2.1) (by simp; omega)).trans (h.2.2.2.2 b hb hh)⟩
theorem two_call8 {w w1 w2 : World} {b c o p : Nat} {v0 v1 : Value} (hb : b < w.heap.size) (hc : c < w.heap.size)
    (s : w1.cell? ⟨b, o, none⟩ = some v0 ∧ w1.cell? ⟨c, p, none⟩ = some v1 ∧ Below w.heap.size w w1 ∧ w.heap.size ≤ w1.heap.size) (hb2 : Below w1.heap.size w1 w2) :
    w2.cell? ⟨b, o, none⟩ = some v0 ∧ w2.cell? ⟨c, p, none⟩ = some v1 ∧ Below w.heap.size w w2 ∧ w.heap.size ≤ w2.heap.size := by
  obtain ⟨s0, s1, s4, s5⟩ := s
  exact ⟨(hb2.cell (p := ⟨b, o, none⟩) (Nat.lt_of_lt_of_le hb s5)).trans s0, (hb2.cell (p := ⟨c, p, none⟩) (Nat.lt_of_lt_of_le hc s5)).trans s1, s4.trans (hb2.mono s5), Nat.le_trans s5 hb2.size⟩
theorem lt_of_pw8 {gs : List Nat} (h : gs.Pairwise (· < ·)) {i t : Nat} (hi : i < t) (ht : t < gs.length) : gs.getD i 0 < gs.getD t 0 := by
  rw [Pf.getD_lt _ _ (show i < gs.length by omega), Pf.getD_lt _ _ ht]
  exact List.pairwise_iff_getElem.1 h i t (by omega) ht hi
end Go.Proofs.Ytnepjahhconodaa
namespace Go.Proofs.Ytnepjahhconodaa
open Go.RowKit

theorem mem9 {α : Type} (l : List α) (d : α) {i : Nat} (h : i < l.length) : l.getD i d ∈ l := by rw [List.getD_eq_getElem?_getD, List.getElem?_eq_getElem h]; exact List.getElem_mem h
theorem add_plain9 (b o j : Nat) : (⟨b, o, none⟩ : Addr).add j = ⟨b, o + j, none⟩ := by unfold Addr.add; split <;> simp_all
/-- One value more behind an owned list, and where it lies then. -/
theorem push_9 {w : World} {base n e t bytes : Nat} {z x v : Value} {xs : List Value} (hu : Try.prog.underlying t = some (.slice e)) (hinf : ∃ i, Try.prog.info? e = some i ∧ i.zero = some z ∧ i.size = 1 ∧ i.bytes = bytes) (hz : z.cells.size = 1) (hx : x.oneCell' = true) (h24 : bytes ≤ 24) (hown : w.ownsRow base e 1 v n xs) (hn : n ≤ 100000) (hb : base ≤ w.heap.size) :
    ∃ g cap w', (∀ ty, (Builtin.append_ #[t, t] ty #[v, .slice (some ⟨w.heap.size, 0, none⟩) 1 1]).run Try.prog (w.alloc (.cells #[x] e)) = .ok (.slice (some ⟨g, 0, none⟩) (n + 1) cap) w') ∧ w'.ownsRow base e 1 (.slice (some ⟨g, 0, none⟩) (n + 1) cap) (n + 1) (xs ++ [x]) ∧ (w.alloc (.cells #[x] e)).grownBy w' v.ownBlock ∧ (v.ownBlock = some g ∨ g = w.heap.size + 1) := by
  obtain ⟨i0, hi, hz0, hz1, hz2⟩ := hinf
  have hby : (n + 1) * bytes ≤ 100001 * 24 := Nat.mul_le_mul (by omega) h24
  obtain ⟨g, cap, w', h1, h2, h3, h4, _⟩ := run_append_lies (P := Try.prog) (w := w.alloc (.cells #[x] e)) t 0 base e i0 _ 1 bytes hu hi hz0 hz1 hz2 hz (by decide) v n xs (hown.alloc _) ⟨w.heap.size, 0, none⟩ 1 1 [x] rfl (fun j u hj => by
      have hj2 : j = 0 := by
        have := (List.getElem?_eq_some_iff.1 hj).1
        simp at this; omega
      subst hj2
      rw [add_plain9]
      simp at hj; subst hj; simp) (fun u hu => by simp at hu; subst hu; exact hx) (by omega) (by unfold maxLen; omega) (by omega) (by simp; omega) _ rfl
  refine ⟨g, cap, w', fun _ => h1, h2, h3, ?_⟩
  rcases h4 with h4 | h4
  · exact Or.inl h4
  · exact Or.inr (by rw [h4]; simp)
theorem step_append_run9 {P : Program} {w : World} {ops : Array Oper} {o : Oper} {a : Act} {K : Act → World → Prop} {Q : Exit → Act → World → Prop} {E : Prop} (hgd : o.guard = none) (d s : Operand) (t t' : TypeId)
    (ho : o.op = .call { callee := .builtin .append, args := #[d, s], argTypes := #[t, t'] }) (vd vs : Value) (hd : a.eval d = vd) (hs : a.eval s = vs)
    (v' : Value) (w' : World) (hr : (Builtin.append_ #[t, t'] o.type #[vd, vs]).run P w = .ok v' w') (h : K (a.put o.dst v') w') :
    if Region.wanted o (yielded ops a.tmps) = true then Oper.wp P o a w K Q else E := by
  have hw : Region.wanted o (yielded ops a.tmps) = true := by simp [Region.wanted, hgd]
  rw [if_pos hw]
  unfold Oper.wp execOp
  simp only [ho, resolve, invoke, builtin, Sem.run_bind, Sem.run_pure, Result.andThen_ok, List.map_toArray, List.map_cons, List.map_nil, hd, hs, hr]
  exact h
end Go.Proofs.Ytnepjahhconodaa
namespace Go.Proofs.Ytnepjahhconodaa
open Go.RowKit

/-- Fits, to be read: a list of lists. -/
def CRow (w : World) (a : Option Addr) (F : List (List Int)) : Prop :=
  F = [] ∨ ∃ b off, a = some ⟨b, off, none⟩ ∧ b < w.heap.size ∧ ∀ i, i < F.length → ∃ ai ci, w.cell? ⟨b, off + i, none⟩ = some (.slice ai (F.getD i []).length ci) ∧ ARow w ai (F.getD i [])
theorem CRow.below {w w' : World} {a : Option Addr} {F : List (List Int)} (h : CRow w a F) (hb : Below w.heap.size w w') : CRow w' a F := by
  rcases h with h | ⟨b, off, ha, hl, hc⟩
  · exact Or.inl h
  · refine Or.inr ⟨b, off, ha, Nat.lt_of_lt_of_le hl hb.size, fun i hi => ?_⟩
    obtain ⟨ai, ci, h1, h2⟩ := hc i hi
    exact ⟨ai, ci, (hb.cell (p := ⟨b, off + i, none⟩) hl).trans h1, h2.below hb⟩
theorem CRow.at {w : World} {a : Option Addr} {F : List (List Int)} (h : CRow w a F) {i : Nat} (hi : i < F.length) : ∃ b off ai ci, a = some ⟨b, off, none⟩ ∧ b < w.heap.size ∧ w.cell? ⟨b, off + i, none⟩ = some (.slice ai (F.getD i []).length ci) ∧ ARow w ai (F.getD i []) := by
  rcases h with h | ⟨b, off, ha, hl, hc⟩
  · rw [h] at hi; simp at hi
  · obtain ⟨ai, ci, h1, h2⟩ := hc i hi
    exact ⟨b, off, ai, ci, ha, hl, h1, h2⟩
def CFits (F : List (List Int)) : Prop := ∀ i, (F.getD i []).length ≤ maxLen
def cv (gs : List Nat) (F : List (List Int)) (i : Nat) : Value := .slice (some ⟨gs.getD i 0, 0, none⟩) (F.getD i []).length (F.getD i []).length
def cvals (gs : List Nat) (F : List (List Int)) (k m : Nat) : List Value := (List.range m).map fun i => if i < k then cv gs F i else .slice none 0 0
/-- The first k of m rows, each in a block of its own, all of them owned. -/
def CSo (w : World) (base B : Nat) (gs : List Nat) (F : List (List Int)) (k m : Nat) : Prop :=
  gs.length = k ∧ w.ownsRow base 25 1 (.slice (some ⟨B, 0, none⟩) m m) m (cvals gs F k m) ∧ (∀ i, i < k → w.ownsRow base 3 1 (cv gs F i) (F.getD i []).length (ints (F.getD i []))) ∧ gs.Pairwise (· < ·) ∧ ∀ g ∈ gs, B < g
theorem CSo.below {w w' : World} {base B k m : Nat} {gs : List Nat} {F : List (List Int)} (h : CSo w base B gs F k m) (hb : Below w.heap.size w w') : CSo w' base B gs F k m :=
  ⟨h.1, g_own h.2.1 hb, fun i hi => g_own (h.2.2.1 i hi) hb, h.2.2.2⟩
theorem CSo.at_mem {w : World} {base B k m : Nat} {gs : List Nat} {F : List (List Int)} (h : CSo w base B gs F k m) {i : Nat} (hi : i < k) : gs.getD i 0 ∈ gs := by
  have hi' : i < gs.length := by rw [h.1]; exact hi
  rw [Pf.getD_lt _ _ hi']; exact List.getElem_mem _
theorem CSo.lt {w : World} {base B k m : Nat} {gs : List Nat} {F : List (List Int)} (h : CSo w base B gs F k m) {g : Nat} (hg : g ∈ gs) : base ≤ g ∧ g < w.heap.size := by
  obtain ⟨i, hi, rfl⟩ := List.getElem_of_mem hg
  have := h.2.2.1 i (by rw [← h.1]; exact hi)
  have := this.lt (gs.getD i 0) rfl
  rwa [Pf.getD_lt _ _ hi] at this
theorem cvals_snoc {gs : List Nat} {F : List (List Int)} {k m g n : Nat} (hk : gs.length = k) (hn : (F.getD k []).length = n) : (cvals gs F k m).set k (.slice (some ⟨g, 0, none⟩) n n) = cvals (gs ++ [g]) F (k + 1) m := by
  apply List.ext_getElem
  · simp [cvals]
  · intro i h1 h2
    simp only [cvals, List.length_map, List.length_range] at h2
    rw [List.getElem_set]
    by_cases e : k = i
    · subst e
      simp [cvals, cv, ← hn, ← hk]
    · simp only [e, if_false, cvals, List.getElem_map, List.getElem_range]
      by_cases hi : i < k
      · simp [hi, show i < k + 1 by omega, cv, hk]
      · simp [hi, show ¬ i < k + 1 by omega]
theorem CSo.step {w w2 : World} {base B k m g n : Nat} {gs : List Nat} {F : List (List Int)} (h : CSo w base B gs F k m) (hb : Below w.heap.size w w2) (hbase : base ≤ w.heap.size)
    (own : w2.ownsRow w.heap.size 3 1 (.slice (some ⟨g, 0, none⟩) n n) n (ints (F.getD k []))) (hn : (F.getD k []).length = n) :
    CSo (w2.setCell ⟨B, k, none⟩ (.slice (some ⟨g, 0, none⟩) n n)) base B (gs ++ [g]) F (k + 1) m := by
  obtain ⟨hB0, hB1⟩ := h.2.1.lt B rfl
  obtain ⟨hg0, hg1⟩ := own.lt g rfl
  obtain ⟨st1, st2⟩ := (g_own h.2.1 hb).stored k (.slice (some ⟨g, 0, none⟩) n n)
  rw [cvals_snoc h.1 hn] at st1
  refine ⟨by simp [h.1], st1, fun i hi => ?_, ?_, ?_⟩
  · by_cases e : i = k
    · subst e
      have e1 : cv (gs ++ [g]) F i = .slice (some ⟨g, 0, none⟩) n n := by simp [cv, ← h.1, ← hn]
      rw [e1, hn]
      exact (owns_low own hbase).kept st2 (Or.inr (by simp [Value.ownBlock]; omega))
    · have hi' : i < k := by omega
      have e1 : cv (gs ++ [g]) F i = cv gs F i := by simp [cv, List.getElem?_append, h.1, hi']
      rw [e1]
      have hm := h.2.2.2.2 _ (h.at_mem hi')
      exact (g_own (h.2.2.1 i hi') hb).kept st2 (Or.inr (by simp only [cv, Value.ownBlock, ne_eq, Option.some.injEq]; omega))
  · rw [List.pairwise_append]
    refine ⟨h.2.2.2.1, by simp, fun a ha b hb' => ?_⟩
    simp at hb'
    have := (h.lt ha).2
    omega
  · intro x hx
    rcases List.mem_append.1 hx with hx | hx
    · exact h.2.2.2.2 x hx
    · simp at hx; omega
/-- Fits of one's own, all of them below hi. -/
def COw (w : World) (B hi : Nat) (F : List (List Int)) : Prop := hi ≤ w.heap.size ∧ B < hi ∧ ∃ gs, (∀ g ∈ gs, g < hi) ∧ CSo w B B gs F F.length F.length
theorem COw.below {w w' : World} {B hi : Nat} {F : List (List Int)} (h : COw w B hi F) (hb : Below w.heap.size w w') : COw w' B hi F := by
  obtain ⟨h1, h2, gs, h3, h4⟩ := h
  exact ⟨Nat.le_trans h1 hb.size, h2, gs, h3, h4.below hb⟩
theorem COw.row {w : World} {B hi : Nat} {F : List (List Int)} (h : COw w B hi F) : CRow w (some ⟨B, 0, none⟩) F := by
  obtain ⟨h1, h2, gs, h3, h⟩ := h
  refine Or.inr ⟨B, 0, rfl, (h.2.1.lt B rfl).2, fun i hi => ⟨_, (F.getD i []).length, ?_, arow_owns rfl (h.2.2.1 i hi)⟩⟩
  rw [Nat.zero_add, h.2.1.cellAt i (by omega)]
  simp [cvals, hi, cv]
end Go.Proofs.Ytnepjahhconodaa
namespace Go.Proofs.Ytnepjahhconodaa
open Go.RowKit

theorem own_form2 {w : World} {base e s n : Nat} {v : Value} {xs : List Value} (h : w.ownsRow base e s v n xs) : ∃ a cap, v = .slice a n cap := by
  rcases h.2 with ⟨rfl, hn⟩ | ⟨g, cap, cur, rfl, _⟩
  · exact ⟨none, 0, by rw [hn]⟩
  · exact ⟨_, _, rfl⟩
theorem own_keep2 {w w' : World} {base e s n : Nat} {v : Value} {xs : List Value} (h : w.ownsRow base e s v n xs) (hb : ∀ g, v.ownBlock = some g → g < w.heap.size → w'.heap[g]? = w.heap[g]?) : w'.ownsRow base e s v n xs := by
  rcases h with ⟨h0, h | ⟨g', cap, cur, rfl, h2, h3, h4⟩⟩
  · exact ⟨h0, Or.inl h⟩
  · exact ⟨h0, Or.inr ⟨g', cap, cur, rfl, h2, (hb g' rfl (Array.getElem?_eq_some_iff.1 h3).1).trans h3, h4⟩⟩
theorem own_below2 {w w' : World} {base e s n : Nat} {v : Value} {xs : List Value} (h : w.ownsRow base e s v n xs) (hb : Below w.heap.size w w') : w'.ownsRow base e s v n xs := own_keep2 h fun _ _ hl => hb.block _ hl
theorem own_low2 {w : World} {base base' e s n : Nat} {v : Value} {xs : List Value} (h : w.ownsRow base e s v n xs) (hb : base' ≤ base) : w.ownsRow base' e s v n xs := by
  rcases h with ⟨h0, h | ⟨g, cap, cur, h1, h2, h3⟩⟩
  · exact ⟨h0, Or.inl h⟩
  · exact ⟨h0, Or.inr ⟨g, cap, cur, h1, Nat.le_trans hb h2, h3⟩⟩
theorem infoS : ∃ i, Try.prog.info? 25 = some i ∧ i.zero = some (.slice none 0 0) ∧ i.size = 1 ∧ i.bytes = 24 := by
  have h : (Try.prog.info? 25).map (fun i => (i.zero, i.size, i.bytes)) = some (some (.slice none 0 0), 1, 24) := by kernel_rfl
  obtain ⟨i, hi, hzz⟩ := Option.map_eq_some_iff.1 h
  simp only [Prod.mk.injEq] at hzz
  exact ⟨i, hi, hzz.1, hzz.2.1, hzz.2.2⟩
def nilS : Value := .slice none 0 0
def LL {α : Type} (W : World) (base T E s : Nat) (enc : List α → List Value) (v : Value) (us : List Value) (R : List (List α)) : Prop :=
  W.ownsRow base T 1 v R.length us ∧ (∀ i, i < R.length → W.ownsRow base E s (us.getD i nilS) (R.getD i []).length (enc (R.getD i []))) ∧
  (∀ i g, i < R.length → (us.getD i nilS).ownBlock = some g → v.ownBlock ≠ some g) ∧
  (∀ i j g, i < R.length → j < R.length → i ≠ j → (us.getD i nilS).ownBlock = some g → (us.getD j nilS).ownBlock ≠ some g)
theorem LL.len {α : Type} {W : World} {base T E s : Nat} {enc : List α → List Value} {v : Value} {us : List Value} {R : List (List α)} (h : LL W base T E s enc v us R) : us.length = R.length := by
  have := h.1.1; omega
theorem LL.nil {α : Type} (W : World) (base T E s : Nat) (enc : List α → List Value) : LL W base T E s enc nilS [] ([] : List (List α)) :=
  ⟨World.ownsRow_nil _ _ _ _, fun _ hi => absurd hi (Nat.not_lt_zero _), fun _ _ hi => absurd hi (Nat.not_lt_zero _), fun _ _ _ hi => absurd hi (Nat.not_lt_zero _)⟩
theorem LL.keep {α : Type} {W W' : World} {base T E s : Nat} {enc : List α → List Value} {v : Value} {us : List Value} {R : List (List α)} (h : LL W base T E s enc v us R) (hb : ∀ g, base ≤ g → g < W.heap.size → W'.heap[g]? = W.heap[g]?) : LL W' base T E s enc v us R :=
  ⟨own_keep2 h.1 fun g hv hl => hb g (h.1.lt g hv).1 hl, fun i hi => own_keep2 (h.2.1 i hi) fun g hv hl => hb g ((h.2.1 i hi).lt g hv).1 hl, h.2.2⟩
theorem LL.below {α : Type} {W W' : World} {base T E s : Nat} {enc : List α → List Value} {v : Value} {us : List Value} {R : List (List α)} (h : LL W base T E s enc v us R) (hb : Below W.heap.size W W') : LL W' base T E s enc v us R := h.keep fun g _ hl => hb.block g hl
theorem LL.form {α : Type} {W : World} {base T E s : Nat} {enc : List α → List Value} {v : Value} {us : List Value} {R : List (List α)} (h : LL W base T E s enc v us R) : ∃ a c, v = .slice a R.length c := own_form2 h.1
theorem LL.cell {α : Type} {W : World} {base T E s G cap : Nat} {enc : List α → List Value} {us : List Value} {R : List (List α)} (h : LL W base T E s enc (.slice (some ⟨G, 0, none⟩) R.length cap) us R) {i : Nat} (hi : i < R.length) : W.cell? ⟨G, i, none⟩ = some (us.getD i nilS) := by
  have hl := h.len
  rw [h.1.cellAt i (by omega), List.getD_eq_getElem?_getD, List.getElem?_eq_getElem (by omega)]; rfl
theorem getD_set' {α : Type} {l : List α} {i b : Nat} {x d : α} (hi : i < l.length) : (l.set i x).getD b d = if b = i then x else l.getD b d := by
  by_cases e : b = i
  · subst e; simp [hi]
  · rw [if_neg e]; simp [Ne.symm e]
theorem getD_snoc {α : Type} {l : List α} {b : Nat} {x d : α} (hb : b < l.length + 1) : (l ++ [x]).getD b d = if b = l.length then x else l.getD b d := by
  by_cases e : b = l.length
  · subst e; simp
  · rw [if_neg e]; simp [List.getElem?_append_left (show b < l.length by omega)]
/-- A row in place i is another one now. -/
theorem LL.put {α : Type} {W W' : World} {base T E s G cap i : Nat} {enc : List α → List Value} {us : List Value} {R : List (List α)} {u' : Value} {r' : List α} (h : LL W base T E s enc (.slice (some ⟨G, 0, none⟩) R.length cap) us R) (hi : i < R.length)
    (hB : ∀ b, b < W.heap.size → some b ≠ (us.getD i nilS).ownBlock → W'.heap[b]? = W.heap[b]?) (_hs : W.heap.size ≤ W'.heap.size) (hu : W'.ownsRow base E s u' r'.length (enc r')) (hf : ∀ g, u'.ownBlock = some g → (us.getD i nilS).ownBlock = some g ∨ W.heap.size ≤ g) :
    LL (W'.setCell ⟨G, i, none⟩ u') base T E s enc (.slice (some ⟨G, 0, none⟩) R.length cap) (us.set i u') (R.set i r') := by
  have hl := h.len
  have hG : G < W.heap.size := (h.1.lt G rfl).2
  have hGi : ∀ j, j < R.length → (us.getD j nilS).ownBlock ≠ some G := fun j hj e => h.2.2.1 j G hj e rfl
  have hG' : W'.ownsRow base T 1 (.slice (some ⟨G, 0, none⟩) R.length cap) R.length us := own_keep2 h.1 fun g hv hl' => hB g hl' (fun e => by
    obtain rfl : G = g := by simpa [Value.ownBlock] using hv
    exact hGi i hi e.symm)
  have huG : u'.ownBlock ≠ some G := fun e => by
    rcases hf G e with e' | e'
    · exact hGi i hi e'
    · omega
  have far : ∀ g, g ≠ G → (W'.setCell ⟨G, i, none⟩ u').heap[g]? = W'.heap[g]? := fun g hg => Below.heap_setCell W' ⟨G, i, none⟩ u' g hg
  refine ⟨by rw [List.length_set]; exact (hG'.stored i u').1, fun j hj => ?_, fun j g hj he => ?_, fun j k g hj hk hne he => ?_⟩
  · rw [List.length_set] at hj
    rw [getD_set' (by omega), getD_set' hi]
    by_cases e : j = i
    · rw [if_pos e, if_pos e]
      exact own_keep2 hu fun g hv _ => far g (fun e' => huG (e' ▸ hv))
    · rw [if_neg e, if_neg e]
      refine own_keep2 (own_keep2 (h.2.1 j hj) fun g hv hl' => hB g hl' (fun e' => h.2.2.2 j i g hj hi e hv e'.symm)) fun g hv _ => far g (fun e' => hGi j hj (e' ▸ hv))
  · rw [List.length_set] at hj
    rw [getD_set' (by omega)] at he
    intro e2
    obtain rfl : G = g := by simpa [Value.ownBlock] using e2
    by_cases e : j = i
    · rw [if_pos e] at he; exact huG he
    · rw [if_neg e] at he; exact hGi j hj he
  · rw [List.length_set] at hj hk
    rw [getD_set' (by omega)] at he ⊢
    by_cases e1 : j = i
    · subst e1
      rw [if_pos rfl] at he
      rw [if_neg (Ne.symm hne)]
      intro e2
      rcases hf g he with e' | e'
      · exact h.2.2.2 j k g hj hk hne e' e2
      · have := ((h.2.1 k hk).lt g e2).2; omega
    · rw [if_neg e1] at he
      by_cases e2 : k = i
      · subst e2
        rw [if_pos rfl]
        intro e3
        rcases hf g e3 with e' | e'
        · exact h.2.2.2 j k g hj hk hne he e'
        · have := ((h.2.1 j hj).lt g he).2; omega
      · rw [if_neg e2]; exact h.2.2.2 j k g hj hk hne he
/-- One row more. -/
theorem LL.snoc {α : Type} {W W' : World} {base T E s : Nat} {enc : List α → List Value} {v v' : Value} {us : List Value} {R : List (List α)} {u : Value} {r : List α} (h : LL W base T E s enc v us R)
    (hv : W'.ownsRow base T 1 v' (R.length + 1) (us ++ [u])) (hB : ∀ b, b < W.heap.size → some b ≠ v.ownBlock → W'.heap[b]? = W.heap[b]?) (hf : ∀ g, v'.ownBlock = some g → v.ownBlock = some g ∨ W.heap.size ≤ g)
    (hu : W'.ownsRow base E s u r.length (enc r)) (huf : ∀ g, u.ownBlock = some g → W.heap.size ≤ g ∧ v'.ownBlock ≠ some g) :
    LL W' base T E s enc v' (us ++ [u]) (R ++ [r]) := by
  have hl := h.len
  refine ⟨by rw [List.length_append]; exact hv, fun j hj => ?_, fun j g hj he => ?_, fun j k g hj hk hne he => ?_⟩
  · rw [List.length_append] at hj
    simp only [List.length_cons, List.length_nil] at hj
    rw [getD_snoc (by omega), getD_snoc hj, hl]
    by_cases e : j = R.length
    · rw [if_pos e, if_pos e]; exact hu
    · rw [if_neg e, if_neg e]
      exact own_keep2 (h.2.1 j (by omega)) fun g hv' hl' => hB g hl' (fun e' => h.2.2.1 j g (by omega) hv' e'.symm)
  · rw [List.length_append] at hj
    simp only [List.length_cons, List.length_nil] at hj
    rw [getD_snoc (by omega), hl] at he
    intro e2
    by_cases e : j = R.length
    · rw [if_pos e] at he; exact (huf g he).2 e2
    · rw [if_neg e] at he
      rcases hf g e2 with e' | e'
      · exact h.2.2.1 j g (by omega) he e'
      · have := ((h.2.1 j (by omega)).lt g he).2; omega
  · rw [List.length_append] at hj hk
    simp only [List.length_cons, List.length_nil] at hj hk
    rw [getD_snoc (by omega), hl] at he ⊢
    by_cases e1 : j = R.length
    · rw [if_pos e1] at he
      rw [if_neg (by omega)]
      intro e2
      have h1 := (huf g he).1
      have h2 := ((h.2.1 k (by omega)).lt g e2).2
      omega
    · rw [if_neg e1] at he
      by_cases e2 : k = R.length
      · rw [if_pos e2]
        intro e3
        have h1 := (huf g e3).1
        have h2 := ((h.2.1 j (by omega)).lt g he).2
        omega
      · rw [if_neg e2]; exact h.2.2.2 j k g (by omega) (by omega) hne he
/-- Lists of ints can be read. -/
theorem LL.crow {W : World} {base T E : Nat} {a : Option Addr} {c : Nat} {us : List Value} {R : List (List Int)} (h : LL W base T E 1 ints (.slice a R.length c) us R) : CRow W a R := by
  rcases h.1.2 with ⟨hv, hn⟩ | ⟨g, cap, cur, hv, _, hg, _⟩
  · exact Or.inl (List.length_eq_zero_iff.1 hn)
  · cases hv
    refine Or.inr ⟨g, 0, rfl, (Array.getElem?_eq_some_iff.1 hg).1, fun i hi => ?_⟩
    have ho := h.2.1 i hi
    have hc := h.cell hi
    rw [Nat.zero_add, hc]
    rcases ho.2 with ⟨hv, hn⟩ | ⟨g', cap', cur', hv, _⟩
    · exact ⟨none, 0, by rw [hv, hn], Or.inl (List.length_eq_zero_iff.1 hn)⟩
    · refine ⟨some ⟨g', 0, none⟩, cap', by rw [hv], ?_⟩
      rw [hv] at ho
      exact arow_owns rfl ho
theorem LL.keep2 {α : Type} {W W' : World} {base T E s : Nat} {enc : List α → List Value} {v : Value} {us : List Value} {R : List (List α)} (h : LL W base T E s enc v us R) (hb : ∀ g, g < W.heap.size → (v.ownBlock = some g ∨ ∃ i, i < R.length ∧ (us.getD i nilS).ownBlock = some g) → W'.heap[g]? = W.heap[g]?) : LL W' base T E s enc v us R :=
  ⟨own_keep2 h.1 fun g hv hl => hb g hl (Or.inl hv), fun i hi => own_keep2 (h.2.1 i hi) fun g hv hl => hb g hl (Or.inr ⟨i, hi, hv⟩), h.2.2⟩
/-- A list more, which lies behind all. -/
theorem LL.pushRow {W V : World} {base : Nat} {v : Value} {us : List Value} {R : List (List Int)} {r : List Int} {u : Value} (h : LL W base 25 3 1 ints v us R) (hV : Below W.heap.size W V) (hu : V.ownsRow W.heap.size 3 1 u r.length (ints r)) (hu1 : u.oneCell' = true) (hn : R.length ≤ 1000) (hb : base ≤ W.heap.size) :
    ∃ G cap w1, (∀ ty, (Builtin.append_ #[23, 23] ty #[v, .slice (some ⟨V.heap.size, 0, none⟩) 1 1]).run Try.prog (V.alloc (.cells #[u] 25)) = .ok (.slice (some ⟨G, 0, none⟩) (R.length + 1) cap) w1) ∧
      LL w1 base 25 3 1 ints (.slice (some ⟨G, 0, none⟩) (R.length + 1) cap) (us ++ [u]) (R ++ [r]) ∧ Below base W w1 := by
  have hv := own_below2 h.1 hV
  obtain ⟨G, cap, w1, r1, o1, g1, f1⟩ := push_9 (x := u) Try.underlying23 infoS rfl hu1 (by omega) hv (by omega) (Nat.le_trans hb hV.size)
  have k1 : ∀ b, b < V.heap.size → some b ≠ v.ownBlock → w1.heap[b]? = V.heap[b]? := fun b hb' hne => (g1.block b (by simp; omega) hne).trans ((below_new V _).block b hb')
  have z1 : V.heap.size ≤ w1.heap.size := Nat.le_trans (by simp) g1.size
  have z0 := hV.size
  have hG : (Value.slice (some ⟨G, 0, none⟩) (R.length + 1) cap).ownBlock = some G := rfl
  refine ⟨G, cap, w1, r1, h.snoc o1 (fun b hb' hne => (k1 b (by omega) hne).trans (hV.block b hb')) (fun g e => ?_) (own_low2 (own_keep2 hu fun g hv' hl => k1 g hl (fun e => ?_)) hb) (fun g e => ⟨(hu.lt g e).1, fun e2 => ?_⟩), ?_⟩
  · rw [hG] at e; cases e
    rcases f1 with f1 | f1
    · exact Or.inl f1
    · exact Or.inr (by omega)
  · have h1 := (hu.lt g hv').1
    have h2 := (h.1.lt g e.symm).2
    omega
  · rw [hG] at e2; cases e2
    have h1 := hu.lt G e
    rcases f1 with f1 | f1
    · have := (h.1.lt G f1).2; omega
    · omega
  · exact ⟨g1.os.trans hV.os, g1.tape.trans hV.tape, g1.output.trans hV.output, by omega, fun b hb' => (k1 b (by omega) (fun e => by have := (hv.lt b e.symm).1; omega)).trans (hV.block b (by omega))⟩
/-- One number in row i is another one now. -/
theorem LL.write {W : World} {base T i k : Nat} {v : Value} {us : List Value} {R : List (List Int)} {x : Int} (h : LL W base T 3 1 ints v us R) (hi : i < R.length) (hk : k < (R.getD i []).length) :
    ∃ g c, us.getD i nilS = .slice (some ⟨g, 0, none⟩) (R.getD i []).length c ∧ W.cell? ⟨g, k, none⟩ = some (.int .i64 ((R.getD i []).getD k 0)) ∧ W.frozen? ⟨g, k, none⟩ = false ∧ base ≤ g ∧ g < W.heap.size ∧
      LL (W.setCell ⟨g, k, none⟩ (.int .i64 x)) base T 3 1 ints v us (R.set i ((R.getD i []).set k x)) := by
  have ho := h.2.1 i hi
  have hl := h.len
  obtain ⟨g, c, e, _, _⟩ := ho.form (by omega)
  rw [e] at ho
  have hgi : (us.getD i nilS).ownBlock = some g := by rw [e]; rfl
  obtain ⟨st1, st2⟩ := ho.stored k (.int .i64 x)
  rw [ints_set] at st1
  have far : ∀ b, b ≠ g → (W.setCell ⟨g, k, none⟩ (.int .i64 x)).heap[b]? = W.heap[b]? := fun b hb => Below.heap_setCell W ⟨g, k, none⟩ _ b hb
  refine ⟨g, c, e, ?_, ho.frozenAt k, (ho.lt g rfl).1, (ho.lt g rfl).2, ⟨?_, fun j hj => ?_, fun j b hj he => h.2.2.1 j b (by rwa [List.length_set] at hj) he, fun j l b hj hl' hne he => h.2.2.2 j l b (by rwa [List.length_set] at hj) (by rwa [List.length_set] at hl') hne he⟩⟩
  · rw [ho.cellAt k (by omega), ints_get _ k hk]
  · rw [List.length_set]
    exact own_keep2 h.1 fun b hv _ => far b (fun e' => h.2.2.1 i g hi hgi (e' ▸ hv))
  · rw [List.length_set] at hj
    rw [getD_set' hi]
    by_cases e' : j = i
    · subst e'
      rw [if_pos rfl, List.length_set, e]
      exact st1
    · rw [if_neg e']
      exact own_keep2 (h.2.1 j hj) fun b hv _ => far b (fun e2 => h.2.2.2 j i g hj hi e' (e2 ▸ hv) hgi)
theorem LL.low {W : World} {base base' T : Nat} {v : Value} {us : List Value} {R : List (List Int)} (h : LL W base T 3 1 ints v us R) (hb : base' ≤ base) : LL W base' T 3 1 ints v us R :=
  ⟨own_low2 h.1 hb, fun i hi => own_low2 (h.2.1 i hi) hb, h.2.2⟩
/-- One number, in memory. -/
theorem LL.at2 {W : World} {base T i k n cap G : Nat} {us : List Value} {R : List (List Int)} (h : LL W base T 3 1 ints (.slice (some ⟨G, 0, none⟩) n cap) us R) (hn : R.length = n) (hi : i < n) (hk : k < (R.getD i []).length) :
    ∃ g c, W.cell? ⟨G, i, none⟩ = some (.slice (some ⟨g, 0, none⟩) (R.getD i []).length c) ∧ us.getD i nilS = .slice (some ⟨g, 0, none⟩) (R.getD i []).length c ∧ W.cell? ⟨g, k, none⟩ = some (.int .i64 ((R.getD i []).getD k 0)) := by
  subst hn
  obtain ⟨g, c, e, h1, _⟩ := h.write (x := 0) hi hk
  exact ⟨g, c, by rw [← e]; exact h.cell hi, e, h1⟩
end Go.Proofs.Ytnepjahhconodaa
namespace Go.Proofs.Ytnepjahhconodaa
open Go.RowKit

theorem LL.kp {w w' : World} {base T c : Nat} {v : Value} {us : List Value} {R : List (List Int)} (h : LL w base T 3 1 ints v us R) (hk : Kp c w w') (hc : c < base) : LL w' base T 3 1 ints v us R := h.keep fun g hg hl => hk.block g hl (by omega)
/-- One row more, that lies behind all of them, where a cursor has gone on. -/
theorem LL.pushK {W V : World} {base c : Nat} {v : Value} {us : List Value} {R : List (List Int)} {r : List Int} {u : Value} (h : LL W base 25 3 1 ints v us R) (hk : Kp c W V) (hc : c < base) (hu : V.ownsRow W.heap.size 3 1 u r.length (ints r)) (hu1 : u.oneCell' = true) (hn : R.length ≤ 1000) (hb : base ≤ W.heap.size) :
    ∃ G cap w1, (∀ ty, (Builtin.append_ #[23, 23] ty #[v, .slice (some ⟨V.heap.size, 0, none⟩) 1 1]).run Try.prog (V.alloc (.cells #[u] 25)) = .ok (.slice (some ⟨G, 0, none⟩) (R.length + 1) cap) w1) ∧
      LL w1 base 25 3 1 ints (.slice (some ⟨G, 0, none⟩) (R.length + 1) cap) (us ++ [u]) (R ++ [r]) ∧ (V.alloc (.cells #[u] 25)).grownBy w1 v.ownBlock ∧ V.ownsRow base 25 1 v R.length us := by
  have hz := hk.size
  have hV := h.kp hk hc
  obtain ⟨G, cap, w1, r1, o1, g1, f1⟩ := push_9 (x := u) Try.underlying23 infoS rfl hu1 (by omega) hV.1 (by omega) (Nat.le_trans hb hz)
  have k1 : ∀ b, b < V.heap.size → some b ≠ v.ownBlock → w1.heap[b]? = V.heap[b]? := fun b hb' hne => (g1.block b (by simp; omega) hne).trans ((below_new V _).block b hb')
  have z1 : V.heap.size ≤ w1.heap.size := Nat.le_trans (by simp) g1.size
  have hG : (Value.slice (some ⟨G, 0, none⟩) (R.length + 1) cap).ownBlock = some G := rfl
  have hl := h.len
  have hvlt : ∀ g, v.ownBlock = some g → g < W.heap.size := fun g e => (h.1.lt g e).2
  have hult : ∀ i g, i < R.length → (us.getD i nilS).ownBlock = some g → g < W.heap.size := fun i g hi e => ((h.2.1 i hi).lt g e).2
  have hug : ∀ g, u.ownBlock = some g → W.heap.size ≤ g ∧ g < V.heap.size := fun g e => hu.lt g e
  refine ⟨G, cap, w1, r1, ⟨by rw [List.length_append]; exact o1, fun j hj => ?_, fun j g hj he => ?_, fun j k g hj hk' hne he => ?_⟩, g1, hV.1⟩
  · rw [List.length_append] at hj
    simp only [List.length_cons, List.length_nil] at hj
    rw [getD_snoc (by omega), getD_snoc hj, hl]
    by_cases e : j = R.length
    · rw [if_pos e, if_pos e]
      exact own_low2 (own_keep2 hu fun g hv' hl' => k1 g hl' (fun e' => by have h1 := hug g hv'; have h2 := hvlt g e'.symm; omega)) hb
    · rw [if_neg e, if_neg e]
      exact own_keep2 (hV.2.1 j (by omega)) fun g hv' hl' => k1 g hl' (fun e' => h.2.2.1 j g (by omega) hv' e'.symm)
  · rw [List.length_append] at hj
    simp only [List.length_cons, List.length_nil] at hj
    rw [getD_snoc (by omega), hl] at he
    rw [hG]
    intro e2
    cases e2
    by_cases e : j = R.length
    · rw [if_pos e] at he
      have h1 := hug G he
      rcases f1 with f1 | f1
      · have := hvlt G f1; omega
      · omega
    · rw [if_neg e] at he
      rcases f1 with f1 | f1
      · exact h.2.2.1 j G (by omega) he f1
      · have := hult j G (by omega) he; omega
  · rw [List.length_append] at hj hk'
    simp only [List.length_cons, List.length_nil] at hj hk'
    rw [getD_snoc (by omega), hl] at he ⊢
    by_cases e1 : j = R.length
    · rw [if_pos e1] at he
      rw [if_neg (by omega)]
      intro e2
      have h1 := hug g he
      have h2 := hult k g (by omega) e2
      omega
    · rw [if_neg e1] at he
      by_cases e2 : k = R.length
      · rw [if_pos e2]
        intro e3
        have h1 := hug g e3
        have h2 := hult j g (by omega) he
        omega
      · rw [if_neg e2]; exact h.2.2.2 j k g (by omega) (by omega) hne he
def NtPost (w : World) (c : Nat) (a : Option Addr) (len cap M : Nat) (e : Ending) (w' : World) : Prop :=
  ∃ v us n C, e = .returned v ∧ n ≤ 9 ∧ 1 ≤ n ∧ C.length = n ∧ (∀ i, i < n → (C.getD i []).length = n) ∧ LL w' w.heap.size 25 3 1 ints v us C ∧ Cur w' c a len cap M ∧ Kp c w w'
theorem set_ne13 {w : World} {G o P i : Nat} {u : Value} (h : G ≠ P) : (w.setCell ⟨G, o, none⟩ u).cell? ⟨P, i, none⟩ = w.cell? ⟨P, i, none⟩ := World.cell?_setCell_other _ _ _ _ (fun e => h (by injection e))
theorem rows_snoc {L : List (List Int)} {rs : List Int} {n i : Nat} (hl : L.length = i) (h : ∀ j, j < i → (L.getD j []).length = n) (hr : rs.length = n) : ∀ j, j < i + 1 → ((L ++ [rs]).getD j []).length = n := fun j hj => by
  rw [getD_snoc (by omega), hl]
  by_cases e : j = i
  · rw [if_pos e]; exact hr
  · rw [if_neg e]; exact h j (by omega)
set_option maxRecDepth 100000 in
set_option maxHeartbeats 4000000 in
theorem net_any {c len cap N : Nat} {a : Option Addr} {w : World} (hc : Cur w c a len cap N) (hN : N ≤ 700000000) :
    Calls Try.prog 26 #[.pointer (some ⟨c, 0, none⟩)] w (NtPost w c a len cap (N + 1000)) := by
  have hcw := hc.1
  have HOLD := hide hc.old
  have HC := hide hc
  clear hc
  go_enter Try.func26, Try.ntmps26
  go_wp2_with fail
  refine (pick_any 4 (by omega) HC.out (by omega)).mono ?_
  rintro e w1 ⟨r1, rfl, p0, p1, hc1, hk1⟩
  have HC1 := hide hc1
  have HK1 := hide hk1
  clear hc1 hk1
  go_upto_if 13 with (go_at_call 27; refine (one_any 20 (by omega) HC1.out (by omega)).mono ?_; rintro e w3 ⟨r3, rfl, hc3, hk3⟩; have HC3 := hide hc3; have HK3 := hide (HK1.out.trans hk3); clear hc3 hk3)
  go_cut [3] (fun s3 wc => ∃ k : Nat, s3 = .int .i64 k ∧ k ≤ 9 ∧ 1 ≤ k ∧ Hid (Cur wc c a len cap (N + 8)) ∧ Hid (Kp c w wc))
  case first =>
    cases r3
    · go_wp2_with fail
      go_meet
      case rel => exact ⟨(2 + r1).toNat, by congr 1; omega, by omega, by omega, hide (HC3.out.le (by omega)), HK3⟩
    · go_wp2_with fail
      refine (amongB_any (lo := 1) (hi := 9) (HC3.out.below (below_alloc w3 _)) (by omega) (by omega) (by omega) (by simp) (by have := HC3.out.1; omega) (three_cells w3 _ (by omega) (by omega) (by omega))).mono ?_
      rintro e w4 ⟨z, rfl, z0, z1, hc4, hk4⟩
      have HK4 := hide ((HK3.out.alloc _).trans hk4)
      have HC4 := hide hc4
      clear hc4 hk4
      go_wp2_with fail
      go_meet
      case rel => exact ⟨z.toNat, by congr 1; omega, by omega, by omega, hide (HC4.out.le (by omega)), HK4⟩
  case rest =>
    obtain ⟨n, rfl, hn, hn1, HC4, HK4⟩ := hcut
    go_wp2_with fail
    go_loopw [4, 5, 6, 7, 8] (fun v s _ _ _ wr => ∃ (i : Nat) (us : List Value) (L : List (List Int)), s = .int .i64 i ∧ i ≤ n ∧ L.length = i ∧ Hid (∀ j, j < i → (L.getD j []).length = n) ∧ Hid (LL wr w.heap.size 25 3 1 ints v us L) ∧ Hid (Cur wr c a len cap (N + 8 + 40 * i)) ∧ Hid (Kp c w wr)) (fun _ s _ _ _ _ => n - (intOf s).toNat)
    case atStart => exact ⟨0, [], [], rfl, Nat.zero_le _, rfl, hide fun j hj => absurd hj (Nat.not_lt_zero _), hide (LL.nil _ _ _ _ _ _), hide (HC4.out.le (by simp)), HK4⟩
    case round =>
      obtain ⟨i, us, L, rfl, hi, hL, HR, HF, HCR, HKR⟩ := hrel
      by_cases hin : i < n
      · have k1 : (i : Int) < (n : Int) := by omega
        obtain ⟨W1, hW1⟩ : ∃ W1 : World, W1 = wr := ⟨_, rfl⟩
        subst hW1
        have hsW := HKR.out.size
        have hcW : c < W1.heap.size := by omega
        go_wp2_with fail
        go_loopw [6, 7, 8] (fun u s _ wr => ∃ (j : Nat) (rs : List Int), s = .int .i64 j ∧ j ≤ n ∧ rs.length = j ∧ Hid (wr.ownsRow W1.heap.size 3 1 u j (ints rs)) ∧ Hid (Cur wr c a len cap (N + 8 + 40 * i + 4 * j)) ∧ Hid (Kp c W1 wr)) (fun _ s _ _ => n - (intOf s).toNat)
        case atStart => exact ⟨0, [], rfl, Nat.zero_le _, rfl, hide (World.ownsRow_nil _ _ _ _), hide (HCR.out.le (by omega)), hide (Kp.refl _ _)⟩
        case round =>
          obtain ⟨j, rs, rfl, hj, hrs, HU, HCJ, HKJ⟩ := hrel
          by_cases hjm : j < n
          · have j1 : (j : Int) < (n : Int) := by omega
            obtain ⟨au, cu, eu⟩ := own_form2 HU.out
            subst eu
            by_cases hij : i = j
            · have hne : ((i : Int) != (j : Int)) = false := by simp [hij]
              clear hij
              obtain ⟨v4, w4, hr4, own4, hg4⟩ := push_int (x := 0) HU.out (by omega) HKJ.out.size
              rw [← ints_snoc] at own4
              have HO4 := hide own4
              have HK4' := hide (kp_push HKJ.out HU.out hg4)
              have HC4' := hide (cur_push HCJ.out hcW (fun b off e hl => by have := HOLD.out b off e hl; omega) HKJ.out.size HU.out hg4)
              clear own4 hg4
              go_wp2_with (first | (at_builtin; refine Lib.wpList_append_run _ rfl _ _ _ _ rfl _ _ rfl rfl _ _ (hr4 _) ?_))
              go_roundw
              case rel => exact ⟨j + 1, rs ++ [0], by go_num, by omega, by simp [hrs], HO4, hide (HC4'.out.le (by omega)), HK4'⟩
              case measure => simp only [intOf]; omega
            · have hne : ((i : Int) != (j : Int)) = true := by simp; omega
              go_wp2_with fail
              refine (one_any 2 (by omega) HCJ.out (by omega)).mono ?_
              rintro e w5 ⟨r5, rfl, hc5, hk5⟩
              have HC5 := hide hc5
              have HK5 := hide (HKJ.out.trans hk5)
              have HU5 := hide (own_kp HU.out hk5 hcW)
              clear hc5 hk5 HCJ HKJ HU
              cases r5
              · obtain ⟨v4, w4, hr4, own4, hg4⟩ := push_int (x := 0) HU5.out (by omega) HK5.out.size
                rw [← ints_snoc] at own4
                have HO4 := hide own4
                have HK4' := hide (kp_push HK5.out HU5.out hg4)
                have HC4' := hide (cur_push HC5.out hcW (fun b off e hl => by have := HOLD.out b off e hl; omega) HK5.out.size HU5.out hg4)
                clear own4 hg4
                go_wp2_with (first | (at_builtin; refine Lib.wpList_append_run _ rfl _ _ _ _ rfl _ _ rfl rfl _ _ (hr4 _) ?_))
                go_roundw
                case rel => exact ⟨j + 1, rs ++ [0], by go_num, by omega, by simp [hrs], HO4, hide (HC4'.out.le (by omega)), HK4'⟩
                case measure => simp only [intOf]; omega
              · go_wp2_with fail
                refine (pick_any 10 (by omega) HC5.out (by omega)).mono ?_
                rintro e w6 ⟨r6, rfl, q0, q1, hc6, hk6⟩
                have HC6 := hide hc6
                have HK6 := hide (HK5.out.trans hk6)
                have HU6 := hide (own_kp HU5.out hk6 hcW)
                clear hc6 hk6 HC5 HK5 HU5
                obtain ⟨v4, w4, hr4, own4, hg4⟩ := push_int (x := r6) HU6.out (by omega) HK6.out.size
                rw [← ints_snoc] at own4
                have HO4 := hide own4
                have HK4' := hide (kp_push HK6.out HU6.out hg4)
                have HC4' := hide (cur_push HC6.out hcW (fun b off e hl => by have := HOLD.out b off e hl; omega) HK6.out.size HU6.out hg4)
                clear own4 hg4
                go_wp2_with (first | (at_builtin; refine Lib.wpList_append_run _ rfl _ _ _ _ rfl _ _ rfl rfl _ _ (hr4 _) ?_))
                go_roundw
                case rel => exact ⟨j + 1, rs ++ [r6], by go_num, by omega, by simp [hrs], HO4, hide (HC4'.out.le (by omega)), HK4'⟩
                case measure => simp only [intOf]; omega
          · have j1 : ¬ (j : Int) < (n : Int) := by omega
            have hje : j = n := by omega
            subst hje
            obtain ⟨au, cu, eu⟩ := own_form2 HU.out
            subst eu
            have hkk := HKR.out.trans HKJ.out
            obtain ⟨G4, C4, w4, hr4, L4, hg4, ownF⟩ := HF.out.pushK (r := rs) HKJ.out hcw (by rw [hrs]; exact HU.out) rfl (by rw [hL]; omega) hsW
            rw [hL] at hr4 L4 ownF
            have HL4 := hide L4
            have HK5 := hide (kp_push (hkk.alloc (.cells #[.slice au j cu] 25)) (ownF.alloc _) hg4)
            have HC5 := hide (cur_push (HCJ.out.below (below_alloc _ (.cells #[.slice au j cu] 25))) hcw HOLD.out (hkk.alloc (.cells #[.slice au j cu] 25)).size (ownF.alloc _) hg4)
            have HR4 := hide (rows_snoc hL HR.out hrs)
            obtain ⟨av, cv, ev⟩ := own_form2 ownF
            subst ev
            clear L4 hg4 hkk ownF HU
            go_wp2_with (first | (at_builtin; refine Lib.wpList_append_run _ rfl _ _ _ _ rfl _ _ rfl rfl _ _ (hr4 _) ?_))
            go_roundw
            case rel => exact ⟨i + 1, _, _, by go_num, by omega, by simp [hL], HR4, HL4, hide (HC5.out.le (by omega)), HK5⟩
            case measure => simp only [intOf]; omega
      · have hie : i = n := by omega
        subst hie
        have k1 : ¬ (i : Int) < (i : Int) := by omega
        obtain ⟨av, cv, hu⟩ := HF.out.form
        rw [hL] at hu
        subst hu
        go_wp2_with fail
        refine (one_any 30 (by omega) HCR.out (by omega)).mono ?_
        rintro e w3 ⟨r3, rfl, hc3, hk3⟩
        have HF3 := hide (HF.out.kp hk3 hcw)
        have HC3 := hide hc3
        have HK3 := hide (HKR.out.trans hk3)
        have hs3 := HK3.out.size
        clear hc3 hk3 HF HCR HKR
        cases r3
        · go_wp2_with fail
          go_ret
          exact ⟨_, us, i, L, rfl, hn, hn1, hL, HR.out, HF3.out, HC3.out.le (by omega), HK3.out⟩
        · have hL0 : (L.getD 0 []).length = i := HR.out 0 (by omega)
          obtain ⟨G, cv', eG, hG0, _⟩ := HF3.out.1.form (by omega)
          rw [hL] at eG
          cases eG
          obtain ⟨g, cg, t0, ug, _⟩ := HF3.out.at2 hL (i := 0) (k := 0) (by omega) (by omega)
          rw [hL0] at t0 ug
          have hGl := HF3.out.1.lt G rfl
          have hgb : (us.getD 0 nilS).ownBlock = some g := by rw [ug]; rfl
          have hGn : G ≠ g := fun e => HF3.out.2.2.1 0 g (by omega) hgb (by rw [← e]; rfl)
          have hgl := (HF3.out.2.1 0 (by omega)).lt g hgb
          have HFP : Hid (∀ W z, Kp c w3 W → ∃ zz, W.cell? ⟨g, 0, none⟩ = some (.int .i64 zz) ∧ W.frozen? ⟨g, 0, none⟩ = false ∧ LL (W.setCell ⟨g, 0, none⟩ (.int .i64 z)) w.heap.size 25 3 1 ints (.slice (some ⟨G, 0, none⟩) i cv) us (L.set 0 ((L.getD 0 []).set 0 z))) := hide fun W z hW => by
            obtain ⟨g', c', e', r1, r2, _, _, r5⟩ := (HF3.out.kp hW hcw).write (i := 0) (k := 0) (x := z) (by omega) (by omega)
            rw [ug] at e'
            cases e'
            exact ⟨_, r1, r2, r5⟩
          have HRZ : Hid (∀ z, ∀ j, j < i → ((L.set 0 ((L.getD 0 []).set 0 z)).getD j []).length = i) := hide fun z j hj => by
            rw [getD_set' (by omega)]
            by_cases e : j = 0
            · rw [if_pos e, List.length_set]; exact hL0
            · rw [if_neg e]; exact HR.out j hj
          have z1 : (0 : Int) < (i : Int) := by omega
          have hGc : G ≠ c := by omega
          have hCD : Cur w3.drew c a len cap (N + 8 + 40 * i + 2) := HC3.out.blocks (w' := w3.drew) (Nat.le_refl _) rfl (fun _ _ _ _ => rfl)
          have HCD := hide hCD
          clear hCD
          have z2 : 0 < i := by omega
          have z3 : ¬ i = 0 := by omega
          clear k1 hi ug hgb
          go_upto_region 18 with fail
          go_region_held3 (fun w' => w'.cell? ⟨G, 0, none⟩ = some (.slice (some ⟨g, 0, none⟩) i cg))
            (first | exact t0 | assumption | exact tS _ | fail)
            (first
            | (go_at_call 48; refine (pick_any 2 (by omega) HCD.out (by omega)).mono ?_; rintro e w6 ⟨z, rfl, z0, z1', hc6, hk6⟩; have hk6' : Kp c w3 w6 := ⟨hk6.os, hk6.tape, hk6.output, hk6.size, hk6.block⟩; have t6 := (hk6'.cell (o := 0) hGl.2 hGc).trans t0; have tS : ∀ u, (w6.setCell ⟨g, 0, none⟩ u).cell? ⟨G, 0, none⟩ = some (.slice (some ⟨g, 0, none⟩) i cg) := fun u => (set_ne13 (Ne.symm hGn)).trans t6; obtain ⟨zz, c6, f6, fin6⟩ := HFP.out w6 z hk6'; have FIN := hide fin6; have HC6 := hide hc6; have HK6 := hide hk6'; clear hc6 hk6 hk6' fin6)
            | fail)
          all_goals
            have HK7 := hide (kp_set (o := 0) (v := .int .i64 z) (HK3.out.trans HK6.out) hgl.1)
            have HC7 := hide (cur_set (o := 0) (v := .int .i64 z) HC6.out hcw HOLD.out hgl.1)
            clear c6 f6 tS t6 t0
            generalize w6.setCell ⟨g, 0, none⟩ (.int .i64 z) = w7 at *
            go_wp2_with fail
            go_ret
            exact ⟨_, us, i, _, rfl, hn, hn1, by simp [hL], HRZ.out z, FIN.out, HC7.out.le (by omega), HK7.out⟩
end Go.Proofs.Ytnepjahhconodaa
namespace Go.Proofs.Ytnepjahhconodaa.Od

def waysB (us ws : List Int) : Bool := decide (us.length = ws.length) && (decide (us.length ≤ 10) && (Pf.allB us 0 1000 && Pf.allB ws 0 1000))
theorem waysB_yes {us ws : List Int} (h : waysB us ws = true) : us.length = ws.length ∧ us.length ≤ 10 ∧ Pf.allB us 0 1000 = true ∧ Pf.allB ws 0 1000 = true := by
  simpa [waysB] using h
theorem waysB_ne {us ws : List Int} (h : us.length ≠ ws.length) : waysB us ws = false := by simp [waysB, h]
theorem waysB_many {us ws : List Int} (h : 10 < us.length) : waysB us ws = false := by simp [waysB, show ¬ us.length ≤ 10 by omega]

/-- The number at i is one of 0 up to n - 1, and none ahead of it is the same. -/
def okAt (xs : List Int) (n i : Nat) : Bool := Pf.inB (xs.getD i 0) 0 ((n : Int) - 1) && !(xs.take i).contains (xs.getD i 0)
def ordB (xs : List Int) (n : Nat) : Bool := decide (xs.length = n) && (List.range n).all (okAt xs n)
theorem ordB_len {xs : List Int} {n : Nat} (h : ordB xs n = true) : xs.length = n := by
  simp only [ordB, Bool.and_eq_true, decide_eq_true_eq] at h; exact h.1
theorem ordB_at {xs : List Int} {n i : Nat} (h : ordB xs n = true) (hi : i < n) : okAt xs n i = true := by
  simp only [ordB, Bool.and_eq_true, List.all_eq_true, List.mem_range] at h; exact h.2 i hi
theorem ordB_of {xs : List Int} {n : Nat} (h1 : xs.length = n) (h : ∀ i, i < n → okAt xs n i = true) : ordB xs n = true := by
  simp only [ordB, Bool.and_eq_true, decide_eq_true_eq, List.all_eq_true, List.mem_range]; exact ⟨h1, h⟩
theorem ordB_ne {xs : List Int} {n : Nat} (h : xs.length ≠ n) : ordB xs n = false := by simp [ordB, h]
theorem ordB_not {xs : List Int} {n i : Nat} (hi : i < n) (h : okAt xs n i = false) : ordB xs n = false := by
  cases e : ordB xs n
  · rfl
  · rw [ordB_at e hi] at h; cases h
theorem ordB_in {xs : List Int} {n i : Nat} (h : ordB xs n = true) (hi : i < n) : 0 ≤ xs.getD i 0 ∧ xs.getD i 0 < n := by
  have := ordB_at h hi
  simp only [okAt, Bool.and_eq_true] at this
  have := Pf.inB_yes this.1
  omega
/-- The number at i as a natural one. -/
def nth (xs : List Int) (i : Nat) : Nat := (xs.getD i 0).toNat
theorem nth_cast {xs : List Int} {n i : Nat} (h : ordB xs n = true) (hi : i < n) : xs.getD i 0 = (nth xs i : Int) := by
  have := ordB_in h hi; unfold nth; omega
theorem nth_lt {xs : List Int} {n i : Nat} (h : ordB xs n = true) (hi : i < n) : nth xs i < n := by
  have := ordB_in h hi; unfold nth; omega

/-- Whether j is among the first k. -/
def seen (xs : List Int) (k n : Nat) : List Bool := (List.range n).map fun (j : Nat) => (xs.take k).contains (j : Int)
theorem seen_len (xs : List Int) (k n : Nat) : (seen xs k n).length = n := by simp [seen]
theorem seen_zero (xs : List Int) (n : Nat) : seen xs 0 n = List.replicate n false := by
  apply List.ext_getElem
  · simp [seen]
  · intro i h1 h2; simp [seen]
theorem seen_get (xs : List Int) (k n j : Nat) (h : j < n) : (seen xs k n).getD j false = (xs.take k).contains (j : Int) := by simp [seen, h]
theorem seen_step (xs : List Int) (k n j : Nat) (hk : k < xs.length) (h : xs.getD k 0 = (j : Int)) : (seen xs k n).set j true = seen xs (k + 1) n := by
  apply List.ext_getElem
  · simp [seen]
  · intro i h1 h2
    have hi : i < n := by simpa [seen] using h2
    have e : xs[k] = (j : Int) := by rw [Pf.getD_lt xs 0 hk] at h; exact h
    simp only [seen, List.getElem_map, List.getElem_range, List.getElem_set]
    rw [List.take_add_one]
    by_cases hij : j = i
    · subst hij; simp [hk, e]
    · have : ¬ (i : Int) = (j : Int) := by omega
      simp [hij, hk, e, this]

/-- The sum of use times way over the first k. -/
def pairTo (us ws : List Int) : Nat → Int
  | 0 => 0
  | k + 1 => pairTo us ws k + us.getD k 0 * ws.getD k 0
def pair (us ws : List Int) : Int := pairTo us ws us.length
/-- What an order costs over the first k places. -/
def costTo (us ws os : List Int) : Nat → Int
  | 0 => 0
  | k + 1 => costTo us ws os k + us.getD (nth os k) 0 * ws.getD k 0
def cost (us ws os : List Int) : Int := costTo us ws os os.length
theorem term_bd {x y : Int} (hx : 0 ≤ x ∧ x ≤ 1000) (hy : 0 ≤ y ∧ y ≤ 1000) : 0 ≤ x * y ∧ x * y ≤ 1000000 := by
  refine ⟨Int.mul_nonneg hx.1 hy.1, ?_⟩
  exact Int.le_trans (Int.mul_le_mul_of_nonneg_right hx.2 hy.1) (Int.le_trans (Int.mul_le_mul_of_nonneg_left hy.2 (show (0 : Int) ≤ 1000 by omega)) (by omega))
theorem pairTo_bd {us ws : List Int} (hu : Pf.allB us 0 1000 = true) (hw : Pf.allB ws 0 1000 = true) : ∀ k, k ≤ us.length → k ≤ ws.length → 0 ≤ pairTo us ws k ∧ pairTo us ws k ≤ 1000000 * (k : Int)
  | 0, _, _ => by simp [pairTo]
  | k + 1, h1, h2 => by
    have := pairTo_bd hu hw k (by omega) (by omega)
    have := term_bd (Pf.inB_yes (Pf.allB_get hu (show k < us.length by omega))) (Pf.inB_yes (Pf.allB_get hw (show k < ws.length by omega)))
    simp only [pairTo]; omega
theorem costTo_bd {us ws os : List Int} (hu : Pf.allB us 0 1000 = true) (hw : Pf.allB ws 0 1000 = true) (hl : us.length = ws.length) (ho : ordB os us.length = true) : ∀ k, k ≤ us.length → 0 ≤ costTo us ws os k ∧ costTo us ws os k ≤ 1000000 * (k : Int)
  | 0, _ => by simp [costTo]
  | k + 1, h1 => by
    have := costTo_bd hu hw hl ho k (by omega)
    have := term_bd (Pf.inB_yes (Pf.allB_get hu (nth_lt ho (show k < us.length by omega)))) (Pf.inB_yes (Pf.allB_get hw (show k < ws.length by omega)))
    simp only [costTo]; omega
/-- The uses as they stand in an order. -/
def placed (us os : List Int) : List Int := os.map fun o => us.getD o.toNat 0
theorem placed_len (us os : List Int) : (placed us os).length = os.length := by simp [placed]
theorem placed_get (us os : List Int) {k : Nat} (h : k < os.length) : (placed us os).getD k 0 = us.getD (nth os k) 0 := by simp [placed, nth, h]
theorem placed_pair (us ws os : List Int) : ∀ k, k ≤ os.length → pairTo (placed us os) ws k = costTo us ws os k
  | 0, _ => rfl
  | k + 1, h => by simp only [pairTo, costTo]; rw [placed_pair us ws os k (by omega), placed_get us os (by omega)]
theorem placed_cost (us ws os : List Int) : pair (placed us os) ws = cost us ws os := by
  unfold pair cost; rw [placed_len]; exact placed_pair us ws os _ (Nat.le_refl _)
theorem placed_all {us os : List Int} (hu : Pf.allB us 0 1000 = true) (ho : ordB os us.length = true) : Pf.allB (placed us os) 0 1000 = true := by
  refine Pf.allB_of fun i hi => ?_
  rw [placed_len] at hi
  have hl := ordB_len ho
  rw [placed_get us os hi]
  exact Pf.allB_get hu (nth_lt ho (by omega))
theorem placed_step (us os ys : List Int) (k : Nat) (hy : ys.length = os.length) (hk : k < os.length) (h : ys.take k = (placed us os).take k) : (ys.set k (us.getD (nth os k) 0)).take (k + 1) = (placed us os).take (k + 1) := by
  rw [List.take_add_one, List.take_add_one, List.take_set_of_le (Nat.le_refl _), h]
  congr 1
  simp [hk, hy, placed, nth]

/-- The goods of two places changed. -/
def swap (os : List Int) (a b : Nat) : List Int := (os.set a (os.getD b 0)).set b (os.getD a 0)
theorem swap_len (os : List Int) (a b : Nat) : (swap os a b).length = os.length := by simp [swap]
theorem swap_get (os : List Int) {a b i : Nat} (ha : a < os.length) (hb : b < os.length) (hi : i < os.length) : (swap os a b).getD i 0 = if i = b then os.getD a 0 else if i = a then os.getD b 0 else os.getD i 0 := by
  simp only [swap, List.getD_eq_getElem?_getD, List.getElem?_set, List.length_set]
  by_cases h1 : b = i
  · subst h1; simp [hb]
  · rw [if_neg h1, if_neg (show ¬ i = b by omega)]
    by_cases h2 : a = i
    · subst h2; simp [ha]
    · rw [if_neg h2, if_neg (show ¬ i = a by omega)]
theorem okAt_iff {xs : List Int} {n i : Nat} (hl : xs.length = n) (hi : i < n) : okAt xs n i = true ↔ (0 ≤ xs.getD i 0 ∧ xs.getD i 0 < n) ∧ ∀ j, j < i → xs.getD j 0 ≠ xs.getD i 0 := by
  simp only [okAt, Bool.and_eq_true, Bool.not_eq_true', List.contains_eq_mem, decide_eq_false_iff_not]
  constructor
  · rintro ⟨h1, h2⟩
    have := Pf.inB_yes h1
    refine ⟨by omega, fun j hj e => h2 ?_⟩
    rw [← e]
    have hj' : j < xs.length := by omega
    rw [Pf.getD_lt xs 0 hj']
    exact List.mem_take_iff_getElem.2 ⟨j, by omega, rfl⟩
  · rintro ⟨h1, h2⟩
    refine ⟨Pf.inB_of h1.1 (by omega), fun hm => ?_⟩
    obtain ⟨j, hj, e⟩ := List.mem_take_iff_getElem.1 hm
    have hj' : j < xs.length := by omega
    exact h2 j (by omega) (by rw [Pf.getD_lt xs 0 hj']; exact e)
/-- An order: its numbers are 0 up to n - 1, no two alike. -/
theorem ordB_iff {xs : List Int} {n : Nat} : ordB xs n = true ↔ xs.length = n ∧ (∀ i, i < n → 0 ≤ xs.getD i 0 ∧ xs.getD i 0 < n) ∧ ∀ i j, i < n → j < n → xs.getD i 0 = xs.getD j 0 → i = j := by
  constructor
  · intro h
    have hl := ordB_len h
    refine ⟨hl, fun i hi => ordB_in h hi, fun i j hi hj e => ?_⟩
    rcases Nat.lt_trichotomy i j with c | c | c
    · exact absurd e (((okAt_iff hl hj).1 (ordB_at h hj)).2 i c)
    · exact c
    · exact absurd e.symm (((okAt_iff hl hi).1 (ordB_at h hi)).2 j c)
  · rintro ⟨hl, h1, h2⟩
    refine ordB_of hl fun i hi => (okAt_iff hl hi).2 ⟨h1 i hi, fun j hj e => ?_⟩
    have := h2 j i (by omega) hi e
    omega
theorem swap_ord {os : List Int} {n a b : Nat} (h : ordB os n = true) (ha : a < n) (hb : b < n) : ordB (swap os a b) n = true := by
  obtain ⟨hl, h1, h2⟩ := ordB_iff.1 h
  subst hl
  refine ordB_iff.2 ⟨swap_len _ _ _, fun i hi => ?_, fun i j hi hj => ?_⟩
  · rw [swap_get os ha hb hi]; split
    · exact h1 a ha
    · split
      · exact h1 b hb
      · exact h1 i hi
  · rw [swap_get os ha hb hi, swap_get os ha hb hj]
    intro e
    by_cases i1 : i = b
    · rw [if_pos i1] at e
      by_cases j1 : j = b
      · omega
      · rw [if_neg j1] at e
        by_cases j2 : j = a
        · rw [if_pos j2] at e
          have := h2 a b ha hb e; omega
        · rw [if_neg j2] at e
          have := h2 a j ha hj e; omega
    · rw [if_neg i1] at e
      by_cases i2 : i = a
      · rw [if_pos i2] at e
        by_cases j1 : j = b
        · rw [if_pos j1] at e; have := h2 b a hb ha e; omega
        · rw [if_neg j1] at e
          by_cases j2 : j = a
          · omega
          · rw [if_neg j2] at e
            have := h2 b j hb hj e; omega
      · rw [if_neg i2] at e
        by_cases j1 : j = b
        · rw [if_pos j1] at e; have := h2 i a hi ha e; omega
        · rw [if_neg j1] at e
          by_cases j2 : j = a
          · rw [if_pos j2] at e; have := h2 i b hi hb e; omega
          · rw [if_neg j2] at e; exact h2 i j hi hj e

theorem count_set {l : List Bool} {k : Nat} (h : l.getD k true = false) : l.count false = (l.set k true).count false + 1 := by
  have hk : k < l.length := by
    by_cases hk : k < l.length
    · exact hk
    · simp [hk] at h
  have e : l[k] = false := by simpa [hk] using h
  have h1 := List.take_append_drop k l
  have h2 : l.drop k = l[k] :: l.drop (k + 1) := List.drop_eq_getElem_cons hk
  have h3 : l.set k true = l.take k ++ true :: l.drop (k + 1) := by rw [List.set_eq_take_append_cons_drop, if_pos hk]
  rw [h3]
  conv => lhs; rw [← h1, h2, e]
  simp [List.count_append]; omega
/-- From k on along the order, until one is met that was gone to. -/
def gone (xs : List Int) (l : List Bool) (k : Nat) : List Bool :=
  if _h : l.getD k true = false then gone xs (l.set k true) (nth xs k) else l
termination_by l.count false
decreasing_by
  have := count_set _h
  omega
theorem gone_stop {xs : List Int} {l : List Bool} {k : Nat} (h : l.getD k true = true) : gone xs l k = l := by
  rw [gone, dif_neg (by rw [h]; decide)]
theorem gone_step {xs : List Int} {l : List Bool} {k : Nat} (h : l.getD k true = false) : gone xs l k = gone xs (l.set k true) (nth xs k) := by
  rw [gone, dif_pos h]
/-- What was gone to, and how many rings there are, behind the first i. -/
def ringsTo (xs : List Int) (n : Nat) : Nat → List Bool × Nat
  | 0 => (List.replicate n false, 0)
  | i + 1 => let s := ringsTo xs n i; (gone xs s.1 i, if s.1.getD i true = false then s.2 + 1 else s.2)
def rings (xs : List Int) : Nat := (ringsTo xs xs.length xs.length).2
theorem gone_len (xs : List Int) : ∀ (m : Nat) (l : List Bool) (k : Nat), l.count false = m → (gone xs l k).length = l.length
  | m, l, k, hm => by
    cases h : l.getD k true
    · have := count_set h
      rw [gone_step h]
      cases m with
      | zero => omega
      | succ m => rw [gone_len xs m _ _ (by omega)]; simp
    · rw [gone_stop h]
theorem ringsTo_len (xs : List Int) (n : Nat) : ∀ i, (ringsTo xs n i).1.length = n
  | 0 => by simp [ringsTo]
  | i + 1 => by simp only [ringsTo]; rw [gone_len xs _ _ _ rfl, ringsTo_len xs n i]
theorem ringsTo_le (xs : List Int) (n : Nat) : ∀ i, (ringsTo xs n i).2 ≤ i
  | 0 => by simp [ringsTo]
  | i + 1 => by have := ringsTo_le xs n i; simp only [ringsTo]; split <;> omega
end Go.Proofs.Ytnepjahhconodaa.Od
namespace Go.Proofs.Ytnepjahhconodaa
open Go.RowKit

def bls (bs : List Bool) : List Value := bs.map fun b => .bool b
theorem bls_len (bs : List Bool) : (bls bs).length = bs.length := by simp [bls]
theorem bls_get (bs : List Bool) (j : Nat) (h : j < bs.length) (d : Bool) : (bls bs)[j]? = some (.bool (bs.getD j d)) := by simp [bls, h]
theorem bls_set (bs : List Bool) (j : Nat) (x : Bool) : (bls bs).set j (.bool x) = bls (bs.set j x) := by simp [bls, List.map_set]
theorem madeB_own (w : World) (n : Nat) (hn : n ≤ 1048576) : (w.alloc (.cells (madeCells #[.bool false] n) 4)).ownsRow w.heap.size 4 1 (.slice (some ⟨w.heap.size, 0, none⟩) n n) n (bls (List.replicate n false)) := by
  have h := World.ownsRow_lit (base := w.heap.size) (e := 4) (size := 1) w (madeCells #[.bool false] n) n (Nat.le_refl _) (by unfold maxLen; omega) (by simp [madeCells])
  rw [toList_madeCells_one] at h
  simpa [bls] using h

end Go.Proofs.Ytnepjahhconodaa
namespace Go.Proofs.Ytnepjahhconodaa
open Go.RowKit


theorem has_step {xs : List Int} {k : Nat} {x : Int} (hk : k < xs.length) (h : (xs.take k).contains x = false) (hne : (xs.getD k 0 == x) = false) : (xs.take (k + 1)).contains x = false := by
  rw [List.take_add_one]
  have e : xs[k]? = some (xs.getD k 0) := by simp [hk]
  simp only [e, Option.toList_some, List.contains_eq_mem, List.mem_append, List.mem_singleton, decide_eq_false_iff_not] at h ⊢
  simp only [beq_eq_false_iff_ne] at hne
  exact fun c => c.elim h (fun c => hne c.symm)
theorem has_yes {xs : List Int} {k : Nat} {x : Int} (hk : k < xs.length) (h : (xs.getD k 0 == x) = true) : xs.contains x = true := by
  have : xs.getD k 0 = x := by simpa using h
  rw [← this, Pf.getD_lt xs 0 hk]
  simp
set_option maxRecDepth 100000 in
set_option maxHeartbeats 1000000 in
theorem has7_any {a : Option Addr} {n c : Nat} {xs : List Int} {x : Int} {w : World} (hx : xs.length = n) (hn : n ≤ 1000) (ha : ARow w a xs) :
    Calls Try.prog 29 #[.slice a n c, .int .i64 x] w fun e w' => e = .returned (.bool (xs.contains x)) ∧ w' = w := by
  have HA := hide ha
  have HX := hide hx
  clear ha hx
  go_enter Try.func29, Try.ntmps29
  go_wp2_with fail
  go_loop [4, 6, 9] (fun s4 _ s => ∃ (k : Nat), s4 = .bool false ∧ s = .int .i64 k ∧ k ≤ n ∧ Hid ((xs.take k).contains x = false)) (fun _ _ s => n - (intOf s).toNat)
  case atStart => exact ⟨0, rfl, rfl, Nat.zero_le _, hide (by simp)⟩
  case round =>
    obtain ⟨k, rfl, rfl, hk, HK⟩ := hrel
    by_cases hlt : k < n
    · obtain ⟨b, off, rfl, r1⟩ := HA.out.at (i := k) (by rw [HX.out]; exact hlt)
      have i0 : (0 : Int) ≤ (k : Int) := by omega
      have i1 : (k : Int) < (n : Int) := by omega
      have HS := hide (has_step (x := x) (by rw [HX.out]; exact hlt) HK.out)
      have HY := hide (has_yes (x := x) (k := k) (xs := xs) (by rw [HX.out]; exact hlt))
      generalize xs.getD k 0 = y at *
      cases hb : (y == x)
      · have H1 := hide (HS.out hb)
        go_wp2_with fail
        go_round
        case rel => exact ⟨k + 1, rfl, by go_num, by omega, H1⟩
        case measure => simp only [intOf]; omega
      · have H1 := hide (HY.out hb)
        go_wp2_with fail
        go_ret
        exact ⟨ret_bool (H1.out.symm.trans (List.contains_eq_mem ..)), rfl⟩
    · have hke : k = n := by omega
      subst hke
      have H1 := hide (show xs.contains x = false by have := HK.out; rwa [← HX.out, List.take_length] at this)
      go_wp2_with fail
      go_ret
      exact ⟨ret_bool (H1.out.symm.trans (List.contains_eq_mem ..)), rfl⟩
theorem has7_eq {a : Option Addr} {n c : Nat} {xs : List Int} {x : Int} {w : World} {r : Bool} (hx : Hid (xs.length = n)) (hn : n ≤ 1000) (ha : Hid (ARow w a xs)) (h : Hid (xs.contains x = r)) :
    Calls Try.prog 29 #[.slice a n c, .int .i64 x] w fun e w' => e = .returned (.bool r) ∧ w' = w := h.out ▸ has7_any hx.out hn ha.out
theorem ARow.take {w : World} {a : Option Addr} {xs : List Int} (h : ARow w a xs) (k : Nat) : ARow w a (xs.take k) := by
  rcases h with h | ⟨b, off, ha, hb, hc⟩
  · exact Or.inl (by rw [h]; simp)
  · refine Or.inr ⟨b, off, ha, hb, fun i hi => ?_⟩
    rw [List.length_take] at hi
    rw [hc i (by omega)]
    simp [show i < k by omega]
end Go.Proofs.Ytnepjahhconodaa
