/-
  In one: Math, A, B, C, D, E, F, Q, R, S, Xi, Rk, Pf, Pa, Hv, Pb, Yf, Pg, Hs, Ht, Kg, Kj, Ja.
-/
import Derived.Test.YtebohpgdhbammaaRows
import Derived.WalkKit
import Derived.WalkSpells
import Derived.WalkLawsBesides
import Derived.Deep.QuietTactic
import Derived.BigQuiet
import Derived.Laws.StructEq
import Derived.Deep.RegionHeld3
import Derived.OwnWalk
import Derived.Laws.AppendOwn
import Derived.Laws.OwnMore
import Derived.Sort.WalkA
import Derived.Lib.AppendZeros
import Derived.Deep.AppendLies
import Derived.Deep.DeepCutAuto
namespace Go.Proofs.Ytebohpgdhbammaa.Fr
def g (a b : Int) : Int := (Int.gcd a b : Int)
def mkN (n d : Int) : Int := if d < 0 then (-n).tdiv (g n d) else n.tdiv (g n d)
def mkD (n d : Int) : Int := if d < 0 then (-d).tdiv (g n d) else d.tdiv (g n d)
def partB (n : Int) : Bool := decide (-1000000000 ≤ n ∧ n ≤ 1000000000)
def goodB (n d : Int) : Bool := decide (-1000000000 ≤ n ∧ n ≤ 1000000000 ∧ 1 ≤ d ∧ d ≤ 1000000000 ∧ g n d = 1)
def fitN (n d : Int) : Int := if goodB n d = true then n else 0
def fitD (n d : Int) : Int := if goodB n d = true then d else 0

theorem g_nonneg (a b : Int) : 0 ≤ g a b := by unfold g; omega
theorem g_pos (a b : Int) (h : b ≠ 0) : 0 < g a b := by
  unfold g
  have : 0 < Int.gcd a b := Int.gcd_pos_of_ne_zero_right a h
  omega
theorem g_step (a b : Int) : g b (a.tmod b) = g a b := by
  unfold g Int.gcd
  rw [Int.natAbs_tmod, Nat.gcd_comm b.natAbs, ← Nat.gcd_rec, Nat.gcd_comm]
theorem g_zero (a : Int) : g a 0 = a.natAbs := by unfold g; simp
theorem g_abs (a b : Int) : g a.natAbs b.natAbs = g a b := by unfold g Int.gcd; simp
theorem g_neg (a b : Int) : g (-a) (-b) = g a b := by unfold g Int.gcd; simp
theorem g_negl (a b : Int) : g (-a) b = g a b := by unfold g Int.gcd; simp
theorem g_negr (a b : Int) : g a (-b) = g a b := by unfold g Int.gcd; simp
theorem g_dvdl (a b : Int) : g a b ∣ a := Int.gcd_dvd_left a b
theorem g_dvdr (a b : Int) : g a b ∣ b := Int.gcd_dvd_right a b
theorem g_le (a b : Int) (h : b ≠ 0) : g a b ≤ b.natAbs := by
  have h1 : 0 < (b.natAbs : Int) := by omega
  have h2 : g a b ∣ (b.natAbs : Int) := by rw [Int.dvd_natAbs]; exact g_dvdr a b
  exact Int.le_of_dvd h1 h2
theorem tmod_lt (a b : Int) (h : b ≠ 0) : (a.tmod b).natAbs < b.natAbs := by
  rw [Int.natAbs_tmod]; exact Nat.mod_lt _ (by omega)
theorem tdiv_abs (a b : Int) : (a.tdiv b).natAbs ≤ a.natAbs := by
  rw [Int.natAbs_tdiv]; exact Nat.div_le_self _ _
theorem mk_iff (n d : Int) (h : 1 ≤ d) : (n = mkN n d ∧ d = mkD n d) ↔ g n d = 1 := by
  have hn : ¬ d < 0 := by omega
  unfold mkN mkD
  rw [if_neg hn, if_neg hn]
  constructor
  · rintro ⟨_, h2⟩
    obtain ⟨k, hk⟩ := g_dvdr n d
    have hp := g_pos n d (by omega)
    generalize g n d = G at *
    have e : d.tdiv G = k := by rw [hk]; exact Int.mul_tdiv_cancel_left k (by omega)
    rw [e] at h2
    subst h2
    exact Int.eq_of_mul_eq_mul_right (a := d) (by omega) (by omega)
  · intro e; rw [e]; simp
theorem mkN_abs (n d : Int) : (mkN n d).natAbs ≤ n.natAbs := by
  unfold mkN; split
  · have := tdiv_abs (-n) (g n d); omega
  · exact tdiv_abs _ _
theorem mkD_abs (n d : Int) : (mkD n d).natAbs ≤ d.natAbs := by
  unfold mkD; split
  · have := tdiv_abs (-d) (g n d); omega
  · exact tdiv_abs _ _
theorem goodB_iff (n d : Int) : goodB n d = true ↔ (-1000000000 ≤ n ∧ n ≤ 1000000000 ∧ 1 ≤ d ∧ d ≤ 1000000000 ∧ g n d = 1) := by unfold goodB; simp
theorem good_of_mk (n d : Int) (h1 : partB n = true) (h2 : partB d = true) (h3 : 0 < d) : goodB n d = ((n == mkN n d) && (d == mkD n d)) := by
  have := mk_iff n d (by omega)
  unfold partB at h1 h2
  simp at h1 h2
  rw [Bool.eq_iff_iff, goodB_iff]
  simp only [Bool.and_eq_true, beq_iff_eq, this]
  omega
theorem good_n1 (n d : Int) (h : partB n = false) : goodB n d = false := by
  unfold partB at h; unfold goodB; simp at h ⊢; omega
theorem good_n2 (n d : Int) (h : partB d = false) : goodB n d = false := by
  unfold partB at h; unfold goodB; simp at h ⊢; omega
theorem good_n3 (n d : Int) (h : d ≤ 0) : goodB n d = false := by
  unfold goodB; simp; omega
theorem mul_bd (x y : Int) (hx0 : -1000000000 ≤ x) (hx1 : x ≤ 1000000000) (hy0 : -1000000000 ≤ y) (hy1 : y ≤ 1000000000) : -1000000000000000000 ≤ x * y ∧ x * y ≤ 1000000000000000000 := by
  have h : (x * y).natAbs ≤ 1000000000 * 1000000000 := by rw [Int.natAbs_mul]; exact Nat.mul_le_mul (by omega) (by omega)
  omega
theorem good_bd (n d : Int) (h : goodB n d = true) : -1000000000 ≤ n ∧ n ≤ 1000000000 ∧ 1 ≤ d ∧ d ≤ 1000000000 := by
  rw [goodB_iff] at h; omega
theorem den_pos (d1 d2 : Int) (h1 : 1 ≤ d1) (h2 : 1 ≤ d2) : 1 ≤ d1 * d2 := by
  have : 0 < d1 * d2 := Int.mul_pos (by omega) (by omega)
  omega
def addN (n1 d1 n2 d2 : Int) : Int := if goodB n1 d1 && goodB n2 d2 then fitN (mkN (n1 * d2 + n2 * d1) (d1 * d2)) (mkD (n1 * d2 + n2 * d1) (d1 * d2)) else 0
def addD (n1 d1 n2 d2 : Int) : Int := if goodB n1 d1 && goodB n2 d2 then fitD (mkN (n1 * d2 + n2 * d1) (d1 * d2)) (mkD (n1 * d2 + n2 * d1) (d1 * d2)) else 0
def addB (n1 d1 n2 d2 : Int) : Bool := goodB n1 d1 && goodB n2 d2 && goodB (mkN (n1 * d2 + n2 * d1) (d1 * d2)) (mkD (n1 * d2 + n2 * d1) (d1 * d2))
def mulN (n1 d1 n2 d2 : Int) : Int := if goodB n1 d1 && goodB n2 d2 then fitN (mkN (n1 * n2) (d1 * d2)) (mkD (n1 * n2) (d1 * d2)) else 0
def mulD (n1 d1 n2 d2 : Int) : Int := if goodB n1 d1 && goodB n2 d2 then fitD (mkN (n1 * n2) (d1 * d2)) (mkD (n1 * n2) (d1 * d2)) else 0
def mulB (n1 d1 n2 d2 : Int) : Bool := goodB n1 d1 && goodB n2 d2 && goodB (mkN (n1 * n2) (d1 * d2)) (mkD (n1 * n2) (d1 * d2))
def divN (n1 d1 n2 d2 : Int) : Int := if goodB n1 d1 && goodB n2 d2 && n2 != 0 then fitN (mkN (n1 * d2) (d1 * n2)) (mkD (n1 * d2) (d1 * n2)) else 0
def divD (n1 d1 n2 d2 : Int) : Int := if goodB n1 d1 && goodB n2 d2 && n2 != 0 then fitD (mkN (n1 * d2) (d1 * n2)) (mkD (n1 * d2) (d1 * n2)) else 0
def divB (n1 d1 n2 d2 : Int) : Bool := goodB n1 d1 && goodB n2 d2 && n2 != 0 && goodB (mkN (n1 * d2) (d1 * n2)) (mkD (n1 * d2) (d1 * n2))
def flr (n d : Int) : Int := if n.tmod d < 0 then n.tdiv d - 1 else n.tdiv d
def lessB (n1 d1 n2 d2 : Int) : Bool := decide (n1 * d2 < n2 * d1)
/-- The sum from the front on, as far as each sum on the way is good. -/
def sumL : List (Int × Int) → Int → Int → Option (Int × Int)
  | [], n, d => some (n, d)
  | x :: r, n, d => if addB n d x.1 x.2 = true then sumL r (addN n d x.1 x.2) (addD n d x.1 x.2) else none
def sumN (l : List (Int × Int)) : Int := if l.length ≤ 50 then ((sumL l 0 1).getD (0, 0)).1 else 0
def sumD (l : List (Int × Int)) : Int := if l.length ≤ 50 then ((sumL l 0 1).getD (0, 0)).2 else 0
def sumB (l : List (Int × Int)) : Bool := decide (l.length ≤ 50) && (sumL l 0 1).isSome
theorem drop_get (xs : List (Int × Int)) (k : Nat) (h : k < xs.length) : xs.drop k = xs.getD k (0, 0) :: xs.drop (k + 1) := by
  rw [List.drop_eq_getElem_cons h, List.getD_eq_getElem?_getD, List.getElem?_eq_getElem h]; rfl
theorem sumL_step (xs : List (Int × Int)) (k : Nat) (n d : Int) (x : Int × Int) (h : k < xs.length) (hx : xs.getD k (0, 0) = x) (hb : addB n d x.1 x.2 = true) : sumL (xs.drop k) n d = sumL (xs.drop (k + 1)) (addN n d x.1 x.2) (addD n d x.1 x.2) := by
  rw [drop_get xs k h, hx]; simp [sumL, hb]
theorem sumL_stop (xs : List (Int × Int)) (k : Nat) (n d : Int) (x : Int × Int) (h : k < xs.length) (hx : xs.getD k (0, 0) = x) (hb : addB n d x.1 x.2 = false) : sumL (xs.drop k) n d = none := by
  rw [drop_get xs k h, hx]; simp [sumL, hb]
theorem sum_none (xs : List (Int × Int)) (h : sumL xs 0 1 = none) : sumN xs = 0 ∧ sumD xs = 0 ∧ sumB xs = false := by
  unfold sumN sumD sumB; rw [h]; simp
theorem sum_some (xs : List (Int × Int)) (hl : xs.length ≤ 50) (n d : Int) (h : sumL xs 0 1 = some (n, d)) : sumN xs = n ∧ sumD xs = d ∧ sumB xs = true := by
  unfold sumN sumD sumB; rw [h]; simp [hl]
theorem sum_long (xs : List (Int × Int)) (hl : 50 < xs.length) : sumN xs = 0 ∧ sumD xs = 0 ∧ sumB xs = false := by
  have : ¬ xs.length ≤ 50 := by omega
  unfold sumN sumD sumB; simp [this]
theorem cop_dvd (a b c : Int) (h : Int.gcd a b = 1) (hd : a ∣ b * c) : a ∣ c := by
  rw [← Int.natAbs_dvd_natAbs] at hd ⊢
  rw [Int.natAbs_mul] at hd
  exact Nat.Coprime.dvd_of_dvd_mul_left (show Nat.Coprime a.natAbs b.natAbs from h) hd
theorem frac_uniq (n1 d1 n2 d2 : Int) (h1 : goodB n1 d1 = true) (h2 : goodB n2 d2 = true) (h : n1 * d2 = n2 * d1) : n1 = n2 ∧ d1 = d2 := by
  rw [goodB_iff] at h1 h2
  obtain ⟨_, _, p1, _, g1⟩ := h1
  obtain ⟨_, _, p2, _, g2⟩ := h2
  have c1 : Int.gcd d1 n1 = 1 := by unfold g at g1; rw [Int.gcd_comm]; omega
  have c2 : Int.gcd d2 n2 = 1 := by unfold g at g2; rw [Int.gcd_comm]; omega
  have e1 : d1 ∣ d2 := by
    have : d1 ∣ n1 * d2 := by rw [h]; exact Int.dvd_mul_left _ _
    exact cop_dvd d1 n1 d2 c1 this
  have e2 : d2 ∣ d1 := by
    have : d2 ∣ n2 * d1 := by rw [← h]; exact Int.dvd_mul_left _ _
    exact cop_dvd d2 n2 d1 c2 this
  have ed : d1 = d2 := Int.dvd_antisymm (by omega) (by omega) e1 e2
  subst ed
  exact ⟨Int.eq_of_mul_eq_mul_right (by omega) h, rfl⟩
theorem less_cases (n1 d1 n2 d2 : Int) (h1 : goodB n1 d1 = true) (h2 : goodB n2 d2 = true) :
    (lessB n1 d1 n2 d2 = true ∧ lessB n2 d2 n1 d1 = false) ∨ (lessB n1 d1 n2 d2 = false ∧ lessB n2 d2 n1 d1 = true) ∨ (lessB n1 d1 n2 d2 = false ∧ lessB n2 d2 n1 d1 = false ∧ n1 = n2 ∧ d1 = d2) := by
  unfold lessB
  by_cases a : n1 * d2 < n2 * d1
  · left; simp [a]; omega
  · by_cases b : n2 * d1 < n1 * d2
    · right; left; simp [b]; omega
    · right; right
      have := frac_uniq n1 d1 n2 d2 h1 h2 (by omega)
      refine ⟨by simp; omega, by simp; omega, this.1, this.2⟩
def subN (n1 d1 n2 d2 : Int) : Int := if goodB n1 d1 && goodB n2 d2 then fitN (mkN (n1 * d2 - n2 * d1) (d1 * d2)) (mkD (n1 * d2 - n2 * d1) (d1 * d2)) else 0
def subD (n1 d1 n2 d2 : Int) : Int := if goodB n1 d1 && goodB n2 d2 then fitD (mkN (n1 * d2 - n2 * d1) (d1 * d2)) (mkD (n1 * d2 - n2 * d1) (d1 * d2)) else 0
def subB (n1 d1 n2 d2 : Int) : Bool := goodB n1 d1 && goodB n2 d2 && goodB (mkN (n1 * d2 - n2 * d1) (d1 * d2)) (mkD (n1 * d2 - n2 * d1) (d1 * d2))
theorem mkN_neg_iff (n d : Int) (hd : 0 < d) : mkN n d < 0 ↔ n < 0 := by
  have hg := g_pos n d (by omega)
  unfold mkN
  rw [if_neg (by omega)]
  obtain ⟨k, hk⟩ := g_dvdl n d
  generalize g n d = G at *
  have e : n.tdiv G = k := by rw [hk]; exact Int.mul_tdiv_cancel_left k (by omega)
  rw [e, hk]
  constructor
  · intro h; exact Int.mul_neg_of_pos_of_neg hg h
  · intro h
    rcases Int.lt_or_le k 0 with h' | h'
    · exact h'
    · have := Int.mul_nonneg (by omega : 0 ≤ G) h'; omega
theorem sub_less (n1 d1 n2 d2 : Int) (h1 : goodB n1 d1 = true) (h2 : goodB n2 d2 = true) (h : subB n1 d1 n2 d2 = true) : lessB n1 d1 n2 d2 = decide (subN n1 d1 n2 d2 < 0) := by
  have p1 := good_bd n1 d1 h1
  have p2 := good_bd n2 d2 h2
  unfold subB at h
  rw [h1, h2] at h
  simp at h
  unfold subN fitN
  rw [h1, h2]
  simp only [Bool.and_self, if_true, h]
  have := mkN_neg_iff (n1 * d2 - n2 * d1) (d1 * d2) (by have := den_pos d1 d2 p1.2.2.1 p2.2.2.1; omega)
  unfold lessB
  rw [Bool.eq_iff_iff]
  simp only [decide_eq_true_eq, this]
  omega
theorem flr_spec (n d : Int) (hd : 1 ≤ d) : flr n d * d ≤ n ∧ n < (flr n d + 1) * d := by
  have e := Int.tmod_add_mul_tdiv n d
  have hl := tmod_lt n d (by omega)
  unfold flr
  split
  · rename_i h
    constructor
    · have : (n.tdiv d - 1) * d = d * n.tdiv d - d := by rw [Int.sub_mul, Int.one_mul, Int.mul_comm]
      rw [this]; omega
    · have : (n.tdiv d - 1 + 1) * d = d * n.tdiv d := by rw [Int.sub_add_cancel, Int.mul_comm]
      rw [this]; omega
  · rename_i h
    constructor
    · rw [Int.mul_comm]; omega
    · have : (n.tdiv d + 1) * d = d * n.tdiv d + d := by rw [Int.add_mul, Int.one_mul, Int.mul_comm]
      rw [this]; omega
theorem sumL_snoc (ys : List (Int × Int)) (x : Int × Int) : ∀ n d, sumL (ys ++ [x]) n d = (sumL ys n d).bind fun p => if addB p.1 p.2 x.1 x.2 = true then some (addN p.1 p.2 x.1 x.2, addD p.1 p.2 x.1 x.2) else none := by
  induction ys with
  | nil => intro n d; simp [sumL]
  | cons y r ih =>
    intro n d
    simp only [List.cons_append, sumL]
    split
    · exact ih _ _
    · rfl
theorem sum_back (ys : List (Int × Int)) (x : Int × Int) (h : sumB (ys ++ [x]) = true) : sumB ys = true ∧ addB (sumN ys) (sumD ys) x.1 x.2 = true ∧ addN (sumN ys) (sumD ys) x.1 x.2 = sumN (ys ++ [x]) ∧ addD (sumN ys) (sumD ys) x.1 x.2 = sumD (ys ++ [x]) := by
  unfold sumB at h
  simp only [List.length_append, List.length_cons, List.length_nil, Bool.and_eq_true, decide_eq_true_eq] at h
  obtain ⟨hl, hs⟩ := h
  rw [sumL_snoc] at hs
  cases e : sumL ys 0 1 with
  | none => rw [e] at hs; simp at hs
  | some p =>
    rw [e] at hs
    simp only [Option.bind_some] at hs
    have hadd : addB p.1 p.2 x.1 x.2 = true := by
      cases hh : addB p.1 p.2 x.1 x.2
      · rw [hh] at hs; simp at hs
      · rfl
    have s1 := sum_some ys (by omega) p.1 p.2 e
    have e2 : sumL (ys ++ [x]) 0 1 = some (addN p.1 p.2 x.1 x.2, addD p.1 p.2 x.1 x.2) := by rw [sumL_snoc, e]; simp [hadd]
    have s2 := sum_some (ys ++ [x]) (by simp; omega) _ _ e2
    rw [s1.1, s1.2.1, s2.1, s2.2.1]
    exact ⟨s1.2.2, hadd, rfl, rfl⟩
end Go.Proofs.Ytebohpgdhbammaa.Fr
namespace Go.Proofs.Ytebohpgdhbammaa
open Go.RowKit

theorem World.drewN_drew (w : World) (k : Nat) : (w.drewN k).drew = w.drewN (k + 1) := rfl
theorem hide {p : Prop} (h : p) : Hid p := h
theorem ret_bool {a b : Bool} (h : a = b) : Ending.returned (.bool a) = .returned (.bool b) := by rw [h]
theorem ret_int {k : IntKind} {a b : Int} (h : a = b) : Ending.returned (.int k a) = .returned (.int k b) := by rw [h]

theorem wrap_id (a : Int) (h0 : -9000000000000000000 ≤ a) (h1 : a ≤ 9000000000000000000) : wrap64 a = a := by unfold wrap64; omega
theorem wrap_id' (a : Int) (h0 : -9223372036854775808 ≤ a) (h1 : a ≤ 9223372036854775807) : wrap64 a = a := by unfold wrap64; omega
theorem wrap_mul (x y : Int) (hx0 : -1000000000 ≤ x) (hx1 : x ≤ 1000000000) (hy0 : -1000000000 ≤ y) (hy1 : y ≤ 1000000000) : wrap64 (x * y) = x * y := by
  have := Fr.mul_bd x y hx0 hx1 hy0 hy1
  exact wrap_id _ (by omega) (by omega)
theorem mkN_neg (n d : Int) (h0 : -4000000000000000000 ≤ n) (h1 : n ≤ 4000000000000000000) (hd : d < 0) : wrap64 (-n.tdiv (Fr.g (-n) (-d))) = Fr.mkN n d := by
  have := Fr.tdiv_abs n (Fr.g (-n) (-d))
  rw [wrap_id _ (by omega) (by omega)]
  unfold Fr.mkN; rw [if_pos hd, Fr.g_neg, Int.neg_tdiv]
theorem mkD_neg (n d : Int) (h0 : -4000000000000000000 ≤ d) (hd : d < 0) : wrap64 (-d.tdiv (Fr.g (-n) (-d))) = Fr.mkD n d := by
  have := Fr.tdiv_abs d (Fr.g (-n) (-d))
  rw [wrap_id _ (by omega) (by omega)]
  unfold Fr.mkD; rw [if_pos hd, Fr.g_neg, Int.neg_tdiv]
theorem mkN_pos (n d : Int) (hd : 0 < d) : n.tdiv (Fr.g n d) = Fr.mkN n d := by
  unfold Fr.mkN; rw [if_neg (by omega)]
theorem wrap_mkN (n d : Int) (h0 : -4000000000000000000 ≤ n) (h1 : n ≤ 4000000000000000000) : wrap64 (Fr.mkN n d) = Fr.mkN n d := by
  have := Fr.mkN_abs n d
  exact wrap_id _ (by omega) (by omega)
theorem mkD_pos (n d : Int) (hd : 0 < d) : d / Fr.g n d = Fr.mkD n d := by
  unfold Fr.mkD; rw [if_neg (by omega), Int.tdiv_eq_ediv_of_nonneg (by omega)]

end Go.Proofs.Ytebohpgdhbammaa
namespace Go.Proofs.Ytebohpgdhbammaa
open Go.RowKit

theorem bcell {W w1 : World} (hb : Below W.heap.size W w1) : (∀ b o, b < W.heap.size → w1.cell? ⟨b, o, none⟩ = W.cell? ⟨b, o, none⟩) ∧ (∀ b o, b < W.heap.size → w1.frozen? ⟨b, o, none⟩ = W.frozen? ⟨b, o, none⟩) :=
  ⟨fun b o h => hb.cell (p := ⟨b, o, none⟩) h, fun b o h => hb.frozen (p := ⟨b, o, none⟩) h⟩

end Go.Proofs.Ytebohpgdhbammaa
namespace Go.Proofs.Ytebohpgdhbammaa
open Go.RowKit

theorem lt3 {a b : Nat} (h : a + 1 + 1 < b) : a < b ∧ a + 1 < b := ⟨by omega, by omega⟩
theorem fracs_no (P : Program) (f : FuncId) (args : Array Value) (w : World) (a b : Int) (c : Bool) (ha : a = 0) (hb : b = 0) (hc : c = false)
    (h : Calls P f args w fun e w' => e = .returned (.tuple #[.agg #[.int .i64 0, .int .i64 0], .bool false]) ∧ Below w.heap.size w w') :
    Calls P f args w fun e w' => e = .returned (.tuple #[.agg #[.int .i64 a, .int .i64 b], .bool c]) ∧ Below w.heap.size w w' := by
  subst ha; subst hb; subst hc; exact h



end Go.Proofs.Ytebohpgdhbammaa
namespace Go.Proofs.Ytebohpgdhbammaa
open Go.RowKit

set_option maxRecDepth 100000 in
set_option maxHeartbeats 400000 in
theorem in_yes {n lo hi : Int} {w : World} (h1 : lo ≤ n) (h2 : n ≤ hi) :
    Calls Try.prog 36 #[.int .i64 n, .int .i64 lo, .int .i64 hi] w fun e w' => e = .returned (.bool true) ∧ w' = w := by
  go_enter Try.func36, Try.ntmps36
  go_wp2
  go_ret
  exact ⟨rfl, rfl⟩

set_option maxRecDepth 100000 in
set_option maxHeartbeats 400000 in
theorem in_no {n lo hi : Int} {w : World} (h : n < lo ∨ hi < n) :
    Calls Try.prog 36 #[.int .i64 n, .int .i64 lo, .int .i64 hi] w fun e w' => e = .returned (.bool false) ∧ w' = w := by
  by_cases h1 : lo ≤ n
  · have h2 : ¬ n ≤ hi := by omega
    clear h
    go_enter Try.func36, Try.ntmps36
    go_wp2
    go_ret
    exact ⟨rfl, rfl⟩
  · clear h
    go_enter Try.func36, Try.ntmps36
    go_wp2
    go_ret
    exact ⟨rfl, rfl⟩

end Go.Proofs.Ytebohpgdhbammaa
namespace Go.Proofs.Ytebohpgdhbammaa
open Go.RowKit

end Go.Proofs.Ytebohpgdhbammaa
namespace Go.Proofs.Ytebohpgdhbammaa
open Go.RowKit


theorem lt_of_some {W : World} {b o : Nat} (h : (W.cell? ⟨b, o, none⟩).isSome = true) : b < W.heap.size := by
  apply Nat.lt_of_not_le
  intro hle
  have : W.heap[b]? = none := by simp; omega
  simp [World.cell?, this] at h
theorem bsome {W w1 : World} (hb : Below W.heap.size W w1) : (∀ b o, (W.cell? ⟨b, o, none⟩).isSome = true → w1.cell? ⟨b, o, none⟩ = W.cell? ⟨b, o, none⟩) ∧ (∀ b o, (W.cell? ⟨b, o, none⟩).isSome = true → w1.frozen? ⟨b, o, none⟩ = W.frozen? ⟨b, o, none⟩) :=
  ⟨fun b o h => hb.cell (p := ⟨b, o, none⟩) (lt_of_some h), fun b o h => hb.frozen (p := ⟨b, o, none⟩) (lt_of_some h)⟩
theorem new_var {W w1 : World} (hb : Below W.heap.size W w1) (b : Nat) (v0 v1 : Value) (h0 : W.cell? ⟨b, 0, none⟩ = some v0) (h1 : W.cell? ⟨b, 1, none⟩ = some v1) (h2 : W.frozen? ⟨b, 0, none⟩ = false) (h3 : W.frozen? ⟨b, 1, none⟩ = false) :
    w1.cell? ⟨b, 0, none⟩ = some v0 ∧ w1.cell? ⟨b, 1, none⟩ = some v1 ∧ w1.frozen? ⟨b, 0, none⟩ = false ∧ w1.frozen? ⟨b, 1, none⟩ = false := by
  obtain ⟨hc, hf⟩ := bsome hb
  exact ⟨(hc _ _ (by rw [h0]; rfl)).trans h0, (hc _ _ (by rw [h1]; rfl)).trans h1, (hf _ _ (by rw [h0]; rfl)).trans h2, (hf _ _ (by rw [h1]; rfl)).trans h3⟩
theorem new_first {w w1 : World} {a b : Obj} {v0 v1 : Value} {t : TypeId} (hb : Below (((w.alloc a).alloc b).alloc (.cells #[v0, v1] t)).drew.heap.size (((w.alloc a).alloc b).alloc (.cells #[v0, v1] t)).drew w1) :
    w1.cell? ⟨w.heap.size + 1 + 1, 0, none⟩ = some v0 ∧ w1.cell? ⟨w.heap.size + 1 + 1, 1, none⟩ = some v1 ∧ w1.frozen? ⟨w.heap.size + 1 + 1, 0, none⟩ = false ∧ w1.frozen? ⟨w.heap.size + 1 + 1, 1, none⟩ = false :=
  new_var hb _ v0 v1 (by simp [go_sem]) (by simp [go_sem]) (by simp [go_sem]) (by simp [go_sem])
theorem last_cell {W w1 : World} (hb : Below W.heap.size W w1) (o : Nat) : (W.cell? ⟨W.heap.size - 1, o, none⟩).isSome = true → w1.cell? ⟨W.heap.size - 1, o, none⟩ = W.cell? ⟨W.heap.size - 1, o, none⟩ := (bsome hb).1 _ _
theorem last_frozen {W w1 : World} (hb : Below W.heap.size W w1) (o : Nat) : (W.cell? ⟨W.heap.size - 1, o, none⟩).isSome = true → w1.frozen? ⟨W.heap.size - 1, o, none⟩ = W.frozen? ⟨W.heap.size - 1, o, none⟩ := (bsome hb).2 _ _
theorem set1 {W : World} {b i : Nat} {x : Value} (h : (W.cell? ⟨b, i, none⟩).isSome = true) : (W.setCell ⟨b, i, none⟩ x).cell? ⟨b, i, none⟩ = some x := by
  obtain ⟨v, hv⟩ := Option.isSome_iff_exists.1 h
  exact World.cell?_setCell_same _ _ _ hv
theorem set2 {W : World} {b : Nat} {x y : Value} (h0 : (W.cell? ⟨b, 0, none⟩).isSome = true) (h1 : (W.cell? ⟨b, 1, none⟩).isSome = true) :
    ((W.setCell ⟨b, 0, none⟩ x).setCell ⟨b, 1, none⟩ y).cell? ⟨b, 0, none⟩ = some x ∧ ((W.setCell ⟨b, 0, none⟩ x).setCell ⟨b, 1, none⟩ y).cell? ⟨b, 1, none⟩ = some y ∧ b < ((W.setCell ⟨b, 0, none⟩ x).setCell ⟨b, 1, none⟩ y).heap.size := by
  refine ⟨?_, ?_, ?_⟩
  · rw [World.cell?_setCell_other _ _ _ _ (by simp)]; exact set1 h0
  · exact set1 (by rw [World.cell?_setCell_other _ _ _ _ (by simp)]; exact h1)
  · simpa using lt_of_some h0
theorem held_below {w w1 w2 : World} {n1 d1 n2 d2 : Int}
    (s : w1.cell? ⟨w.heap.size, 0, none⟩ = some (.int .i64 n1) ∧ w1.cell? ⟨w.heap.size, 1, none⟩ = some (.int .i64 d1) ∧ w1.cell? ⟨w.heap.size + 1, 0, none⟩ = some (.int .i64 n2) ∧ w1.cell? ⟨w.heap.size + 1, 1, none⟩ = some (.int .i64 d2) ∧ Below w.heap.size w w1 ∧ w.heap.size + 1 < w1.heap.size)
    (hb : Below w1.heap.size w1 w2) :
    w2.cell? ⟨w.heap.size, 0, none⟩ = some (.int .i64 n1) ∧ w2.cell? ⟨w.heap.size, 1, none⟩ = some (.int .i64 d1) ∧ w2.cell? ⟨w.heap.size + 1, 0, none⟩ = some (.int .i64 n2) ∧ w2.cell? ⟨w.heap.size + 1, 1, none⟩ = some (.int .i64 d2) ∧ Below w.heap.size w w2 ∧ w.heap.size + 1 < w2.heap.size := by
  obtain ⟨s0, s1, s2, s3, s4, s5⟩ := s
  obtain ⟨hc, _⟩ := bcell hb
  exact ⟨(hc _ _ (by omega)).trans s0, (hc _ _ (by omega)).trans s1, (hc _ _ s5).trans s2, (hc _ _ s5).trans s3, s4.trans (hb.mono (by omega)), Nat.lt_of_lt_of_le s5 hb.size⟩
theorem below_alloc_drew (w : World) (o : Obj) : Below w.drew.heap.size w.drew (w.alloc o).drew := (Below.refl _ w.drew).alloc (Nat.le_refl _) o
theorem below_alloc (w : World) (o : Obj) : Below w.heap.size w (w.alloc o) := (Below.refl _ _).alloc (Nat.le_refl _) o
theorem held_start (w : World) (n1 d1 n2 d2 : Int) (t : TypeId) :
    ((w.alloc (.cells #[.int .i64 n1, .int .i64 d1] t)).alloc (.cells #[.int .i64 n2, .int .i64 d2] t)).cell? ⟨w.heap.size, 0, none⟩ = some (.int .i64 n1) ∧ ((w.alloc (.cells #[.int .i64 n1, .int .i64 d1] t)).alloc (.cells #[.int .i64 n2, .int .i64 d2] t)).cell? ⟨w.heap.size, 1, none⟩ = some (.int .i64 d1) ∧ ((w.alloc (.cells #[.int .i64 n1, .int .i64 d1] t)).alloc (.cells #[.int .i64 n2, .int .i64 d2] t)).cell? ⟨w.heap.size + 1, 0, none⟩ = some (.int .i64 n2) ∧ ((w.alloc (.cells #[.int .i64 n1, .int .i64 d1] t)).alloc (.cells #[.int .i64 n2, .int .i64 d2] t)).cell? ⟨w.heap.size + 1, 1, none⟩ = some (.int .i64 d2) ∧ Below w.heap.size w ((w.alloc (.cells #[.int .i64 n1, .int .i64 d1] t)).alloc (.cells #[.int .i64 n2, .int .i64 d2] t)) ∧ w.heap.size + 1 < ((w.alloc (.cells #[.int .i64 n1, .int .i64 d1] t)).alloc (.cells #[.int .i64 n2, .int .i64 d2] t)).heap.size :=
  ⟨by simp, by simp, by simp, by simp, ((Below.refl _ _).alloc (Nat.le_refl _) _).alloc (by simp) _, by simp⟩
theorem held_alloc {w w1 : World} {n1 d1 n2 d2 : Int} {o : Obj}
    (s : w1.cell? ⟨w.heap.size, 0, none⟩ = some (.int .i64 n1) ∧ w1.cell? ⟨w.heap.size, 1, none⟩ = some (.int .i64 d1) ∧ w1.cell? ⟨w.heap.size + 1, 0, none⟩ = some (.int .i64 n2) ∧ w1.cell? ⟨w.heap.size + 1, 1, none⟩ = some (.int .i64 d2) ∧ Below w.heap.size w w1 ∧ w.heap.size + 1 < w1.heap.size) :
    (w1.alloc o).cell? ⟨w.heap.size, 0, none⟩ = some (.int .i64 n1) ∧ (w1.alloc o).cell? ⟨w.heap.size, 1, none⟩ = some (.int .i64 d1) ∧ (w1.alloc o).cell? ⟨w.heap.size + 1, 0, none⟩ = some (.int .i64 n2) ∧ (w1.alloc o).cell? ⟨w.heap.size + 1, 1, none⟩ = some (.int .i64 d2) ∧ Below w.heap.size w (w1.alloc o) ∧ w.heap.size + 1 < (w1.alloc o).heap.size := held_below s (below_alloc _ _)
theorem held_drew {w w1 : World} {n1 d1 n2 d2 : Int}
    (s : w1.cell? ⟨w.heap.size, 0, none⟩ = some (.int .i64 n1) ∧ w1.cell? ⟨w.heap.size, 1, none⟩ = some (.int .i64 d1) ∧ w1.cell? ⟨w.heap.size + 1, 0, none⟩ = some (.int .i64 n2) ∧ w1.cell? ⟨w.heap.size + 1, 1, none⟩ = some (.int .i64 d2) ∧ Below w.heap.size w w1 ∧ w.heap.size + 1 < w1.heap.size) :
    w1.drew.cell? ⟨w.heap.size, 0, none⟩ = some (.int .i64 n1) ∧ w1.drew.cell? ⟨w.heap.size, 1, none⟩ = some (.int .i64 d1) ∧ w1.drew.cell? ⟨w.heap.size + 1, 0, none⟩ = some (.int .i64 n2) ∧ w1.drew.cell? ⟨w.heap.size + 1, 1, none⟩ = some (.int .i64 d2) ∧ Below w.heap.size w w1.drew ∧ w.heap.size + 1 < w1.drew.heap.size := held_below s ((Below.refl _ _).drew)
theorem held_set {w w1 : World} {n1 d1 n2 d2 : Int} {b i : Nat} {v : Value}
    (s : w1.cell? ⟨w.heap.size, 0, none⟩ = some (.int .i64 n1) ∧ w1.cell? ⟨w.heap.size, 1, none⟩ = some (.int .i64 d1) ∧ w1.cell? ⟨w.heap.size + 1, 0, none⟩ = some (.int .i64 n2) ∧ w1.cell? ⟨w.heap.size + 1, 1, none⟩ = some (.int .i64 d2) ∧ Below w.heap.size w w1 ∧ w.heap.size + 1 < w1.heap.size)
    (hb : w.heap.size + 1 < b) :
    (w1.setCell ⟨b, i, none⟩ v).cell? ⟨w.heap.size, 0, none⟩ = some (.int .i64 n1) ∧ (w1.setCell ⟨b, i, none⟩ v).cell? ⟨w.heap.size, 1, none⟩ = some (.int .i64 d1) ∧ (w1.setCell ⟨b, i, none⟩ v).cell? ⟨w.heap.size + 1, 0, none⟩ = some (.int .i64 n2) ∧ (w1.setCell ⟨b, i, none⟩ v).cell? ⟨w.heap.size + 1, 1, none⟩ = some (.int .i64 d2) ∧ Below w.heap.size w (w1.setCell ⟨b, i, none⟩ v) ∧ w.heap.size + 1 < (w1.setCell ⟨b, i, none⟩ v).heap.size := by
  obtain ⟨s0, s1, s2, s3, s4, s5⟩ := s
  have hb' : Below b w1 (w1.setCell ⟨b, i, none⟩ v) := (Below.refl b w1).setCell (p := ⟨b, i, none⟩) (Nat.le_refl b) v
  exact ⟨(hb'.cell (p := ⟨_, _, none⟩) (by show w.heap.size < b; omega)).trans s0, (hb'.cell (p := ⟨_, _, none⟩) (by show w.heap.size < b; omega)).trans s1, (hb'.cell (p := ⟨_, _, none⟩) hb).trans s2, (hb'.cell (p := ⟨_, _, none⟩) hb).trans s3, s4.setCell (by show w.heap.size ≤ b; omega) v, by simpa using s5⟩
theorem held2_below {w wc w1 w2 : World} {n1 d1 n2 d2 RN RD : Int} {b : Nat}
    (s : w1.cell? ⟨w.heap.size, 0, none⟩ = some (.int .i64 n1) ∧ w1.cell? ⟨w.heap.size, 1, none⟩ = some (.int .i64 d1) ∧ w1.cell? ⟨w.heap.size + 1, 0, none⟩ = some (.int .i64 n2) ∧ w1.cell? ⟨w.heap.size + 1, 1, none⟩ = some (.int .i64 d2) ∧ w1.cell? ⟨b, 0, none⟩ = some (.int .i64 RN) ∧ w1.cell? ⟨b, 1, none⟩ = some (.int .i64 RD) ∧ Below w.heap.size w w1 ∧ w.heap.size + 1 < w1.heap.size ∧ wc.heap.size ≤ w1.heap.size ∧ b < wc.heap.size)
    (hb : Below w1.heap.size w1 w2) :
    w2.cell? ⟨w.heap.size, 0, none⟩ = some (.int .i64 n1) ∧ w2.cell? ⟨w.heap.size, 1, none⟩ = some (.int .i64 d1) ∧ w2.cell? ⟨w.heap.size + 1, 0, none⟩ = some (.int .i64 n2) ∧ w2.cell? ⟨w.heap.size + 1, 1, none⟩ = some (.int .i64 d2) ∧ w2.cell? ⟨b, 0, none⟩ = some (.int .i64 RN) ∧ w2.cell? ⟨b, 1, none⟩ = some (.int .i64 RD) ∧ Below w.heap.size w w2 ∧ w.heap.size + 1 < w2.heap.size ∧ wc.heap.size ≤ w2.heap.size ∧ b < wc.heap.size := by
  obtain ⟨s0, s1, s2, s3, s4, s5, s6, s7, s8, s9⟩ := s
  obtain ⟨hc, _⟩ := bcell hb
  exact ⟨(hc _ _ (by omega)).trans s0, (hc _ _ (by omega)).trans s1, (hc _ _ s7).trans s2, (hc _ _ s7).trans s3, (hc _ _ (by omega)).trans s4, (hc _ _ (by omega)).trans s5, s6.trans (hb.mono (by omega)), Nat.lt_of_lt_of_le s7 hb.size, Nat.le_trans s8 hb.size, s9⟩
theorem held2_set {w wc w1 : World} {n1 d1 n2 d2 RN RD : Int} {b c i : Nat} {v : Value}
    (s : w1.cell? ⟨w.heap.size, 0, none⟩ = some (.int .i64 n1) ∧ w1.cell? ⟨w.heap.size, 1, none⟩ = some (.int .i64 d1) ∧ w1.cell? ⟨w.heap.size + 1, 0, none⟩ = some (.int .i64 n2) ∧ w1.cell? ⟨w.heap.size + 1, 1, none⟩ = some (.int .i64 d2) ∧ w1.cell? ⟨b, 0, none⟩ = some (.int .i64 RN) ∧ w1.cell? ⟨b, 1, none⟩ = some (.int .i64 RD) ∧ Below w.heap.size w w1 ∧ w.heap.size + 1 < w1.heap.size ∧ wc.heap.size ≤ w1.heap.size ∧ b < wc.heap.size)
    (hx : w.heap.size + 1 < c) (hy : wc.heap.size ≤ c) :
    (w1.setCell ⟨c, i, none⟩ v).cell? ⟨w.heap.size, 0, none⟩ = some (.int .i64 n1) ∧ (w1.setCell ⟨c, i, none⟩ v).cell? ⟨w.heap.size, 1, none⟩ = some (.int .i64 d1) ∧ (w1.setCell ⟨c, i, none⟩ v).cell? ⟨w.heap.size + 1, 0, none⟩ = some (.int .i64 n2) ∧ (w1.setCell ⟨c, i, none⟩ v).cell? ⟨w.heap.size + 1, 1, none⟩ = some (.int .i64 d2) ∧ (w1.setCell ⟨c, i, none⟩ v).cell? ⟨b, 0, none⟩ = some (.int .i64 RN) ∧ (w1.setCell ⟨c, i, none⟩ v).cell? ⟨b, 1, none⟩ = some (.int .i64 RD) ∧ Below w.heap.size w (w1.setCell ⟨c, i, none⟩ v) ∧ w.heap.size + 1 < (w1.setCell ⟨c, i, none⟩ v).heap.size ∧ wc.heap.size ≤ (w1.setCell ⟨c, i, none⟩ v).heap.size ∧ b < wc.heap.size := by
  obtain ⟨s0, s1, s2, s3, s4, s5, s6, s7, s8, s9⟩ := s
  have hb' : Below c w1 (w1.setCell ⟨c, i, none⟩ v) := (Below.refl c w1).setCell (p := ⟨c, i, none⟩) (Nat.le_refl c) v
  have hc : ∀ x o, x < c → (w1.setCell ⟨c, i, none⟩ v).cell? ⟨x, o, none⟩ = w1.cell? ⟨x, o, none⟩ := fun x o h => hb'.cell (p := ⟨x, o, none⟩) h
  exact ⟨(hc _ _ (by omega)).trans s0, (hc _ _ (by omega)).trans s1, (hc _ _ (by omega)).trans s2, (hc _ _ (by omega)).trans s3, (hc _ _ (by omega)).trans s4, (hc _ _ (by omega)).trans s5, s6.setCell (by show w.heap.size ≤ c; omega) v, by simpa using s7, by simpa using s8, s9⟩
end Go.Proofs.Ytebohpgdhbammaa
namespace Go.Proofs.Ytebohpgdhbammaa
open Go.RowKit

/-- All old blocks but 'c' are as they were. -/
structure Kp (c : Nat) (w w' : World) : Prop where
  os : w'.os = w.os
  tape : w'.tape = w.tape
  output : w'.output = w.output
  size : w.heap.size ≤ w'.heap.size
  block : ∀ k, k < w.heap.size → k ≠ c → w'.heap[k]? = w.heap[k]?
theorem Kp.refl (c : Nat) (w : World) : Kp c w w := ⟨rfl, rfl, rfl, Nat.le_refl _, fun _ _ _ => rfl⟩
theorem Kp.trans {c : Nat} {a b d : World} (h : Kp c a b) (k : Kp c b d) : Kp c a d :=
  ⟨k.os.trans h.os, k.tape.trans h.tape, k.output.trans h.output, Nat.le_trans h.size k.size, fun i hi hne => (k.block i (Nat.lt_of_lt_of_le hi h.size) hne).trans (h.block i hi hne)⟩
theorem Kp.of_below {c : Nat} {a b : World} (h : Below a.heap.size a b) : Kp c a b := ⟨h.os, h.tape, h.output, h.size, fun k hk _ => h.block k hk⟩
theorem Kp.below {c B : Nat} {a b : World} (h : Kp c a b) (hB : B ≤ c) (hs : B ≤ a.heap.size) : Below B a b := ⟨h.os, h.tape, h.output, h.size, fun k hk => h.block k (by omega) (by omega)⟩
theorem Kp.cell {c : Nat} {w w' : World} (h : Kp c w w') {b o : Nat} (hb : b < w.heap.size) (hne : b ≠ c) : w'.cell? ⟨b, o, none⟩ = w.cell? ⟨b, o, none⟩ := World.cell?_of_block (w := w) (h.block b hb hne)
theorem Kp.frozen {c : Nat} {w w' : World} (h : Kp c w w') {b o : Nat} (hb : b < w.heap.size) (hne : b ≠ c) : w'.frozen? ⟨b, o, none⟩ = w.frozen? ⟨b, o, none⟩ := World.frozen?_of_block (w := w) (h.block b hb hne)
theorem Kp.drewN {c : Nat} {a w : World} (h : Kp c a w) (n : Nat) : Kp c a (w.drewN n) := ⟨h.os, h.tape, h.output, h.size, h.block⟩
theorem Kp.setCell {c : Nat} {a w : World} (h : Kp c a w) (o : Nat) (v : Value) : Kp c a (w.setCell ⟨c, o, none⟩ v) :=
  ⟨h.os, h.tape, h.output, by simpa using h.size, fun k hk hne => (Below.heap_setCell w ⟨c, o, none⟩ v k hne).trans (h.block k hk hne)⟩

/-- The bytes that the cursor reads lie in old memory. -/
def Bytes (w : World) (a : Option Addr) (len : Nat) : Prop := len = 0 ∨ ∃ b off, a = some ⟨b, off, none⟩ ∧ ∀ i, i < len → ∃ z : Int, w.cell? ⟨b, off + i, none⟩ = some (.int .u8 z) ∧ 0 ≤ z ∧ z ≤ 255
/-- A cursor lies in block c; it has read at most N bytes. -/
def Cur (w : World) (c : Nat) (a : Option Addr) (len cap N : Nat) : Prop :=
  c < w.heap.size ∧ w.cell? ⟨c, 0, none⟩ = some (.slice a len cap) ∧ (∃ at_ : Nat, w.cell? ⟨c, 1, none⟩ = some (.int .i64 at_) ∧ at_ ≤ N) ∧ (∃ s : Int, w.cell? ⟨c, 2, none⟩ = some (.int .u64 s) ∧ 0 ≤ s ∧ s < 18446744073709551616) ∧
  w.frozen? ⟨c, 1, none⟩ = false ∧ w.frozen? ⟨c, 2, none⟩ = false ∧ Bytes w a len ∧ (∀ b off, a = some ⟨b, off, none⟩ → 0 < len → b ≠ c ∧ b < w.heap.size)

theorem u64_bd (x : Int) : 0 ≤ IntKind.u64.wrap x ∧ IntKind.u64.wrap x < 18446744073709551616 := by
  simp [IntKind.wrap, IntKind.bits, IntKind.signed]; omega

theorem and255 (E : Int) (h0 : 0 ≤ E) (h1 : E ≤ 18446744073709551615) : 0 ≤ wrap64 (bits BinOp.and IntKind.u64 E 255) ∧ wrap64 (bits BinOp.and IntKind.u64 E 255) ≤ 255 := by
  have h := bits_and_u64_nat E.toNat 255 (by omega) (by omega)
  rw [show (255 : Nat) = 2 ^ 8 - 1 by decide, Nat.and_two_pow_sub_one_eq_mod, Int.toNat_of_nonneg h0] at h
  have h2 : bits BinOp.and IntKind.u64 E 255 = ((E.toNat % 2 ^ 8 : Nat) : Int) := h
  rw [h2, wrap_id _ (by omega) (by omega)]
  omega

set_option maxRecDepth 100000 in
set_option maxHeartbeats 1000000 in
theorem next_in (c b off len cap at_ : Nat) (s z : Int) (w : World) (h0 : w.cell? ⟨c, 0, none⟩ = some (.slice (some ⟨b, off, none⟩) len cap)) (h1 : w.cell? ⟨c, 1, none⟩ = some (.int .i64 at_)) (h2 : w.cell? ⟨c, 2, none⟩ = some (.int .u64 s))
    (f1 : w.frozen? ⟨c, 1, none⟩ = false) (f2 : w.frozen? ⟨c, 2, none⟩ = false) (hN : at_ ≤ 1000000000) (hlt : at_ < len) (hz : w.cell? ⟨b, off + at_, none⟩ = some (.int .u8 z)) (z0 : 0 ≤ z) (z1 : z ≤ 255) :
    Calls Try.prog 51 #[.pointer (some ⟨c, 0, none⟩)] w fun e w' => e = .returned (.int .i64 z) ∧ ∃ k k' s', 0 ≤ s' ∧ s' < 18446744073709551616 ∧ w' = ((((w.drewN k).setCell ⟨c, 1, none⟩ (.int .i64 ((at_ : Int) + 1))).setCell ⟨c, 2, none⟩ (.int .u64 s')).drewN k') := by
  have i0 : (0 : Int) ≤ (at_ : Int) := by omega
  have i1 : (at_ : Int) < (len : Int) := by omega
  go_enter Try.func51, Try.ntmps51
  go_wp2
  go_quiet (fail)
  go_wp2
  go_quiet (fail)
  go_wp2
  go_quiet (fail)
  go_wp2
  go_ret
  exact ⟨rfl, _, _, _, (u64_bd _).1, (u64_bd _).2, rfl⟩

set_option maxRecDepth 100000 in
set_option maxHeartbeats 1000000 in
theorem next_out (c len cap at_ : Nat) (a : Option Addr) (s : Int) (w : World) (h0 : w.cell? ⟨c, 0, none⟩ = some (.slice a len cap)) (h1 : w.cell? ⟨c, 1, none⟩ = some (.int .i64 at_)) (h2 : w.cell? ⟨c, 2, none⟩ = some (.int .u64 s))
    (f1 : w.frozen? ⟨c, 1, none⟩ = false) (f2 : w.frozen? ⟨c, 2, none⟩ = false) (hN : at_ ≤ 1000000000) (hlt : len ≤ at_) :
    Calls Try.prog 51 #[.pointer (some ⟨c, 0, none⟩)] w fun e w' => ∃ z : Int, e = .returned (.int .i64 z) ∧ 0 ≤ z ∧ z ≤ 255 ∧ ∃ k k' s', 0 ≤ s' ∧ s' < 18446744073709551616 ∧ w' = ((((w.drewN k).setCell ⟨c, 1, none⟩ (.int .i64 ((at_ : Int) + 1))).setCell ⟨c, 2, none⟩ (.int .u64 s')).drewN k') := by
  have i1 : ¬ (at_ : Int) < (len : Int) := by omega
  have i2 : ¬ (at_ : Int) + 1 ≤ (len : Int) := by omega
  go_enter Try.func51, Try.ntmps51
  go_wp2
  go_quiet (fail)
  go_wp2
  go_quiet (fail)
  go_wp2
  have hq := u64_bd (IntKind.u64.wrap (IntKind.u64.wrap (s * 6364136223846793005)) + 1442695040888963407)
  have hb := and255 (IntKind.u64.wrap (IntKind.u64.wrap (IntKind.u64.wrap (s * 6364136223846793005)) + 1442695040888963407) / 1099511627776) (by omega) (by omega)
  go_ret
  exact ⟨_, rfl, hb.1, hb.2, _, _, _, hq.1, hq.2, rfl⟩

/-- What 'next' leaves behind. -/
theorem cur_next {c len cap at_ N k k' : Nat} {a : Option Addr} {s' : Int} {w : World} (hc : Cur w c a len cap N) (hN : at_ ≤ N) (hs0 : 0 ≤ s') (hs1 : s' < 18446744073709551616) :
    Cur ((((w.drewN k).setCell ⟨c, 1, none⟩ (.int .i64 ((at_ : Int) + 1))).setCell ⟨c, 2, none⟩ (.int .u64 s')).drewN k') c a len cap (N + 1) ∧ Kp c w ((((w.drewN k).setCell ⟨c, 1, none⟩ (.int .i64 ((at_ : Int) + 1))).setCell ⟨c, 2, none⟩ (.int .u64 s')).drewN k') := by
  obtain ⟨h0, h1, ⟨x, h2, _⟩, ⟨y, h3, _, _⟩, h4, h5, h6, h7⟩ := hc
  have hk : Kp c w ((((w.drewN k).setCell ⟨c, 1, none⟩ (.int .i64 ((at_ : Int) + 1))).setCell ⟨c, 2, none⟩ (.int .u64 s')).drewN k') := ((((Kp.refl c w).drewN k).setCell _ _).setCell _ _).drewN k'
  refine ⟨⟨?_, ?_, ⟨at_ + 1, ?_, by omega⟩, ⟨s', ?_, hs0, hs1⟩, ?_, ?_, ?_, ?_⟩, hk⟩
  · exact Nat.lt_of_lt_of_le h0 hk.size
  · simpa [go_sem] using h1
  · simp [go_sem, h2]
  · simp [go_sem, h3]
  · simpa [go_sem] using h4
  · simpa [go_sem] using h5
  · rcases h6 with h | ⟨b, off, rfl, hb⟩
    · exact Or.inl h
    · refine Or.inr ⟨b, off, rfl, fun i hi => ?_⟩
      obtain ⟨hne, hlt⟩ := h7 b off rfl (by omega)
      obtain ⟨z, hz, hz'⟩ := hb i hi
      exact ⟨z, (hk.cell hlt hne).trans hz, hz'⟩
  · intro b off e hl
    obtain ⟨hne, hlt⟩ := h7 b off e hl
    exact ⟨hne, Nat.lt_of_lt_of_le hlt hk.size⟩

theorem next_any {c len cap N : Nat} {a : Option Addr} {w : World} (hc : Cur w c a len cap N) (hN : N ≤ 1000000000) :
    Calls Try.prog 51 #[.pointer (some ⟨c, 0, none⟩)] w fun e w' => ∃ z : Int, e = .returned (.int .i64 z) ∧ 0 ≤ z ∧ z ≤ 255 ∧ Cur w' c a len cap (N + 1) ∧ Kp c w w' := by
  have hc' := hc
  obtain ⟨h0, h1, ⟨at_, h2, h2'⟩, ⟨y, h3, h3', h3''⟩, h4, h5, h6, h7⟩ := hc
  by_cases hlt : at_ < len
  · rcases h6 with h | ⟨b, off, rfl, hb⟩
    · omega
    · obtain ⟨z, hz, z0, z1⟩ := hb at_ hlt
      refine (next_in c b off len cap at_ y z w h1 h2 h3 h4 h5 (by omega) hlt hz z0 z1).mono ?_
      rintro e w' ⟨rfl, k, k', s', s0, s1, rfl⟩
      exact ⟨z, rfl, z0, z1, cur_next hc' h2' s0 s1⟩
  · refine (next_out c len cap at_ a y w h1 h2 h3 h4 h5 (by omega) (by omega)).mono ?_
    rintro e w' ⟨z, rfl, z0, z1, k, k', s', s0, s1, rfl⟩
    exact ⟨z, rfl, z0, z1, cur_next hc' h2' s0 s1⟩
end Go.Proofs.Ytebohpgdhbammaa
namespace Go.Proofs.Ytebohpgdhbammaa
open Go.RowKit

theorem Cur.below {w w' : World} {c len cap N : Nat} {a : Option Addr} (h : Cur w c a len cap N) (hb : Below w.heap.size w w') : Cur w' c a len cap N := by
  obtain ⟨h0, h1, ⟨x, h2, h2'⟩, ⟨y, h3, h3', h3''⟩, h4, h5, h6, h7⟩ := h
  obtain ⟨hc, hf⟩ := bcell hb
  refine ⟨Nat.lt_of_lt_of_le h0 hb.size, (hc _ _ h0).trans h1, ⟨x, (hc _ _ h0).trans h2, h2'⟩, ⟨y, (hc _ _ h0).trans h3, h3', h3''⟩, (hf _ _ h0).trans h4, (hf _ _ h0).trans h5, ?_, ?_⟩
  · rcases h6 with h | ⟨b, off, rfl, hbb⟩
    · exact Or.inl h
    · refine Or.inr ⟨b, off, rfl, fun i hi => ?_⟩
      obtain ⟨hne, hlt⟩ := h7 b off rfl (by omega)
      obtain ⟨z, hz, hz'⟩ := hbb i hi
      exact ⟨z, (hc _ _ hlt).trans hz, hz'⟩
  · intro b off e hl
    obtain ⟨hne, hlt⟩ := h7 b off e hl
    exact ⟨hne, Nat.lt_of_lt_of_le hlt hb.size⟩
theorem Cur.le {w : World} {c len cap N M : Nat} {a : Option Addr} (h : Cur w c a len cap N) (hNM : N ≤ M) : Cur w c a len cap M := by
  obtain ⟨h0, h1, ⟨x, h2, h2'⟩, h3, h4, h5, h6, h7⟩ := h
  exact ⟨h0, h1, ⟨x, h2, by omega⟩, h3, h4, h5, h6, h7⟩

set_option maxRecDepth 100000 in
set_option maxHeartbeats 400000 in
theorem pick_one {c len cap N : Nat} {a : Option Addr} {w : World} (n : Int) (h : n ≤ 1) (hc : Cur w c a len cap N) :
    Calls Try.prog 27 #[.pointer (some ⟨c, 0, none⟩), .int .i64 n] w fun e w' => ∃ r : Int, e = .returned (.int .i64 r) ∧ 0 ≤ r ∧ (r < n ∨ r = 0) ∧ Cur w' c a len cap (N + 2) ∧ Kp c w w' := by
  have HC := hide hc
  clear hc
  go_enter Try.func27, Try.ntmps27
  go_wp2_with fail
  go_ret
  exact ⟨0, rfl, by omega, by omega, HC.out.le (by omega), Kp.refl _ _⟩

set_option maxRecDepth 100000 in
set_option maxHeartbeats 400000 in
theorem pick_mid {c len cap N : Nat} {a : Option Addr} {w : World} (n : Int) (h0 : 1 < n) (h1 : n ≤ 200) (hc : Cur w c a len cap N) (hN : N ≤ 900000000) :
    Calls Try.prog 27 #[.pointer (some ⟨c, 0, none⟩), .int .i64 n] w fun e w' => ∃ r : Int, e = .returned (.int .i64 r) ∧ 0 ≤ r ∧ (r < n ∨ r = 0) ∧ Cur w' c a len cap (N + 2) ∧ Kp c w w' := by
  have HC := hide hc
  clear hc
  have h2 : ¬ n ≤ 1 := by omega
  have h3 : ¬ 200 < n := by omega
  have hne : (n == 0) = false := by simp; omega
  go_enter Try.func27, Try.ntmps27
  go_wp2_with fail
  refine (next_any HC.out (by omega)).mono ?_
  rintro e w1 ⟨z, rfl, z0, z1, hc1, hk1⟩
  have HC1 := hide hc1
  clear hc1
  have hr0 := Int.emod_nonneg z (show n ≠ 0 by omega)
  have hr1 := Int.emod_lt_of_pos z (show 0 < n by omega)
  go_wp2_with fail
  go_ret
  exact ⟨_, rfl, hr0, Or.inl hr1, HC1.out.le (by omega), hk1⟩

set_option maxRecDepth 100000 in
set_option maxHeartbeats 400000 in
theorem pick_big {c len cap N : Nat} {a : Option Addr} {w : World} (n : Int) (h0 : 200 < n) (h1 : n ≤ 1000000000) (hc : Cur w c a len cap N) (hN : N ≤ 900000000) :
    Calls Try.prog 27 #[.pointer (some ⟨c, 0, none⟩), .int .i64 n] w fun e w' => ∃ r : Int, e = .returned (.int .i64 r) ∧ 0 ≤ r ∧ (r < n ∨ r = 0) ∧ Cur w' c a len cap (N + 2) ∧ Kp c w w' := by
  have HC := hide hc
  clear hc
  have h2 : ¬ n ≤ 1 := by omega
  have hne : (n == 0) = false := by simp; omega
  go_enter Try.func27, Try.ntmps27
  go_wp2_with fail
  refine (next_any HC.out (by omega)).mono ?_
  rintro e w1 ⟨z, rfl, z0, z1, hc1, hk1⟩
  have HC1 := hide hc1
  clear hc1
  go_wp2_with fail
  refine (next_any HC1.out (by omega)).mono ?_
  rintro e w2 ⟨y, rfl, y0, y1, hc2, hk2⟩
  have HC2 := hide hc2
  clear hc2
  have hr0 := Int.emod_nonneg (z * 256 + y) (show n ≠ 0 by omega)
  have hr1 := Int.emod_lt_of_pos (z * 256 + y) (show 0 < n by omega)
  go_wp2_with fail
  go_ret
  exact ⟨_, rfl, hr0, Or.inl hr1, HC2.out, hk1.trans hk2⟩

theorem pick_any {c len cap N : Nat} {a : Option Addr} {w : World} (n : Int) (h1 : n ≤ 1000000000) (hc : Cur w c a len cap N) (hN : N ≤ 900000000) :
    Calls Try.prog 27 #[.pointer (some ⟨c, 0, none⟩), .int .i64 n] w fun e w' => ∃ r : Int, e = .returned (.int .i64 r) ∧ 0 ≤ r ∧ (r < n ∨ r = 0) ∧ Cur w' c a len cap (N + 2) ∧ Kp c w w' := by
  by_cases ha : n ≤ 1
  · exact pick_one n ha hc
  · by_cases hb : n ≤ 200
    · exact pick_mid n (by omega) hb hc hN
    · exact pick_big n (by omega) h1 hc hN

set_option maxRecDepth 100000 in
set_option maxHeartbeats 400000 in
theorem one_any {c len cap N : Nat} {a : Option Addr} {w : World} (n : Int) (h1 : n ≤ 1000000000) (hc : Cur w c a len cap N) (hN : N ≤ 900000000) :
    Calls Try.prog 26 #[.pointer (some ⟨c, 0, none⟩), .int .i64 n] w fun e w' => ∃ r : Bool, e = .returned (.bool r) ∧ Cur w' c a len cap (N + 2) ∧ Kp c w w' := by
  have HC := hide hc
  clear hc
  go_enter Try.func26, Try.ntmps26
  go_wp2_with fail
  refine (pick_any n h1 HC.out hN).mono ?_
  rintro e w1 ⟨r, rfl, r0, r1, hc1, hk1⟩
  go_wp2_with fail
  go_ret
  exact ⟨_, rfl, hc1, hk1⟩

set_option maxRecDepth 100000 in
set_option maxHeartbeats 400000 in
theorem among_any {c len cap N b l k : Nat} {a : Option Addr} {w : World} (hc : Cur w c a len cap N) (hN : N ≤ 900000000) (hl : 0 < l) (hl1 : l ≤ 1000000) (hb : b < w.heap.size) (hne : b ≠ c)
    (hz : ∀ i, i < l → ∃ z : Int, w.cell? ⟨b, i, none⟩ = some (.int .i64 z)) :
    Calls Try.prog 28 #[.pointer (some ⟨c, 0, none⟩), .slice (some ⟨b, 0, none⟩) l k] w fun e w' => ∃ r : Int, e = .returned (.int .i64 r) ∧ Cur w' c a len cap (N + 2) ∧ Kp c w w' := by
  have HC := hide hc
  have HZ := hide hz
  clear hc hz
  go_enter Try.func28, Try.ntmps28
  go_wp2_with fail
  refine (pick_any (l : Int) (by omega) HC.out hN).mono ?_
  rintro e w1 ⟨r, rfl, r0, r1, hc1, hk1⟩
  have HC1 := hide hc1
  clear hc1
  obtain ⟨i, rfl⟩ := Int.eq_ofNat_of_zero_le r0
  have hi : i < l := by omega
  have hi' : (i : Int) < (l : Int) := by omega
  obtain ⟨z, hcell⟩ := HZ.out i hi
  have hcell' : w1.cell? ⟨b, i, none⟩ = some (.int .i64 z) := (hk1.cell hb hne).trans hcell
  clear r1
  go_wp2_with fail
  go_ret
  exact ⟨_, rfl, HC1.out, hk1⟩
end Go.Proofs.Ytebohpgdhbammaa
namespace Go.Proofs.Ytebohpgdhbammaa
open Go.RowKit

theorem Kp.alloc {c : Nat} {a w : World} (h : Kp c a w) (o : Obj) : Kp c a (w.alloc o) := h.trans (Kp.of_below (below_alloc w o))
theorem Kp.setNew {c B : Nat} {a w : World} (h : Kp c a w) (hB : a.heap.size ≤ B) (o : Nat) (v : Value) : Kp c a (w.setCell ⟨B, o, none⟩ v) :=
  ⟨h.os, h.tape, h.output, by simpa using h.size, fun k hk hne => (Below.heap_setCell w ⟨B, o, none⟩ v k (by show k ≠ B; omega)).trans (h.block k hk hne)⟩
theorem Cur.set {w : World} {c len cap N B o : Nat} {a : Option Addr} {v : Value} (h : Cur w c a len cap N) (hB : B ≠ c) (hb : ∀ b off, a = some ⟨b, off, none⟩ → 0 < len → b ≠ B) : Cur (w.setCell ⟨B, o, none⟩ v) c a len cap N := by
  obtain ⟨h0, h1, ⟨x, h2, h2'⟩, ⟨y, h3, h3', h3''⟩, h4, h5, h6, h7⟩ := h
  have hc : ∀ i j, i ≠ B → (w.setCell ⟨B, o, none⟩ v).cell? ⟨i, j, none⟩ = w.cell? ⟨i, j, none⟩ := fun i j hi => World.cell?_of_block (w := w) (Below.heap_setCell w ⟨B, o, none⟩ v i hi)
  have hf : ∀ x, (w.setCell ⟨B, o, none⟩ v).frozen? x = w.frozen? x := fun x => World.frozen?_setCell _ _ _ _
  refine ⟨by simpa using h0, (hc _ _ (Ne.symm hB)).trans h1, ⟨x, (hc _ _ (Ne.symm hB)).trans h2, h2'⟩, ⟨y, (hc _ _ (Ne.symm hB)).trans h3, h3', h3''⟩, (hf _).trans h4, (hf _).trans h5, ?_, ?_⟩
  · rcases h6 with h | ⟨b, off, rfl, hbb⟩
    · exact Or.inl h
    · refine Or.inr ⟨b, off, rfl, fun i hi => ?_⟩
      obtain ⟨z, hz, hz'⟩ := hbb i hi
      exact ⟨z, (hc _ _ (hb b off rfl (by omega))).trans hz, hz'⟩
  · intro b off e hl
    obtain ⟨hne, hlt⟩ := h7 b off e hl
    exact ⟨hne, by simpa using hlt⟩
theorem Kp.var {c : Nat} {W w1 : World} (hk : Kp c W w1) (b : Nat) (hb : b < W.heap.size) (hne : b ≠ c) (v0 v1 : Value) (h0 : W.cell? ⟨b, 0, none⟩ = some v0) (h1 : W.cell? ⟨b, 1, none⟩ = some v1) (h2 : W.frozen? ⟨b, 0, none⟩ = false) (h3 : W.frozen? ⟨b, 1, none⟩ = false) :
    w1.cell? ⟨b, 0, none⟩ = some v0 ∧ w1.cell? ⟨b, 1, none⟩ = some v1 ∧ w1.frozen? ⟨b, 0, none⟩ = false ∧ w1.frozen? ⟨b, 1, none⟩ = false :=
  ⟨(hk.cell hb hne).trans h0, (hk.cell hb hne).trans h1, (hk.frozen hb hne).trans h2, (hk.frozen hb hne).trans h3⟩
theorem six_cells (w : World) (t : TypeId) (z0 z1 z2 z3 z4 z5 : Int) : ∀ i, i < 6 → ∃ z : Int, (w.alloc (.cells #[.int .i64 z0, .int .i64 z1, .int .i64 z2, .int .i64 z3, .int .i64 z4, .int .i64 z5] t)).cell? ⟨w.heap.size, i, none⟩ = some (.int .i64 z) := by
  intro i hi
  have : i = 0 ∨ i = 1 ∨ i = 2 ∨ i = 3 ∨ i = 4 ∨ i = 5 := by omega
  rcases this with rfl | rfl | rfl | rfl | rfl | rfl
  · exact ⟨z0, by simp⟩
  · exact ⟨z1, by simp⟩
  · exact ⟨z2, by simp⟩
  · exact ⟨z3, by simp⟩
  · exact ⟨z4, by simp⟩
  · exact ⟨z5, by simp⟩

/-- Bytes that were handed in: they lie in old memory. -/
def Src (w : World) (a : Option Addr) (len : Nat) : Prop := Bytes w a len ∧ ∀ b off, a = some ⟨b, off, none⟩ → 0 < len → b < w.heap.size
theorem Src.below {w w' : World} {a : Option Addr} {len : Nat} (h : Src w a len) (hb : Below w.heap.size w w') : Src w' a len := by
  obtain ⟨h6, h7⟩ := h
  obtain ⟨hc, _⟩ := bcell hb
  refine ⟨?_, fun b off e hl => Nat.lt_of_lt_of_le (h7 b off e hl) hb.size⟩
  rcases h6 with h | ⟨b, off, rfl, hbb⟩
  · exact Or.inl h
  · refine Or.inr ⟨b, off, rfl, fun i hi => ?_⟩
    obtain ⟨z, hz, hz'⟩ := hbb i hi
    exact ⟨z, (hc _ _ (h7 b off rfl (by omega))).trans hz, hz'⟩
theorem cur_new {w : World} {a : Option Addr} {len cap : Nat} (h : Src w a len) : Cur (w.alloc (.cells #[.slice a len cap, .int .i64 0, .int .u64 0] 45)) w.heap.size a len cap 0 := by
  have h' := h.below (below_alloc w (.cells #[.slice a len cap, .int .i64 0, .int .u64 0] 45))
  exact ⟨by simp, by simp, ⟨0, by simp, Nat.le_refl _⟩, ⟨0, by simp, by omega, by omega⟩, by simp [go_sem], by simp [go_sem], h'.1, fun b off e hl => ⟨by have := h.2 b off e hl; omega, h'.2 b off e hl⟩⟩

end Go.Proofs.Ytebohpgdhbammaa
namespace Go.Proofs.Ytebohpgdhbammaa
open Go.RowKit

def ints (xs : List Int) : List Value := xs.map fun x => .int .i64 x
theorem ints_len (xs : List Int) : (ints xs).length = xs.length := by simp [ints]
theorem ints_snoc (xs : List Int) (x : Int) : ints (xs ++ [x]) = ints xs ++ [.int .i64 x] := by simp [ints]
theorem ints_get (xs : List Int) (j : Nat) (h : j < xs.length) : (ints xs)[j]? = some (.int .i64 (xs.getD j 0)) := by
  simp [ints, h]
theorem ints_set (xs : List Int) (j : Nat) (x : Int) : (ints xs).set j (.int .i64 x) = ints (xs.set j x) := by simp [ints, List.map_set]

/-- A slice of whole numbers, as it lies in memory. -/
def IRow (w : World) (v : Value) (xs : List Int) : Prop :=
  (xs = [] ∧ ∃ a c, v = .slice a 0 c) ∨ ∃ b o c, v = .slice (some ⟨b, o, none⟩) xs.length c ∧ b < w.heap.size ∧ ∀ i, i < xs.length → w.cell? ⟨b, o + i, none⟩ = some (.int .i64 (xs.getD i 0))
theorem IRow.below {w w' : World} {v : Value} {xs : List Int} (h : IRow w v xs) (hb : Below w.heap.size w w') : IRow w' v xs := by
  rcases h with h | ⟨b, o, c, hv, hlt, hc⟩
  · exact Or.inl h
  · exact Or.inr ⟨b, o, c, hv, Nat.lt_of_lt_of_le hlt hb.size, fun i hi => (hb.cell (p := ⟨b, o + i, none⟩) hlt).trans (hc i hi)⟩
theorem irow_owns {w : World} {base e : Nat} {v : Value} {xs : List Int} (h : w.ownsRow base e 1 v xs.length (ints xs)) : IRow w v xs := by
  rcases h.2 with ⟨hv, hn⟩ | ⟨g, cap, cur, hv, hb, hg, r⟩
  · exact Or.inl ⟨List.length_eq_zero_iff.1 hn, none, 0, hn ▸ hv⟩
  · subst hv
    refine Or.inr ⟨g, 0, cap, rfl, (Array.getElem?_eq_some_iff.1 hg).1, fun i hi => ?_⟩
    rw [Nat.zero_add, h.cellAt i (by simpa using hi), ints_get xs i hi]
end Go.Proofs.Ytebohpgdhbammaa
namespace Go.Proofs.Ytebohpgdhbammaa.Rk
open Go.Sort

/-- The value of the good with number i. -/
def val (vs : List Int) (i : Nat) : Int := vs.getD i 0
/-- Inserted ahead of the first one that is less. -/
def insL (vs : List Int) (i : Nat) : List Nat → List Nat
  | [] => [i]
  | x :: r => if val vs x ≥ val vs i then x :: insL vs i r else i :: x :: r
/-- The first k numbers, ranked. -/
def upto (vs : List Int) : Nat → List Nat
  | 0 => []
  | k + 1 => insL vs k (upto vs k)
def rank (vs : List Int) : List Nat := upto vs vs.length

theorem insL_len (vs : List Int) (i : Nat) : ∀ l, (insL vs i l).length = l.length + 1
  | [] => rfl
  | x :: r => by unfold insL; split <;> simp [insL_len vs i r]
theorem upto_len (vs : List Int) : ∀ k, (upto vs k).length = k
  | 0 => rfl
  | k + 1 => by rw [upto, insL_len, upto_len vs k]
theorem rank_len (vs : List Int) : (rank vs).length = vs.length := upto_len _ _
theorem insL_perm (vs : List Int) (i : Nat) : ∀ l, (insL vs i l).Perm (i :: l)
  | [] => List.Perm.refl _
  | x :: r => by
    unfold insL; split
    · exact ((insL_perm vs i r).cons x).trans (List.Perm.swap i x r)
    · exact List.Perm.refl _
theorem upto_perm (vs : List Int) : ∀ k, (upto vs k).Perm (List.range k)
  | 0 => List.Perm.refl _
  | k + 1 => by
    rw [upto, List.range_succ]
    exact ((insL_perm vs k _).trans ((upto_perm vs k).cons k)).trans (List.perm_append_singleton k (List.range k)).symm
theorem rank_perm (vs : List Int) : (rank vs).Perm (List.range vs.length) := upto_perm _ _
theorem upto_mem {vs : List Int} {k x : Nat} (h : x ∈ upto vs k) : x < k := by simpa using (upto_perm vs k).mem_iff.1 h
theorem rank_mem {vs : List Int} {x : Nat} (h : x ∈ rank vs) : x < vs.length := upto_mem h
theorem mem_insL {vs : List Int} {i x : Nat} {l : List Nat} : x ∈ insL vs i l ↔ x = i ∨ x ∈ l := by
  rw [(insL_perm vs i l).mem_iff, List.mem_cons]

/-- From the greatest one down. -/
def Down (vs : List Int) (l : List Nat) : Prop := l.Pairwise fun a b => val vs a ≥ val vs b
theorem insL_down (vs : List Int) (i : Nat) : ∀ l, Down vs l → Down vs (insL vs i l)
  | [], _ => by simp [insL, Down]
  | x :: r, h => by
    have h' := List.pairwise_cons.1 h
    unfold insL; split
    · rename_i hx
      refine List.pairwise_cons.2 ⟨fun y hy => ?_, insL_down vs i r h'.2⟩
      rcases mem_insL.1 hy with rfl | hy
      · exact hx
      · exact h'.1 y hy
    · rename_i hx
      refine List.pairwise_cons.2 ⟨fun y hy => ?_, h⟩
      rcases List.mem_cons.1 hy with rfl | hy
      · omega
      · have := h'.1 y hy; omega
theorem upto_down (vs : List Int) : ∀ k, Down vs (upto vs k)
  | 0 => List.Pairwise.nil
  | k + 1 => insL_down vs k _ (upto_down vs k)
theorem rank_down (vs : List Int) : Down vs (rank vs) := upto_down _ _

/-- Of alike ones the first one first. -/
def Stays (vs : List Int) (l : List Nat) : Prop := l.Pairwise fun a b => val vs a > val vs b ∨ (val vs a = val vs b ∧ a < b)
theorem insL_stays (vs : List Int) (i : Nat) : ∀ l, (∀ x ∈ l, x < i) → Stays vs l → Stays vs (insL vs i l)
  | [], _, _ => by simp [insL, Stays]
  | x :: r, hl, h => by
    have h' := List.pairwise_cons.1 h
    unfold insL; split
    · rename_i hx
      refine List.pairwise_cons.2 ⟨fun y hy => ?_, insL_stays vs i r (fun z hz => hl z (List.mem_cons_of_mem _ hz)) h'.2⟩
      rcases mem_insL.1 hy with rfl | hy
      · have := hl x (List.mem_cons_self ..); omega
      · exact h'.1 y hy
    · rename_i hx
      refine List.pairwise_cons.2 ⟨fun y hy => ?_, h⟩
      rcases List.mem_cons.1 hy with rfl | hy
      · left; omega
      · have := h'.1 y hy; left; omega
theorem upto_stays (vs : List Int) : ∀ k, Stays vs (upto vs k)
  | 0 => List.Pairwise.nil
  | k + 1 => insL_stays vs k _ (fun _ hx => upto_mem hx) (upto_stays vs k)
theorem rank_stays (vs : List Int) : Stays vs (rank vs) := upto_stays _ _

/-- Where it is inserted. -/
theorem insL_at (vs : List Int) (i : Nat) : ∀ (l : List Nat) (k : Nat), k ≤ l.length → (∀ j, j < k → val vs (l.getD j 0) ≥ val vs i) → (k < l.length → val vs (l.getD k 0) < val vs i) → insL vs i l = l.take k ++ i :: l.drop k
  | [], k, hk, _, _ => by simp at hk; subst hk; rfl
  | x :: r, 0, _, _, h2 => by
    have := h2 (by simp)
    unfold insL; rw [if_neg (by simpa using this)]; rfl
  | x :: r, k + 1, hk, h1, h2 => by
    have := h1 0 (by omega)
    unfold insL; rw [if_pos (by simpa using this), insL_at vs i r k (by simpa using hk) (fun j hj => by simpa using h1 (j + 1) (by omega)) (fun h => by simpa using h2 (by simpa using h))]
    rfl

/-- Of a list that goes down, inserted from behind. -/
theorem insL_behind (vs : List Int) (i : Nat) : ∀ (l : List Nat) (p : Nat), Down vs (l ++ [p]) → insL vs i (l ++ [p]) = if val vs i > val vs p then insL vs i l ++ [p] else l ++ [p, i]
  | [], p, _ => by
    simp only [List.nil_append, insL]
    split <;> split <;> first | rfl | omega
  | x :: r, p, h => by
    have h' := List.pairwise_cons.1 h
    have hp := h'.1 p (by simp)
    have ih := insL_behind vs i r p h'.2
    simp only [List.cons_append, insL]
    split
    · rename_i hx
      rw [ih]; split <;> rfl
    · rename_i hx
      rw [if_pos (by omega)]; rfl

/-- The comparison by which the program sorts: a ahead of b, where a's value is greater. -/
def lt (vs : List Int) (m : Nat) (a b : Fin (m + 1)) : Bool := decide (val vs b < val vs a)
def arr (m : Nat) (l : List (Fin (m + 1))) : Array (Fin (m + 1)) := l.toArray

theorem swp_list {α : Type} [Inhabited α] (A : List α) (p x : α) (S : List α) : swp (A ++ p :: x :: S).toArray (A.length + 1) A.length = (A ++ x :: p :: S).toArray := by
  unfold swp
  simp

theorem get_list {α : Type} [Inhabited α] (A : List α) (p : α) (S : List α) : (A ++ p :: S).toArray[A.length]! = p := by simp

def vals (m : Nat) (l : List (Fin (m + 1))) : List Nat := l.map (·.val)

theorem inner (vs : List Int) (m : Nat) (i : Fin (m + 1)) : ∀ (n : Nat) (A S : List (Fin (m + 1))), A.length = n → Down vs (vals m A) → ∃ B, insInner (lt vs m) 0 n (A ++ i :: S).toArray = (B ++ S).toArray ∧ vals m B = insL vs i.val (vals m A)
  | 0, A, S, hn, _ => by
    obtain rfl := List.length_eq_zero_iff.1 hn
    exact ⟨[i], rfl, rfl⟩
  | n + 1, A, S, hn, hd => by
    obtain ⟨A', p, rfl⟩ : ∃ A' p, A = A' ++ [p] := ⟨A.dropLast, A.getLast (by intro e; simp [e] at hn), (List.dropLast_concat_getLast _).symm⟩
    have hA' : A'.length = n := by simpa using hn
    have e1 : vals m (A' ++ [p]) = vals m A' ++ [p.val] := by simp [vals]
    have hd' : Down vs (vals m A') := by
      rw [e1] at hd; exact (List.pairwise_append.1 hd).1
    rw [e1, insL_behind vs i.val _ _ (e1 ▸ hd)]
    have g1 : (A' ++ [p] ++ i :: S).toArray[n + 1]! = i := by
      have := get_list (A' ++ [p]) i S
      rw [hn] at this
      exact this
    have g2 : (A' ++ [p] ++ i :: S).toArray[n]! = p := by
      have := get_list A' p (i :: S)
      rw [List.append_assoc]
      rw [hA'] at this
      exact this
    rw [insInner, g1, g2]
    by_cases h : val vs p.val < val vs i.val
    · have hl : lt vs m i p = true := decide_eq_true h
      rw [if_pos (by simp [hl]), if_pos h]
      have hs : swp (A' ++ [p] ++ i :: S).toArray (n + 1) n = (A' ++ i :: p :: S).toArray := by
        have := swp_list A' p i S
        rw [hA'] at this
        rw [List.append_assoc]
        exact this
      rw [hs]
      obtain ⟨B, hB, hv⟩ := inner vs m i n A' (p :: S) hA' hd'
      exact ⟨B ++ [p], by rw [hB, List.append_assoc]; rfl, by simp [vals] at hv ⊢; exact hv⟩
    · have hl : lt vs m i p = false := decide_eq_false h
      rw [if_neg (by simp [hl]), if_neg (by omega)]
      exact ⟨A' ++ [p, i], by simp, by simp [vals]⟩

/-- The whole sort of the numbers 0, 1, .. m. -/
theorem outer (vs : List Int) (m : Nat) : ∀ (r k : Nat) (A S : List (Fin (m + 1))), A.length = k → vals m A = upto vs k → vals m S = (List.range' k (m + 1 - k)) → k ≤ m + 1 → m + 1 - k = r →
    ∃ B, insOuter (lt vs m) 0 (m + 1) k (A ++ S).toArray = B.toArray ∧ vals m B = upto vs (m + 1)
  | 0, k, A, S, hA, hv, hS, hk, hr => by
    have e : k = m + 1 := by omega
    subst e
    rw [insOuter_stop _ _ _ _ _ (by omega)]
    have : S = [] := by simpa [vals] using hS
    subst this
    exact ⟨A, by simp, hv⟩
  | r + 1, k, A, S, hA, hv, hS, hk, hr => by
    have hlt : k < m + 1 := by omega
    rw [insOuter_go _ _ _ _ _ hlt]
    have e : m + 1 - k = (m + 1 - (k + 1)) + 1 := by omega
    rw [e, List.range'_succ] at hS
    obtain ⟨s, S', rfl⟩ : ∃ s S', S = s :: S' := by
      cases S with
      | nil => simp [vals] at hS
      | cons s S' => exact ⟨s, S', rfl⟩
    simp [vals] at hS
    obtain ⟨B, hB, hvB⟩ := inner vs m s k A S' hA (by rw [hv]; exact upto_down vs k)
    rw [hB]
    rw [hv, hS.1] at hvB
    exact outer vs m r (k + 1) B S' (by have := congrArg List.length hvB; simpa [vals, insL_len, upto_len] using this) hvB (by simpa [vals] using hS.2) (by omega) (by omega)

theorem sorted (vs : List Int) (m : Nat) (d : Array (Fin (m + 1))) (hd : vals m d.toList = List.range (m + 1)) (hv : vs.length = m + 1) :
    ∃ B, insertionSort (lt vs m) d 0 (m + 1) = B.toArray ∧ vals m B = rank vs := by
  unfold insertionSort rank
  rw [hv]
  obtain ⟨l, rfl⟩ : ∃ l : List (Fin (m + 1)), d = l.toArray := ⟨d.toList, by simp⟩
  simp only at hd
  rw [List.range_succ_eq_map] at hd
  obtain ⟨s, S, rfl⟩ : ∃ s S, l = s :: S := by
    cases l with
    | nil => simp [vals] at hd
    | cons s S' => exact ⟨s, S', rfl⟩
  simp only [vals, List.map_cons, List.cons.injEq] at hd
  refine outer vs m m 1 [s] S rfl ?_ ?_ (by omega) (by omega)
  · simp [vals, upto, insL, hd.1]
  · show S.map (·.val) = _
    rw [hd.2, Nat.add_sub_cancel]
    apply List.ext_getElem
    · simp
    · intro j h1 h2
      simp; omega
end Go.Proofs.Ytebohpgdhbammaa.Rk
namespace Go.Proofs.Ytebohpgdhbammaa.Pf

theorem getD_lt {α : Type} (xs : List α) (d : α) {i : Nat} (h : i < xs.length) : xs.getD i d = xs[i] := by simp [h]
def inB (n lo hi : Int) : Bool := decide (lo ≤ n) && decide (n ≤ hi)
theorem inB_yes {n lo hi : Int} (h : inB n lo hi = true) : lo ≤ n ∧ n ≤ hi := by simpa [inB] using h
theorem inB_of {n lo hi : Int} (h1 : lo ≤ n) (h2 : n ≤ hi) : inB n lo hi = true := by simp [inB, h1, h2]
theorem inB_no {n lo hi : Int} (h : inB n lo hi = false) : n < lo ∨ hi < n := by
  by_cases h1 : lo ≤ n
  · right; simp [inB, h1] at h; omega
  · left; omega
def allB (xs : List Int) (lo hi : Int) : Bool := xs.all fun x => inB x lo hi
theorem allB_get {xs : List Int} {lo hi : Int} (h : allB xs lo hi = true) {i : Nat} (hi' : i < xs.length) : inB (xs.getD i 0) lo hi = true := by
  have := List.all_eq_true.1 h (xs.getD i 0) (by rw [getD_lt _ _ hi']; exact List.getElem_mem hi')
  exact this
theorem allB_of {xs : List Int} {lo hi : Int} (h : ∀ i, i < xs.length → inB (xs.getD i 0) lo hi = true) : allB xs lo hi = true := by
  refine List.all_eq_true.2 fun x hx => ?_
  obtain ⟨i, hi', rfl⟩ := List.getElem_of_mem hx
  have := h i hi'
  rwa [getD_lt _ _ hi'] at this
theorem allB_not {xs : List Int} {lo hi : Int} {i : Nat} (hi' : i < xs.length) (h : inB (xs.getD i 0) lo hi = false) : allB xs lo hi = false := by
  cases e : allB xs lo hi
  · rfl
  · rw [allB_get e hi'] at h; cases h

/-- One good of a profile: how often, how much. -/
def goodAt (p f : Int) : Bool := inB p 0 10000 && inB f 0 10000000 && ((p == 0) == (f == 0))
def goodP (ps fs : List Int) : Bool := decide (ps.length = fs.length) && decide (ps.length ≤ 12) && (List.range ps.length).all fun i => goodAt (ps.getD i 0) (fs.getD i 0)
theorem goodP_len {ps fs : List Int} (h : goodP ps fs = true) : ps.length = fs.length ∧ ps.length ≤ 12 := by
  simp only [goodP, Bool.and_eq_true, decide_eq_true_eq] at h
  exact h.1
theorem goodP_at {ps fs : List Int} (h : goodP ps fs = true) {i : Nat} (hi : i < ps.length) : goodAt (ps.getD i 0) (fs.getD i 0) = true := by
  simp only [goodP, Bool.and_eq_true, decide_eq_true_eq] at h
  exact List.all_eq_true.1 h.2 i (by simpa using hi)
theorem goodP_of {ps fs : List Int} (h1 : ps.length = fs.length) (h2 : ps.length ≤ 12) (h : ∀ i, i < ps.length → goodAt (ps.getD i 0) (fs.getD i 0) = true) : goodP ps fs = true := by
  simp only [goodP, Bool.and_eq_true, decide_eq_true_eq]
  exact ⟨⟨h1, h2⟩, List.all_eq_true.2 fun i hi => h i (by simpa using hi)⟩
theorem goodP_ne {ps fs : List Int} (h : ps.length ≠ fs.length) : goodP ps fs = false := by simp [goodP, h]
theorem goodP_many {ps fs : List Int} (h : 12 < ps.length) : goodP ps fs = false := by simp [goodP, show ¬ ps.length ≤ 12 by omega]
theorem goodP_not {ps fs : List Int} {i : Nat} (hi : i < ps.length) (h : goodAt (ps.getD i 0) (fs.getD i 0) = false) : goodP ps fs = false := by
  cases e : goodP ps fs
  · rfl
  · rw [goodP_at e hi] at h; cases h
theorem goodAt_bd {p f : Int} (h : goodAt p f = true) : 0 ≤ p ∧ p ≤ 10000 ∧ 0 ≤ f ∧ f ≤ 10000000 ∧ (p = 0 ↔ f = 0) := by
  simp only [goodAt, Bool.and_eq_true] at h
  have h1 := inB_yes h.1.1
  have h2 := inB_yes h.1.2
  refine ⟨h1.1, h1.2, h2.1, h2.2, ?_⟩
  have h3 := h.2
  by_cases a : p = 0 <;> by_cases b : f = 0 <;> simp [a, b] at h3 ⊢
theorem goodP_picks {ps fs : List Int} (h : goodP ps fs = true) : allB ps 0 10000 = true :=
  allB_of fun i hi => by have := goodAt_bd (goodP_at h hi); exact inB_of this.1 this.2.1
theorem goodP_flow {ps fs : List Int} (h : goodP ps fs = true) : allB fs 0 10000000 = true :=
  allB_of fun i hi => by have := goodAt_bd (goodP_at h (i := i) (by have := goodP_len h; omega)); exact inB_of this.2.2.1 this.2.2.2.1
theorem goodP_split {ps fs : List Int} (h1 : ps.length = fs.length) (h2 : ps.length ≤ 12) (h3 : allB ps 0 10000 = true) (h4 : allB fs 0 10000000 = true) (h : ∀ i, i < ps.length → ((ps.getD i 0 == 0) == (fs.getD i 0 == 0)) = true) : goodP ps fs = true :=
  goodP_of h1 h2 fun i hi => by simp only [goodAt, Bool.and_eq_true]; exact ⟨⟨allB_get h3 hi, allB_get h4 (by omega)⟩, h i hi⟩
theorem goodP_npicks {ps fs : List Int} (h : allB ps 0 10000 = false) : goodP ps fs = false := by
  cases e : goodP ps fs
  · rfl
  · rw [goodP_picks e] at h; cases h
theorem goodP_nflow {ps fs : List Int} (h : allB fs 0 10000000 = false) : goodP ps fs = false := by
  cases e : goodP ps fs
  · rfl
  · rw [goodP_flow e] at h; cases h
theorem goodP_nzero {ps fs : List Int} {i : Nat} (hi : i < ps.length) (h : ((ps.getD i 0 == 0) == (fs.getD i 0 == 0)) = false) : goodP ps fs = false :=
  goodP_not hi (by unfold goodAt; rw [h, Bool.and_false])

theorem take_sum_succ (xs : List Int) (k : Nat) (h : k < xs.length) : (xs.take (k + 1)).sum = (xs.take k).sum + xs.getD k 0 := by
  rw [List.take_succ_eq_append_getElem h, List.sum_append, getD_lt _ _ h]; simp
theorem sum_bd {lo hi : Int} : ∀ {xs : List Int}, allB xs lo hi = true → lo * xs.length ≤ xs.sum ∧ xs.sum ≤ hi * xs.length
  | [], _ => by simp
  | x :: r, h => by
    simp only [allB, List.all_cons, Bool.and_eq_true] at h
    have ih := sum_bd (xs := r) h.2
    have hx := inB_yes h.1
    simp only [List.sum_cons, List.length_cons, Int.natCast_add, Int.natCast_one, Int.mul_add, Int.mul_one]
    omega
theorem allB_take {xs : List Int} {lo hi : Int} (h : allB xs lo hi = true) (k : Nat) : allB (xs.take k) lo hi = true :=
  List.all_eq_true.2 fun x hx => List.all_eq_true.1 h x (List.mem_of_mem_take hx)
end Go.Proofs.Ytebohpgdhbammaa.Pf
namespace Go.Proofs.Ytebohpgdhbammaa
open Go.RowKit

/-- A slice of whole numbers, wherever it lies: its address, and what it holds. -/
def ARow (w : World) (a : Option Addr) (xs : List Int) : Prop := xs = [] ∨ ∃ b off, a = some ⟨b, off, none⟩ ∧ b < w.heap.size ∧ ∀ i, i < xs.length → w.cell? ⟨b, off + i, none⟩ = some (.int .i64 (xs.getD i 0))
theorem ARow.keep {w w' : World} {a : Option Addr} {xs : List Int} (h : ARow w a xs) (hs : w.heap.size ≤ w'.heap.size) (hB : ∀ b, b < w.heap.size → w'.heap[b]? = w.heap[b]?) : ARow w' a xs := by
  rcases h with h | ⟨b, off, ha, hb, hc⟩
  · exact Or.inl h
  · exact Or.inr ⟨b, off, ha, Nat.lt_of_lt_of_le hb hs, fun i hi => (World.cell?_of_block (w := w) (a := ⟨b, off + i, none⟩) (hB b hb)).trans (hc i hi)⟩
theorem ARow.below {w w' : World} {a : Option Addr} {xs : List Int} (h : ARow w a xs) (hB : Below w.heap.size w w') : ARow w' a xs := h.keep hB.size hB.block
theorem ARow.alloc {w : World} {a : Option Addr} {xs : List Int} (h : ARow w a xs) (o : Obj) : ARow (w.alloc o) a xs := h.below ((Below.refl _ _).alloc (Nat.le_refl _) _)
theorem ARow.drewN {w : World} {a : Option Addr} {xs : List Int} (h : ARow w a xs) (q : Nat) : ARow (w.drewN q) a xs := h
theorem ARow.at {w : World} {a : Option Addr} {xs : List Int} (h : ARow w a xs) {i : Nat} (hi : i < xs.length) : ∃ b off, a = some ⟨b, off, none⟩ ∧ w.cell? ⟨b, off + i, none⟩ = some (.int .i64 (xs.getD i 0)) := by
  rcases h with h | ⟨b, off, ha, _, hc⟩
  · rw [h] at hi; simp at hi
  · exact ⟨b, off, ha, hc i hi⟩
theorem ARow.at' {w : World} {a : Option Addr} {xs : List Int} (h : ARow w a xs) {i : Nat} (hi : i < xs.length) : ∃ b off, a = some ⟨b, off, none⟩ ∧ ∀ o, (w.alloc o).cell? ⟨b, off + i, none⟩ = some (.int .i64 (xs.getD i 0)) := by
  rcases h with h | ⟨b, off, ha, hb, hc⟩
  · rw [h] at hi; simp at hi
  · exact ⟨b, off, ha, fun o => (((Below.refl _ _).alloc (Nat.le_refl _) o).cell (p := ⟨b, off + i, none⟩) hb).trans (hc i hi)⟩
theorem arow_owns {w : World} {base e : Nat} {g n cap : Nat} {xs : List Int} (hn : n = xs.length) (h : w.ownsRow base e 1 (.slice (some ⟨g, 0, none⟩) n cap) n (ints xs)) : ARow w (some ⟨g, 0, none⟩) xs := by
  subst hn
  rcases irow_owns h with ⟨h, _⟩ | ⟨b, o, c, hv, hlt, hc⟩
  · exact Or.inl h
  · cases hv; exact Or.inr ⟨_, _, rfl, hlt, hc⟩

set_option maxRecDepth 100000 in
set_option maxHeartbeats 400000 in
theorem between_any (n lo hi : Int) (w : World) :
    Calls Try.prog 34 #[.int .i64 n, .int .i64 lo, .int .i64 hi] w fun e w' => e = .returned (.bool (Pf.inB n lo hi)) ∧ w' = w := by
  unfold Pf.inB
  by_cases h1 : lo ≤ n
  · by_cases h2 : n ≤ hi
    · go_enter Try.func34, Try.ntmps34
      go_wp2
      go_ret
      exact ⟨by simp [h1, h2], rfl⟩
    · go_enter Try.func34, Try.ntmps34
      go_wp2
      go_ret
      exact ⟨by simp [show ¬ n ≤ hi by omega], rfl⟩
  · go_enter Try.func34, Try.ntmps34
    go_wp2
    go_ret
    exact ⟨by simp [show ¬ lo ≤ n by omega], rfl⟩
theorem between_eq {n lo hi : Int} {w : World} {b : Bool} (h : Pf.inB n lo hi = b) :
    Calls Try.prog 34 #[.int .i64 n, .int .i64 lo, .int .i64 hi] w fun e w' => e = .returned (.bool b) ∧ w' = w := h ▸ between_any n lo hi w

set_option maxRecDepth 100000 in
set_option maxHeartbeats 1000000 in
theorem areb_any {a : Option Addr} {c : Nat} {xs : List Int} {lo hi : Int} {w : World} (h : ARow w a xs) (hl : xs.length ≤ 4000000000000) :
    Calls Try.prog 35 #[.slice a xs.length c, .int .i64 lo, .int .i64 hi] w fun e w' => e = .returned (.bool (Pf.allB xs lo hi)) ∧ w' = w := by
  have H := hide h
  clear h
  go_enter Try.func35, Try.ntmps35
  go_wp2_with fail
  go_loop [6, 8, 11] (fun s6 _ s => ∃ k : Nat, s6 = .bool false ∧ s = .int .i64 k ∧ k ≤ xs.length ∧ Hid (∀ i, i < k → Pf.inB (xs.getD i 0) lo hi = true)) (fun _ _ s => xs.length - (intOf s).toNat)
  case atStart => exact ⟨0, rfl, rfl, Nat.zero_le _, hide fun i hi => absurd hi (Nat.not_lt_zero _)⟩
  case round =>
    obtain ⟨k, rfl, rfl, hk, HA⟩ := hrel
    by_cases hlt : k < xs.length
    · obtain ⟨b, off, rfl, r1⟩ := H.out.at hlt
      have i0 : (0 : Int) ≤ (k : Int) := by omega
      have i1 : (k : Int) < (xs.length : Int) := by omega
      have HX := hide (rfl : xs.getD k 0 = xs.getD k 0)
      generalize hx : xs.getD k 0 = x at r1
      cases hb : Pf.inB x lo hi
      · have HN := hide (Pf.allB_not (lo := lo) (hi := hi) hlt (by rw [hx]; exact hb))
        clear hx
        go_wp2_with fail
        refine (between_eq hb).mono ?_
        rintro e w1 ⟨rfl, rfl⟩
        go_wp2_with fail
        go_ret
        exact ⟨ret_bool HN.out.symm, rfl⟩
      · have HY : Hid (∀ i, i < k + 1 → Pf.inB (xs.getD i 0) lo hi = true) := hide fun i hi => by
          by_cases e : i = k
          · subst e; rw [hx]; exact hb
          · exact HA.out i (by omega)
        clear hx
        go_wp2_with fail
        refine (between_eq hb).mono ?_
        rintro e w1 ⟨rfl, rfl⟩
        go_wp2_with fail
        go_round
        case rel => exact ⟨k + 1, rfl, by go_num, by omega, HY⟩
        case measure => simp only [intOf]; omega
    · have hke : k = xs.length := by omega
      subst hke
      have HY := hide (Pf.allB_of HA.out)
      go_wp2_with fail
      go_ret
      exact ⟨ret_bool HY.out.symm, rfl⟩
theorem areb_eqn {a : Option Addr} {n c : Nat} {xs : List Int} {lo hi : Int} {w : World} {r : Bool} (h : Hid (ARow w a xs)) (hn : Hid (xs.length = n)) (hl : n ≤ 1000) (hr : Hid (Pf.allB xs lo hi = r)) :
    Calls Try.prog 35 #[.slice a n c, .int .i64 lo, .int .i64 hi] w fun e w' => e = .returned (.bool r) ∧ w' = w := by
  have := hn.out
  subst this
  exact hr.out ▸ areb_any h.out (by omega)

theorem in_eq {n lo hi : Int} {w : World} {b : Bool} (h : Pf.inB n lo hi = b) :
    Calls Try.prog 36 #[.int .i64 n, .int .i64 lo, .int .i64 hi] w fun e w' => e = .returned (.bool b) ∧ w' = w := by
  cases b
  · exact in_no (Pf.inB_no h)
  · exact in_yes (Pf.inB_yes h).1 (Pf.inB_yes h).2

set_option maxRecDepth 100000 in
set_option maxHeartbeats 1000000 in
theorem all_any {a : Option Addr} {c : Nat} {xs : List Int} {lo hi : Int} {w : World} (h : ARow w a xs) (hl : xs.length ≤ 4000000000000) :
    Calls Try.prog 37 #[.slice a xs.length c, .int .i64 lo, .int .i64 hi] w fun e w' => e = .returned (.bool (Pf.allB xs lo hi)) ∧ w' = w := by
  have H := hide h
  clear h
  go_enter Try.func37, Try.ntmps37
  go_wp2_with fail
  go_loop [6, 8, 11] (fun s6 _ s => ∃ k : Nat, s6 = .bool false ∧ s = .int .i64 k ∧ k ≤ xs.length ∧ Hid (∀ i, i < k → Pf.inB (xs.getD i 0) lo hi = true)) (fun _ _ s => xs.length - (intOf s).toNat)
  case atStart => exact ⟨0, rfl, rfl, Nat.zero_le _, hide fun i hi => absurd hi (Nat.not_lt_zero _)⟩
  case round =>
    obtain ⟨k, rfl, rfl, hk, HA⟩ := hrel
    by_cases hlt : k < xs.length
    · obtain ⟨b, off, rfl, r1⟩ := H.out.at hlt
      have i0 : (0 : Int) ≤ (k : Int) := by omega
      have i1 : (k : Int) < (xs.length : Int) := by omega
      have HX := hide (rfl : xs.getD k 0 = xs.getD k 0)
      generalize hx : xs.getD k 0 = x at r1
      cases hb : Pf.inB x lo hi
      · have HN := hide (Pf.allB_not (lo := lo) (hi := hi) hlt (by rw [hx]; exact hb))
        clear hx
        go_wp2_with fail
        refine (in_eq hb).mono ?_
        rintro e w1 ⟨rfl, rfl⟩
        go_wp2_with fail
        go_ret
        exact ⟨ret_bool HN.out.symm, rfl⟩
      · have HY : Hid (∀ i, i < k + 1 → Pf.inB (xs.getD i 0) lo hi = true) := hide fun i hi => by
          by_cases e : i = k
          · subst e; rw [hx]; exact hb
          · exact HA.out i (by omega)
        clear hx
        go_wp2_with fail
        refine (in_eq hb).mono ?_
        rintro e w1 ⟨rfl, rfl⟩
        go_wp2_with fail
        go_round
        case rel => exact ⟨k + 1, rfl, by go_num, by omega, HY⟩
        case measure => simp only [intOf]; omega
    · have hke : k = xs.length := by omega
      subst hke
      have HY := hide (Pf.allB_of HA.out)
      go_wp2_with fail
      go_ret
      exact ⟨ret_bool HY.out.symm, rfl⟩
theorem all_eq {a : Option Addr} {c : Nat} {xs : List Int} {lo hi : Int} {w : World} {r : Bool} (h : ARow w a xs) (hl : xs.length ≤ 4000000000000) (hr : Pf.allB xs lo hi = r) :
    Calls Try.prog 37 #[.slice a xs.length c, .int .i64 lo, .int .i64 hi] w fun e w' => e = .returned (.bool r) ∧ w' = w := hr ▸ all_any h hl
end Go.Proofs.Ytebohpgdhbammaa
namespace Go.Proofs.Ytebohpgdhbammaa
open Go.RowKit

theorem infoI : ∃ i, Try.prog.info? 3 = some i ∧ i.zero = some (.int .i64 0) ∧ i.size = 1 ∧ i.bytes = 8 := by
  have h : (Try.prog.info? 3).map (fun i => (i.zero, i.size, i.bytes)) = some (some (.int .i64 0), 1, 8) := by kernel_rfl
  obtain ⟨i, hi, hzz⟩ := Option.map_eq_some_iff.1 h
  simp only [Prod.mk.injEq] at hzz
  exact ⟨i, hi, hzz.1, hzz.2.1, hzz.2.2⟩
/-- A slice of values of one cell each. -/
def VRow (w : World) (a : Option Addr) (vs : List Value) : Prop := vs = [] ∨ ∃ b off, a = some ⟨b, off, none⟩ ∧ b < w.heap.size ∧ ∀ j u, vs[j]? = some u → w.cell? ⟨b, off + j, none⟩ = some u
theorem VRow.below {w w' : World} {a : Option Addr} {vs : List Value} (h : VRow w a vs) (hb : Below w.heap.size w w') : VRow w' a vs := by
  rcases h with h | ⟨b, off, ha, hl, hc⟩
  · exact Or.inl h
  · exact Or.inr ⟨b, off, ha, Nat.lt_of_lt_of_le hl hb.size, fun j u hj => (hb.cell (p := ⟨b, off + j, none⟩) hl).trans (hc j u hj)⟩
theorem ARow.vrow {w : World} {a : Option Addr} {xs : List Int} (h : ARow w a xs) : VRow w a (ints xs) := by
  rcases h with h | ⟨b, off, ha, hl, hc⟩
  · exact Or.inl (by rw [h]; rfl)
  · refine Or.inr ⟨b, off, ha, hl, fun j u hj => ?_⟩
    have hjl : j < xs.length := by
      have := (List.getElem?_eq_some_iff.1 hj).1
      simpa [ints] using this
    rw [hc j hjl]
    rw [ints_get xs j hjl] at hj
    exact hj
theorem c_ints (xs : List Int) : ∀ u ∈ ints xs, u.oneCell' = true := by
  intro u hu
  simp only [ints, List.mem_map] at hu
  obtain ⟨x, _, rfl⟩ := hu; rfl
theorem add_plain' (b o j : Nat) : (⟨b, o, none⟩ : Addr).add j = ⟨b, o + j, none⟩ := by unfold Addr.add; split <;> simp_all
/-- Append of whatever list of values, onto an owned one. -/
theorem run_append_v {P : Program} (w : World) (base : Nat) (t ty e : TypeId) (i : TypeInfo) (z : Value) (bytes : Nat) (ht : P.underlying t = some (.slice e)) (hi : P.info? e = some i) (hz : i.zero = some z)
    (hsize : i.size = 1) (hby : i.bytes = bytes) (hzs : z.cells.size = 1) (v : Value) (n : Nat) (xs : List Value) (hown : w.ownsRow base e 1 v n xs)
    (a : Option Addr) (m c : Nat) (news : List Value) (hm : news.length = m) (hv : VRow w a news) (h1 : ∀ u ∈ news, u.oneCell' = true) (h63 : n + m ≤ maxLen) (hbytes : (n + m) * bytes ≤ 140737488355328) (hbase : base ≤ w.heap.size) :
    ∃ v' w', (Builtin.append_ #[t, t] ty #[v, .slice a m c]).run P w = .ok v' w' ∧ w'.ownsRow base e 1 v' (n + m) (xs ++ news) ∧ w.grownBy w' v.ownBlock := by
  cases a with
  | none =>
    have hn : news = [] := by
      rcases hv with h | ⟨b, off, h, _⟩
      · exact h
      · cases h
    subst hn
    have : m = 0 := by simpa using hm.symm
    subst this
    refine ⟨v, w, ?_, by simpa using hown, World.grownBy.refl _ _⟩
    rcases hown.2 with ⟨rfl, rfl⟩ | ⟨g, cap, cur, rfl, _, _, hnc, _⟩
    · simp [Builtin.append_, run_underlying ht, sizeOf, typeInfo, hi, Builtin.lenOf, Builtin.firstCells]
    · simp [Builtin.append_, run_underlying ht, sizeOf, typeInfo, hi, Builtin.lenOf, Builtin.firstCells, hnc, storeCells]
  | some ad =>
    obtain ⟨v', w', hr, h2, h3, _⟩ := run_append_own (P := P) w base t ty e i z 1 bytes ht hi hz hsize hby hzs (by decide) v n xs hown ad m c news (by omega) (fun j u hj => by
      rcases hv with h | ⟨b, off, h, _, hc⟩
      · rw [h] at hj; simp at hj
      · cases h; rw [add_plain']; exact hc j u hj) h1 h63 hbytes hbase
    exact ⟨v', w', hr, h2, h3⟩
theorem grown_under' {w w' : World} {base e s n k : Nat} {v : Value} {xs : List Value} (hg : w.grownBy w' v.ownBlock) (h : w.ownsRow base e s v n xs) (hk : k ≤ base) (hs : k ≤ w.heap.size) : Below k w w' :=
  ⟨hg.os, hg.tape, hg.output, hg.size, fun b hb => hg.block b (by omega) (fun he => by have := h.lt b he.symm; omega)⟩
theorem vrow_new (w : World) (u : Value) (e : TypeId) : VRow (w.alloc (.cells #[u] e)) (some ⟨w.heap.size, 0, none⟩) [u] := by
  refine Or.inr ⟨w.heap.size, 0, rfl, by simp, fun j x hj => ?_⟩
  have : j = 0 := by
    have := (List.getElem?_eq_some_iff.1 hj).1
    simpa using this
  subst this
  have : x = u := by simpa using hj.symm
  subst this
  simp
/-- One value more behind an owned list of ints. -/
theorem push_int {w : World} {base n : Nat} {v : Value} {xs : List Value} {x : Int} (hown : w.ownsRow base 3 1 v n xs) (hn : n ≤ 100000) (hb : base ≤ w.heap.size) :
    ∃ v' w', (∀ ty, (Builtin.append_ #[23, 23] ty #[v, .slice (some ⟨w.heap.size, 0, none⟩) 1 1]).run Try.prog (w.alloc (.cells #[.int .i64 x] 3)) = .ok v' w') ∧ w'.ownsRow base 3 1 v' (n + 1) (xs ++ [.int .i64 x]) ∧ w.grownBy w' v.ownBlock := by
  obtain ⟨i0, hi, hz0, hz1, hz2⟩ := infoI
  obtain ⟨v', w', h1, h2, h3⟩ := run_append_v (P := Try.prog) (w.alloc (.cells #[.int .i64 x] 3)) base 23 0 3 i0 _ 8 Try.underlying23 hi hz0 hz1 hz2 rfl v n xs (hown.alloc _) (some ⟨w.heap.size, 0, none⟩) 1 1 [.int .i64 x] rfl (vrow_new w _ 3) (fun u hu => by simp at hu; subst hu; rfl) (by unfold maxLen; omega) (by omega) (by simp; omega)
  refine ⟨v', w', fun _ => h1, h2, ?_⟩
  have hg := World.grownBy_alloc w (.cells #[.int .i64 x] 3) v.ownBlock
  exact ⟨h3.os.trans hg.os, h3.tape.trans hg.tape, h3.output.trans hg.output, Nat.le_trans hg.size h3.size, fun b hb hne => (h3.block b (Nat.lt_of_lt_of_le hb hg.size) hne).trans (hg.block b hb hne)⟩
/-- An owned list is nothing, or lies somewhere. -/
theorem own_form {w : World} {base e s n : Nat} {v : Value} {xs : List Value} (h : w.ownsRow base e s v n xs) : ∃ a c, v = .slice a n c := by
  rcases h.2 with ⟨rfl, rfl⟩ | ⟨g, cap, cur, rfl, _⟩
  · exact ⟨none, 0, rfl⟩
  · exact ⟨_, _, rfl⟩
end Go.Proofs.Ytebohpgdhbammaa
namespace Go.Proofs.Ytebohpgdhbammaa
open Go.RowKit
end Go.Proofs.Ytebohpgdhbammaa
namespace Go.Proofs.Ytebohpgdhbammaa
open Go.RowKit

theorem makeI_run (n : Nat) (hn : n ≤ 1048576) (w : World) : (Instr.makeSlice 23 (.int .i64 (n : Int)) (.int .i64 (n : Int))).run Try.prog w = .ok (.slice (some ⟨w.heap.size, 0, none⟩) n n) (w.alloc (.cells (madeCells #[.int .i64 0] n) 3)) := by
  have h : (Try.prog.info? 3).map (fun i => (i.zero, i.size, i.bytes)) = some (some (.int .i64 0), 1, 8) := by kernel_rfl
  obtain ⟨i, hi, hzz⟩ := Option.map_eq_some_iff.1 h
  simp only [Prod.mk.injEq] at hzz
  obtain ⟨hz, hs, hb⟩ := hzz
  have := run_make (P := Try.prog) w 23 3 i _ Try.underlying23 hi hz .i64 .i64 (n : Int) (n : Int) (by omega) (by omega) (by rw [hb]; omega) (by omega)
  simpa [hs, Value.cells] using this
theorem made_own (w : World) (n : Nat) (hn : n ≤ 1048576) : (w.alloc (.cells (madeCells #[.int .i64 0] n) 3)).ownsRow w.heap.size 3 1 (.slice (some ⟨w.heap.size, 0, none⟩) n n) n (ints (List.replicate n 0)) := by
  have h := World.ownsRow_lit (base := w.heap.size) (e := 3) (size := 1) w (madeCells #[.int .i64 0] n) n (Nat.le_refl _) (by unfold maxLen; omega) (by simp [madeCells])
  rw [toList_madeCells_one] at h
  simpa [ints] using h
theorem getD_set_take (xs ys : List Int) (k : Nat) (hy : ys.length = xs.length) (hk : k < xs.length) (h : ys.take k = xs.take k) : (ys.set k (xs.getD k 0)).take (k + 1) = xs.take (k + 1) := by
  rw [List.take_add_one, List.take_add_one, List.take_set_of_le (Nat.le_refl _), h]
  congr 1
  simp [hk, hy]

end Go.Proofs.Ytebohpgdhbammaa
namespace Go.Proofs.Ytebohpgdhbammaa
open Go.RowKit

theorem owns_keep {w w' : World} {base e s n c g : Nat} {xs : List Value} (h : w.ownsRow base e s (.slice (some ⟨g, 0, none⟩) n c) n xs) (hb : w'.heap[g]? = w.heap[g]?) : w'.ownsRow base e s (.slice (some ⟨g, 0, none⟩) n c) n xs := by
  rcases h with ⟨h0, h | ⟨g', cap, cur, h1, h2, h3, h4⟩⟩
  · cases h.1
  · cases h1; exact ⟨h0, Or.inr ⟨g, c, cur, rfl, h2, hb.trans h3, h4⟩⟩
theorem owns_low {w : World} {base base' e s n : Nat} {v : Value} {xs : List Value} (h : w.ownsRow base e s v n xs) (hb : base' ≤ base) : w.ownsRow base' e s v n xs := by
  rcases h with ⟨h0, h | ⟨g, cap, cur, h1, h2, h3⟩⟩
  · exact ⟨h0, Or.inl h⟩
  · exact ⟨h0, Or.inr ⟨g, cap, cur, h1, Nat.le_trans hb h2, h3⟩⟩
/-- A variable of two fields in a block of its own. -/
def PBox (w : World) (B : Nat) (v0 v1 : Value) : Prop := w.cell? ⟨B, 0, none⟩ = some v0 ∧ w.cell? ⟨B, 1, none⟩ = some v1 ∧ B < w.heap.size
theorem PBox.below {w w' : World} {B : Nat} {v0 v1 : Value} (h : PBox w B v0 v1) (hb : Below w.heap.size w w') : PBox w' B v0 v1 :=
  ⟨(hb.cell (p := ⟨B, 0, none⟩) h.2.2).trans h.1, (hb.cell (p := ⟨B, 1, none⟩) h.2.2).trans h.2.1, Nat.lt_of_lt_of_le h.2.2 hb.size⟩
theorem PBox.new (w : World) (v0 v1 : Value) (t : TypeId) : PBox (w.alloc (.cells #[v0, v1] t)) w.heap.size v0 v1 := ⟨by simp [go_sem], by simp [go_sem], by simp⟩
theorem PBox.drewN {w : World} {B : Nat} {v0 v1 : Value} (h : PBox w B v0 v1) (q : Nat) : PBox (w.drewN q) B v0 v1 := h
theorem grown_below' {w w' : World} {g k : Nat} (hg : w.grownBy w' (some g)) (h : k ≤ g) (hk : k ≤ w.heap.size) : Below k w w' :=
  ⟨hg.os, hg.tape, hg.output, hg.size, fun b hb => hg.block b (by omega) (by simp; omega)⟩
theorem below_new (w : World) (o : Obj) : Below w.heap.size w (w.alloc o) := (Below.refl _ _).alloc (Nat.le_refl _) o
end Go.Proofs.Ytebohpgdhbammaa
namespace Go.Proofs.Ytebohpgdhbammaa
open Go.RowKit

theorem own_far {w : World} {base e s n k : Nat} {v : Value} {xs : List Value} (h : w.ownsRow base e s v n xs) (hk : k < base) : some k ≠ v.ownBlock := by
  rcases h.2 with ⟨rfl, _⟩ | ⟨g, cap, cur, rfl, hb, _⟩
  · simp [Value.ownBlock]
  · simp [Value.ownBlock]; omega
theorem own_some {w : World} {base e s n : Nat} {v : Value} {xs : List Value} (h : w.ownsRow base e s v n xs) (hn : n ≠ 0) : ∃ g cap, v = .slice (some ⟨g, 0, none⟩) n cap ∧ base ≤ g ∧ g < w.heap.size := by
  rcases h.2 with ⟨_, h0⟩ | ⟨g, cap, cur, hv, hb, hg, _⟩
  · exact absurd h0 hn
  · exact ⟨g, cap, hv, hb, (Array.getElem?_eq_some_iff.1 hg).1⟩
theorem Cur.blocks {w w' : World} {c len cap N : Nat} {a : Option Addr} (h : Cur w c a len cap N) (hs : w.heap.size ≤ w'.heap.size) (hc : w'.heap[c]? = w.heap[c]?)
    (hb : ∀ b off, a = some ⟨b, off, none⟩ → 0 < len → w'.heap[b]? = w.heap[b]?) : Cur w' c a len cap N := by
  obtain ⟨h0, h1, ⟨x, h2, h2'⟩, ⟨y, h3, h3', h3''⟩, h4, h5, h6, h7⟩ := h
  have ec : ∀ o, w'.cell? ⟨c, o, none⟩ = w.cell? ⟨c, o, none⟩ := fun o => World.cell?_of_block (w := w) hc
  have ef : ∀ o, w'.frozen? ⟨c, o, none⟩ = w.frozen? ⟨c, o, none⟩ := fun o => World.frozen?_of_block (w := w) hc
  refine ⟨Nat.lt_of_lt_of_le h0 hs, (ec 0).trans h1, ⟨x, (ec 1).trans h2, h2'⟩, ⟨y, (ec 2).trans h3, h3', h3''⟩, (ef 1).trans h4, (ef 2).trans h5, ?_, ?_⟩
  · rcases h6 with h | ⟨b, off, rfl, hbb⟩
    · exact Or.inl h
    · refine Or.inr ⟨b, off, rfl, fun i hi => ?_⟩
      obtain ⟨z, hz, hz'⟩ := hbb i hi
      exact ⟨z, (World.cell?_of_block (w := w) (hb b off rfl (by omega))).trans hz, hz'⟩
  · intro b off e hl
    obtain ⟨hne, hlt⟩ := h7 b off e hl
    exact ⟨hne, Nat.lt_of_lt_of_le hlt hs⟩
theorem Cur.old {w : World} {c len cap N : Nat} {a : Option Addr} (h : Cur w c a len cap N) : ∀ b off, a = some ⟨b, off, none⟩ → 0 < len → b < w.heap.size := fun b off e hl => (h.2.2.2.2.2.2.2 b off e hl).2
theorem own_kp {w w' : World} {c base e s n : Nat} {v : Value} {xs : List Value} (h : w.ownsRow base e s v n xs) (hk : Kp c w w') (hc : c < base) : w'.ownsRow base e s v n xs := by
  refine ⟨h.1, ?_⟩
  rcases h.2 with h0 | ⟨g, cap, cur, hv, hb, hg, r⟩
  · exact Or.inl h0
  · exact Or.inr ⟨g, cap, cur, hv, hb, (hk.block g (Array.getElem?_eq_some_iff.1 hg).1 (by omega)).trans hg, r⟩
theorem kp_set {w w3 : World} {c g o : Nat} {v : Value} (h : Kp c w w3) (hg : w.heap.size ≤ g) : Kp c w (w3.setCell ⟨g, o, none⟩ v) := h.setNew hg o v
theorem cur_set {w w3 : World} {c g o len cap N : Nat} {a : Option Addr} {v : Value} (hc : Cur w3 c a len cap N) (hcw : c < w.heap.size) (hold : ∀ b off, a = some ⟨b, off, none⟩ → 0 < len → b < w.heap.size) (hg : w.heap.size ≤ g) : Cur (w3.setCell ⟨g, o, none⟩ v) c a len cap N :=
  hc.set (by omega) (fun b off e hl => by have := hold b off e hl; omega)
set_option maxRecDepth 100000 in
set_option maxHeartbeats 400000 in
theorem amongB_any {c len cap N b l k : Nat} {lo hi : Int} {a : Option Addr} {w : World} (hc : Cur w c a len cap N) (hN : N ≤ 900000000) (hl : 0 < l) (hl1 : l ≤ 1000000) (hb : b < w.heap.size) (hne : b ≠ c)
    (hz : ∀ i, i < l → ∃ z : Int, w.cell? ⟨b, i, none⟩ = some (.int .i64 z) ∧ lo ≤ z ∧ z ≤ hi) :
    Calls Try.prog 28 #[.pointer (some ⟨c, 0, none⟩), .slice (some ⟨b, 0, none⟩) l k] w fun e w' => ∃ r : Int, e = .returned (.int .i64 r) ∧ lo ≤ r ∧ r ≤ hi ∧ Cur w' c a len cap (N + 2) ∧ Kp c w w' := by
  have HC := hide hc
  have HZ := hide hz
  clear hc hz
  go_enter Try.func28, Try.ntmps28
  go_wp2_with fail
  refine (pick_any (l : Int) (by omega) HC.out hN).mono ?_
  rintro e w1 ⟨r, rfl, r0, r1, hc1, hk1⟩
  have HC1 := hide hc1
  clear hc1
  obtain ⟨i, rfl⟩ := Int.eq_ofNat_of_zero_le r0
  have hi : i < l := by omega
  have hi' : (i : Int) < (l : Int) := by omega
  obtain ⟨z, hcell, z0, z1⟩ := HZ.out i hi
  have hcell' : w1.cell? ⟨b, i, none⟩ = some (.int .i64 z) := (hk1.cell hb hne).trans hcell
  clear r1
  go_wp2_with fail
  go_ret
  exact ⟨_, rfl, z0, z1, HC1.out, hk1⟩
theorem three_cells (w : World) (t : TypeId) {z0 z1 z2 lo hi : Int} (h0 : lo ≤ z0 ∧ z0 ≤ hi) (h1 : lo ≤ z1 ∧ z1 ≤ hi) (h2 : lo ≤ z2 ∧ z2 ≤ hi) : ∀ i, i < 3 → ∃ z : Int, (w.alloc (.cells #[.int .i64 z0, .int .i64 z1, .int .i64 z2] t)).cell? ⟨w.heap.size, i, none⟩ = some (.int .i64 z) ∧ lo ≤ z ∧ z ≤ hi := by
  intro i hi
  have : i = 0 ∨ i = 1 ∨ i = 2 := by omega
  rcases this with rfl | rfl | rfl
  · exact ⟨z0, by simp, h0⟩
  · exact ⟨z1, by simp, h1⟩
  · exact ⟨z2, by simp, h2⟩
theorem kp_push {w w3 w4 : World} {c e s n : Nat} {v : Value} {xs : List Value} (h : Kp c w w3) (own : w3.ownsRow w.heap.size e s v n xs) (hg : w3.grownBy w4 v.ownBlock) : Kp c w w4 := by
  have hz := h.size
  refine ⟨hg.os.trans h.os, hg.tape.trans h.tape, hg.output.trans h.output, by have := hg.size; omega, fun k hk hne => ?_⟩
  rw [hg.block k (by omega) (own_far own hk)]
  exact h.block k hk hne
theorem cur_push {w w3 w4 : World} {c e s n len cap N : Nat} {a : Option Addr} {v : Value} {xs : List Value} (hc : Cur w3 c a len cap N) (hcw : c < w.heap.size) (hold : ∀ b off, a = some ⟨b, off, none⟩ → 0 < len → b < w.heap.size) (hs : w.heap.size ≤ w3.heap.size)
    (own : w3.ownsRow w.heap.size e s v n xs) (hg : w3.grownBy w4 v.ownBlock) : Cur w4 c a len cap N := by
  have blk : ∀ k, k < w.heap.size → w4.heap[k]? = w3.heap[k]? := fun k hk => hg.block k (by omega) (own_far own hk)
  exact hc.blocks (by have := hg.size; omega) (blk c hcw) (fun b off e hl => blk b (hold b off e hl))
/-- One number more, and where the list lies then. -/
theorem push_lies {w : World} {base n : Nat} {v : Value} {xs : List Value} {x : Int} (hown : w.ownsRow base 3 1 v n xs) (hn : n ≤ 100000) (hb : base ≤ w.heap.size) :
    ∃ g cap w', (∀ ty, (Builtin.append_ #[23, 23] ty #[v, .slice (some ⟨w.heap.size, 0, none⟩) 1 1]).run Try.prog (w.alloc (.cells #[.int .i64 x] 3)) = .ok (.slice (some ⟨g, 0, none⟩) (n + 1) cap) w') ∧ w'.ownsRow base 3 1 (.slice (some ⟨g, 0, none⟩) (n + 1) cap) (n + 1) (xs ++ [.int .i64 x]) ∧ w.grownBy w' v.ownBlock ∧ (v.ownBlock = some g ∨ w.heap.size ≤ g) := by
  obtain ⟨i0, hi, hz0, hz1, hz2⟩ := infoI
  obtain ⟨g, cap, w', h1, h2, h3, h4, _⟩ := run_append_lies (P := Try.prog) (w := w.alloc (.cells #[.int .i64 x] 3)) 23 0 base 3 i0 _ 1 8 Try.underlying23 hi hz0 hz1 hz2 rfl (by decide) v n xs (hown.alloc _) ⟨w.heap.size, 0, none⟩ 1 1 [.int .i64 x] rfl (fun j u hj => by
      rcases vrow_new w (.int .i64 x) 3 with h | ⟨b, off, e, _, hc⟩
      · cases h
      · cases e; rw [add_plain']; exact hc j u hj) (fun u hu => by simp at hu; subst hu; rfl) (by omega) (by unfold maxLen; omega) (by omega) (by simp; omega) _ rfl
  refine ⟨g, cap, w', fun _ => h1, h2, ?_, ?_⟩
  · have hg := World.grownBy_alloc w (.cells #[.int .i64 x] 3) v.ownBlock
    exact ⟨h3.os.trans hg.os, h3.tape.trans hg.tape, h3.output.trans hg.output, Nat.le_trans hg.size h3.size, fun b hb hne => (h3.block b (Nat.lt_of_lt_of_le hb hg.size) hne).trans (hg.block b hb hne)⟩
  · rcases h4 with h | h
    · exact Or.inl h
    · right; simp at h; omega
theorem own_cap {w : World} {base n : Nat} {v : Value} {xs : List Int} (hx : xs.length = n) (h : w.ownsRow base 3 1 v n (ints xs)) : ∃ a cap, v = .slice a n cap ∧ n ≤ cap ∧ ARow w a xs := by
  rcases h.2 with ⟨rfl, hn⟩ | ⟨g, cap, cur, rfl, _, _, hc, _⟩
  · subst hn; exact ⟨none, 0, rfl, Nat.le_refl _, Or.inl (List.length_eq_zero_iff.1 hx)⟩
  · exact ⟨_, _, rfl, hc, arow_owns hx.symm h⟩
end Go.Proofs.Ytebohpgdhbammaa
namespace Go.Proofs.Ytebohpgdhbammaa
open Go.RowKit

/-- Two lists apart. -/
def Aprt (v u : Value) : Prop := ∀ b, v.ownBlock = some b → u.ownBlock ≠ some b
theorem aprt_keep {w w' : World} {base e s n : Nat} {v u : Value} {xs : List Value} (h : w.ownsRow base e s u n xs) (hg : w.grownBy w' v.ownBlock) (hne : Aprt v u) : w'.ownsRow base e s u n xs := by
  refine h.kept hg ?_
  cases hb : u.ownBlock with
  | none => exact Or.inl rfl
  | some b => exact Or.inr fun e => hne b (e.symm) hb
theorem aprt_first {w : World} {base e s n g k cap : Nat} {v u : Value} {xs : List Value} (hu : w.ownsRow base e s u n xs) (hat : v.ownBlock = some g ∨ w.heap.size ≤ g) (hne : Aprt v u) : Aprt (.slice (some ⟨g, 0, none⟩) k cap) u := by
  intro b hb hub
  have hbg : g = b := by simpa [Value.ownBlock] using hb
  subst hbg
  rcases hat with h | h
  · exact hne _ h hub
  · have := (hu.lt _ hub).2; omega
theorem aprt_symm {v u : Value} (h : Aprt v u) : Aprt u v := fun b h1 h2 => h b h2 h1
end Go.Proofs.Ytebohpgdhbammaa
namespace Go.Proofs.Ytebohpgdhbammaa.Bx

abbrev Fn := Nat → Int
theorem if_ge {c : Prop} [Decidable c] {x : Int} (h : 0 ≤ x) : 0 ≤ if c then x else 0 := by
  split
  · exact h
  · exact Int.le_refl _
def sumTo (f : Fn) : Nat → Int
  | 0 => 0
  | k + 1 => sumTo f k + f k
theorem sum_add (f g : Fn) : ∀ n, sumTo (fun i => f i + g i) n = sumTo f n + sumTo g n
  | 0 => rfl
  | n + 1 => by simp only [sumTo]; rw [sum_add f g n]; omega
theorem sum_le {f g : Fn} : ∀ n, (∀ i, i < n → f i ≤ g i) → sumTo f n ≤ sumTo g n
  | 0, _ => Int.le_refl _
  | n + 1, h => by
    have h1 := sum_le n (fun i hi => h i (by omega))
    have h2 := h n (by omega)
    simp only [sumTo]; omega
theorem sum_eq {f g : Fn} (n : Nat) (h : ∀ i, i < n → f i = g i) : sumTo f n = sumTo g n :=
  Int.le_antisymm (sum_le n fun i hi => Int.le_of_eq (h i hi)) (sum_le n fun i hi => Int.le_of_eq (h i hi).symm)
theorem sum_const (c : Int) : ∀ n : Nat, sumTo (fun _ => c) n = c * (n : Int)
  | 0 => by simp [sumTo]
  | n + 1 => by simp only [sumTo]; rw [sum_const c n, Int.natCast_succ, Int.mul_add]; omega
theorem sum_pos {f : Fn} (n : Nat) (h : ∀ i, i < n → 0 ≤ f i) : 0 ≤ sumTo f n := by
  have := sum_le (f := fun _ => 0) n h
  rw [sum_const] at this
  omega
theorem sum_mono {f : Fn} {m : Nat} : ∀ n, m ≤ n → (∀ i, i < n → 0 ≤ f i) → sumTo f m ≤ sumTo f n
  | 0, h, _ => by
    have : m = 0 := by omega
    subst this; exact Int.le_refl _
  | n + 1, h, hp => by
    by_cases e : m = n + 1
    · subst e; exact Int.le_refl _
    · have h1 := sum_mono (f := f) (m := m) n (by omega) (fun i hi => hp i (by omega))
      have h2 := hp n (by omega)
      simp only [sumTo]; omega
/-- Just one counts. -/
theorem sum_only {f : Fn} {x : Nat} : ∀ n, x < n → (∀ i, i < n → i ≠ x → f i = 0) → sumTo f n = f x
  | 0, h, _ => by omega
  | n + 1, h, hz => by
    simp only [sumTo]
    by_cases e : x = n
    · subst e
      have : sumTo f x = sumTo (fun _ => 0) x := sum_eq x fun i hi => hz i (by omega) (by omega)
      rw [this, sum_const]; omega
    · rw [sum_only n (by omega) (fun i hi hne => hz i (by omega) hne), hz n (by omega) (fun e' => e e'.symm)]; omega
theorem sum_ge_one {f : Fn} {x n : Nat} (hx : x < n) (hp : ∀ i, i < n → 0 ≤ f i) : f x ≤ sumTo f n := by
  have h1 : sumTo (fun i => if i = x then f x else 0) n = f x := by
    rw [sum_only n hx]
    · simp
    · intro i _ hne; simp [hne]
  rw [← h1]
  refine sum_le n fun i hi => ?_
  by_cases e : i = x
  · subst e; simp
  · simp [e]; exact hp i hi
theorem sum_ge_two {f : Fn} {x y n : Nat} (hx : x < n) (hy : y < n) (hxy : x ≠ y) (hp : ∀ i, i < n → 0 ≤ f i) : f x + f y ≤ sumTo f n := by
  have h1 : sumTo (fun i => if i = x then f x else 0) n = f x := by
    rw [sum_only n hx]
    · simp
    · intro i _ hne; simp [hne]
  have h2 : sumTo (fun i => if i = y then f y else 0) n = f y := by
    rw [sum_only n hy]
    · simp
    · intro i _ hne; simp [hne]
  rw [← h1, ← h2, ← sum_add]
  refine sum_le n fun i hi => ?_
  by_cases e : i = x
  · subst e; simp [hxy]
  · by_cases e' : i = y
    · subst e'; simp [e]
    · simp [e, e']; exact hp i hi

/-- What lies in a box of the first k. -/
def lev (q : Nat → Nat) (x : Fn) (k b : Nat) : Int := sumTo (fun j => if q j = b then x j else 0) k
theorem lev_succ (q : Nat → Nat) (x : Fn) (k b : Nat) : lev q x (k + 1) b = lev q x k b + if q k = b then x k else 0 := rfl
theorem lev_sum (q : Nat → Nat) (x : Fn) (n : Nat) : ∀ N, sumTo (fun b => lev q x N b) n = sumTo (fun i => if q i < n then x i else 0) N
  | 0 => by
    have : sumTo (fun b => lev q x 0 b) n = sumTo (fun _ => 0) n := sum_eq n fun i _ => rfl
    rw [this, sum_const]; simp [sumTo]
  | N + 1 => by
    have e : sumTo (fun b => lev q x (N + 1) b) n = sumTo (fun b => lev q x N b + if q N = b then x N else 0) n := sum_eq n fun i _ => rfl
    rw [e, sum_add, lev_sum q x n N]
    simp only [sumTo]
    congr 1
    by_cases h : q N < n
    · rw [if_pos h, sum_only n h]
      · simp
      · intro i _ hne; rw [if_neg (fun e => hne e.symm)]
    · rw [if_neg h]
      have : sumTo (fun b => if q N = b then x N else 0) n = sumTo (fun _ => 0) n := sum_eq n fun i hi => by
        rw [if_neg]; omega
      rw [this, sum_const]; omega
theorem lev_all {q : Nat → Nat} {x : Fn} {n N : Nat} (h : ∀ i, i < N → q i < n) : sumTo (fun b => lev q x N b) n = sumTo x N := by
  rw [lev_sum]
  exact sum_eq N fun i hi => by rw [if_pos (h i hi)]
theorem lev_nonneg {q : Nat → Nat} {x : Fn} {k : Nat} (hx : ∀ i, i < k → 0 ≤ x i) (b : Nat) : 0 ≤ lev q x k b :=
  sum_pos k fun i hi => if_ge (hx i hi)
theorem lev_mono {q : Nat → Nat} {x : Fn} {k m : Nat} (hkm : k ≤ m) (hx : ∀ i, i < m → 0 ≤ x i) (b : Nat) : lev q x k b ≤ lev q x m b :=
  sum_mono m hkm fun i hi => if_ge (hx i hi)
theorem lev_one {q : Nat → Nat} {x : Fn} {k i b : Nat} (hi : i < k) (e : q i = b) (hx : ∀ i, i < k → 0 ≤ x i) : x i ≤ lev q x k b := by
  have := sum_ge_one (f := fun j => if q j = b then x j else 0) hi (fun j hj => if_ge (hx j hj))
  rw [if_pos e] at this
  exact this
theorem lev_two {q : Nat → Nat} {x : Fn} {k i j b : Nat} (hi : i < k) (hj : j < k) (hij : i ≠ j) (e : q i = b) (e' : q j = b) (hx : ∀ i, i < k → 0 ≤ x i) : x i + x j ≤ lev q x k b := by
  have := sum_ge_two (f := fun j => if q j = b then x j else 0) hi hj hij (fun j hj => if_ge (hx j hj))
  rw [if_pos e, if_pos e'] at this
  exact this
theorem lev_le {q : Nat → Nat} {x y : Fn} {k b : Nat} (h : ∀ i, i < k → q i = b → x i ≤ y i) : lev q x k b ≤ lev q y k b :=
  sum_le k fun i hi => by
    by_cases e : q i = b
    · simp [e]; exact h i hi e
    · simp [e]
theorem lev_scale (q : Nat → Nat) (c : Int) (b : Nat) : ∀ k, lev q (fun _ => c) k b = c * lev q (fun _ => 1) k b
  | 0 => by simp [lev, sumTo]
  | k + 1 => by
    rw [lev_succ, lev_succ, lev_scale q c b k, Int.mul_add]
    split <;> simp
theorem lev_none {q : Nat → Nat} {x : Fn} {k b : Nat} (h : ∀ i, i < k → q i ≠ b) : lev q x k b = 0 := by
  have : lev q x k b = sumTo (fun _ => 0) k := sum_eq k fun i hi => by rw [if_neg (h i hi)]
  rw [this, sum_const]; omega
theorem lev_some {q : Nat → Nat} {x : Fn} {k b : Nat} (h : lev q x k b ≠ 0) : ∃ i, i < k ∧ q i = b := by
  apply Classical.byContradiction
  intro hn
  exact h (lev_none fun i hi e => hn ⟨i, hi, e⟩)
theorem lev_only {q : Nat → Nat} {x : Fn} {k i b : Nat} (hi : i < k) (e : q i = b) (h : ∀ j, j < k → j ≠ i → q j ≠ b) : lev q x k b = x i := by
  have := sum_only (f := fun j => if q j = b then x j else 0) k hi (fun j hj hne => by rw [if_neg (h j hj hne)])
  rw [if_pos e] at this
  exact this
/-- How many lie in a box of the first k. -/
abbrev num (q : Nat → Nat) (k b : Nat) : Int := lev q (fun _ => 1) k b
theorem num_one {q : Nat → Nat} {k i b : Nat} (hi : i < k) (e : q i = b) : 1 ≤ num q k b := lev_one (x := fun _ => 1) hi e (fun _ _ => by omega)
theorem num_two {q : Nat → Nat} {k i j b : Nat} (hi : i < k) (hj : j < k) (hij : i ≠ j) (e : q i = b) (e' : q j = b) : 2 ≤ num q k b := lev_two (x := fun _ => 1) hi hj hij e e' (fun _ _ => by omega)
theorem num_alone {q : Nat → Nat} {k i b : Nat} (hi : i < k) (e : q i = b) (h : num q k b ≤ 1) : ∀ j, j < k → j ≠ i → q j ≠ b := by
  intro j hj hne e'
  have := num_two hj hi hne e' e
  omega

/-- A packing into n boxes. -/
structure Pk (x : Fn) (N n : Nat) (p : Nat → Nat) : Prop where
  lt : ∀ i, i < N → p i < n
  le : ∀ b, b < n → lev p x N b ≤ 20
/-- Each item in the first box in which it had room. -/
structure FF (x : Fn) (N : Nat) (q : Nat → Nat) : Prop where
  full : ∀ i, i < N → ∀ b, b < q i → 20 < lev q x i b + x i
  room : ∀ i, i < N → lev q x i (q i) + x i ≤ 20
structure It (x : Fn) (N : Nat) : Prop where
  lo : ∀ i, i < N → 1 ≤ x i
  hi : ∀ i, i < N → x i ≤ 20
theorem It.ge {x : Fn} {N : Nat} (h : It x N) {k : Nat} (hk : k ≤ N) : ∀ i, i < k → 0 ≤ x i := fun i hi => by have := h.lo i (by omega); omega
/-- Boxes are begun in order. -/
theorem FF.before {x : Fn} {N : Nat} {q : Nat → Nat} (h : FF x N q) (hx : It x N) {i b : Nat} (hi : i < N) (hb : b < q i) : ∃ j, j < i ∧ q j = b := by
  have h1 := h.full i hi b hb
  have h2 := hx.hi i hi
  exact lev_some (x := x) (k := i) (by omega)
theorem FF.le {x : Fn} {N : Nat} {q : Nat → Nat} (h : FF x N q) : ∀ k, k ≤ N → ∀ b, lev q x k b ≤ 20
  | 0, _, b => by simp [lev, sumTo]
  | k + 1, hk, b => by
    rw [lev_succ]
    by_cases e : q k = b
    · subst e; simp; exact h.room k (by omega)
    · simp [e]; exact FF.le h k (by omega) b
/-- Two boxes together have more than one has room for. -/
theorem FF.two {x : Fn} {N : Nat} {q : Nat → Nat} (h : FF x N q) (hx : It x N) {i b : Nat} (hi : i < N) (hb : b < q i) : 20 < lev q x N b + lev q x N (q i) := by
  have h1 := h.full i hi b hb
  have h2 := lev_mono (q := q) (show i ≤ N by omega) (hx.ge (Nat.le_refl _)) b
  have h3 := lev_one (q := q) hi rfl (hx.ge (Nat.le_refl _))
  omega
/-- The boxes used: s of them. -/
structure Many (q : Nat → Nat) (N s : Nat) : Prop where
  lt : ∀ i, i < N → q i < s
  all : ∀ b, b < s → ∃ i, i < N ∧ q i = b
theorem pairs {x : Fn} {N s : Nat} {q : Nat → Nat} (h : FF x N q) (hx : It x N) (hs : Many q N s) : ∀ m, 2 * m ≤ s → 21 * (m : Int) ≤ sumTo (fun b => lev q x N b) (2 * m)
  | 0, _ => by simp [sumTo]
  | m + 1, hm => by
    have h1 := pairs h hx hs m (by omega)
    obtain ⟨i, hi, e⟩ := hs.all (2 * m + 1) (by omega)
    have h2 := h.two hx hi (b := 2 * m) (by omega)
    rw [e] at h2
    have e2 : 2 * (m + 1) = 2 * m + 1 + 1 := by omega
    rw [e2]
    simp only [sumTo]
    omega
/-- First fit needs fewer than twice as many as the least. -/
theorem ff_twice {x : Fn} {N s m : Nat} {q : Nat → Nat} (h : FF x N q) (hx : It x N) (hs : Many q N s) (hm : 1 ≤ m) (hsum : sumTo x N ≤ 20 * (m : Int)) : s + 1 ≤ 2 * m := by
  apply Classical.byContradiction
  intro hn
  have h1 := pairs h hx hs m (by omega)
  have h2 := sum_mono (f := fun b => lev q x N b) (m := 2 * m) s (by omega) (fun b _ => lev_nonneg (hx.ge (Nat.le_refl _)) b)
  rw [lev_all hs.lt] at h2
  omega

/-- How many of the first k lie behind the first n boxes. -/
def ov (q : Nat → Nat) (n : Nat) : Nat → Nat
  | 0 => 0
  | k + 1 => ov q n k + if n ≤ q k then 1 else 0
theorem ov_sum {x : Fn} {N n : Nat} {q : Nat → Nat} (h : FF x N q) (hx : It x N) : ∀ k, k ≤ N → ov q n k ≤ n → 21 * (ov q n k : Int) ≤ sumTo (fun b => lev q x N b) (ov q n k) + sumTo (fun i => if n ≤ q i then x i else 0) k
  | 0, _, _ => by simp [ov, sumTo]
  | k + 1, hk, ho => by
    by_cases hq : n ≤ q k
    · have e : ov q n (k + 1) = ov q n k + 1 := by simp [ov, hq]
      rw [e] at ho ⊢
      have h1 := ov_sum (n := n) h hx k (by omega) (by omega)
      have h2 := h.full k (by omega) (ov q n k) (by omega)
      have h3 := lev_mono (q := q) (show k ≤ N by omega) (hx.ge (Nat.le_refl _)) (ov q n k)
      simp only [sumTo, if_pos hq]
      omega
    · have e : ov q n (k + 1) = ov q n k := by simp [ov, hq]
      rw [e] at ho ⊢
      have h1 := ov_sum (n := n) h hx k (by omega) ho
      simp only [sumTo, if_neg hq]
      omega
/-- Behind as many boxes as are enough lie fewer items than these boxes are. -/
theorem ov_few {x : Fn} {N n : Nat} {q p : Nat → Nat} (h : FF x N q) (hx : It x N) (hp : Pk x N n p) (hn : 1 ≤ n) : ∀ k, k ≤ N → ov q n k < n
  | 0, _ => by simp [ov]; omega
  | k + 1, hk => by
    have h0 := ov_few h hx hp hn k (by omega)
    by_cases hq : n ≤ q k
    · have e : ov q n (k + 1) = ov q n k + 1 := by simp [ov, hq]
      apply Classical.byContradiction
      intro hc
      have e2 : ov q n (k + 1) = n := by omega
      have h1 := ov_sum (n := n) h hx (k + 1) hk (by omega)
      rw [e2] at h1
      rw [lev_sum] at h1
      have h2 := sum_mono (f := fun i => if n ≤ q i then x i else 0) (m := k + 1) N hk (fun i hi => if_ge (hx.ge (Nat.le_refl _) i hi))
      have h3 : sumTo (fun i => if q i < n then x i else 0) N + sumTo (fun i => if n ≤ q i then x i else 0) N = sumTo x N := by
        rw [← sum_add]
        refine sum_eq N fun i _ => ?_
        by_cases hl : q i < n
        · rw [if_pos hl, if_neg (by omega)]; omega
        · rw [if_neg hl, if_pos (by omega)]; omega
      have h4 : sumTo x N ≤ 20 * (n : Int) := by
        rw [← lev_all hp.lt, ← sum_const]
        exact sum_le n fun b hb => hp.le b hb
      omega
    · have e : ov q n (k + 1) = ov q n k := by simp [ov, hq]
      omega
theorem ov_num (q : Nat → Nat) (n : Nat) : ∀ k, sumTo (fun b => num q k b) n + (ov q n k : Int) = (k : Int) := by
  intro k
  rw [lev_sum]
  induction k with
  | zero => simp [sumTo, ov]
  | succ k ih =>
    simp only [sumTo, ov]
    by_cases h : n ≤ q k
    · simp [h, show ¬ q k < n by omega]; omega
    · simp [h, show q k < n by omega]; omega
/-- Items of which no two have room in one box are no more than boxes. -/
theorem apart {x : Fn} {N n t : Nat} {p : Nat → Nat} (hx : It x N) (hp : Pk x N n p) (ht : t ≤ N) (h : ∀ i j, i < j → j < t → 20 < x i + x j) : t ≤ n := by
  have h1 : ∀ b, b < n → num p t b ≤ 1 := by
    intro b hb
    apply Classical.byContradiction
    intro hc
    obtain ⟨i, hi, e⟩ := lev_some (q := p) (x := fun _ => 1) (k := t) (b := b) (fun e => by have e2 : num p t b = 0 := e; omega)
    have hno : ¬ ∀ j, j < t → j ≠ i → p j ≠ b := fun hall => by
      have e2 : num p t b = 1 := lev_only (x := fun _ => 1) hi e hall
      omega
    have : ∃ j, j < t ∧ j ≠ i ∧ p j = b := by
      apply Classical.byContradiction
      intro hn
      exact hno fun j hj hne e' => hn ⟨j, hj, hne, e'⟩
    obtain ⟨j, hj, hne, e'⟩ := this
    have h2 := lev_two (x := x) (k := N) (show i < N by omega) (show j < N by omega) (fun e => hne e.symm) e e' (hx.ge (Nat.le_refl _))
    have h3 := hp.le b hb
    rcases Nat.lt_or_gt_of_ne hne with c | c
    · have := h j i c hi; omega
    · have := h i j c hj; omega
  have h2 : sumTo (fun b => num p t b) n = sumTo (fun _ => 1) t := lev_all fun i hi => hp.lt i (by omega)
  have h3 := sum_le (f := fun b => num p t b) (g := fun _ => 1) n h1
  rw [h2, sum_const, sum_const] at h3
  omega

/-- The first item that did not go into the first n boxes is of a third at most. -/
theorem third {x : Fn} {N n t : Nat} {q p : Nat → Nat} (h : FF x N q) (hx : It x N) (hp : Pk x N n p) (hd : ∀ i j, i ≤ j → j < N → x j ≤ x i) (ht : t < N) (hq : q t = n) (hf : ∀ i, i < t → q i < n) : x t ≤ 6 := by
  apply Classical.byContradiction
  intro hc
  have hge : ∀ k, k ≤ t + 1 → ∀ r : Nat → Nat, ∀ b, 7 * num r k b ≤ lev r x k b := by
    intro k hk r b
    rw [← lev_scale r 7 b k]
    exact lev_le fun i hi _ => by have := hd i t (by omega) ht; omega
  -- weights: two for one alone in its box, else one
  have hw : ∃ w : Fn, (∀ i, i < t → num q t (q i) = 1 → w i = 2) ∧ (∀ i, i < t → num q t (q i) ≠ 1 → w i = 1) ∧ w t = 1 :=
    ⟨fun i => if i < t ∧ num q t (q i) = 1 then 2 else 1, fun i h1 h2 => by simp [h1, h2], fun i h1 h2 => by simp [h2], by simp⟩
  obtain ⟨w, w2, w1, wt⟩ := hw
  have hlen : ∀ b, b < n → lev q w t b = 2 := by
    intro b hb
    obtain ⟨j, hj, ej⟩ := h.before hx ht (b := b) (by rw [hq]; exact hb)
    have n1 := num_one hj ej
    have n2 := hge t (by omega) q b
    have n3 := h.le t (by omega) b
    by_cases e1 : num q t b = 1
    · have h1 : lev q w t b ≤ lev q (fun _ => 2) t b := lev_le fun i hi e => by rw [w2 i hi (by rw [e]; exact e1)]; omega
      have h2 : lev q (fun _ => 2) t b ≤ lev q w t b := lev_le fun i hi e => by rw [w2 i hi (by rw [e]; exact e1)]; omega
      rw [lev_scale] at h1 h2
      have e2 : lev q (fun _ => 1) t b = 1 := e1
      omega
    · have h1 : lev q w t b ≤ lev q (fun _ => 1) t b := lev_le fun i hi e => by rw [w1 i hi (by rw [e]; exact e1)]; omega
      have h2 : lev q (fun _ => 1) t b ≤ lev q w t b := lev_le fun i hi e => by rw [w1 i hi (by rw [e]; exact e1)]; omega
      have e2 : lev q (fun _ => 1) t b = num q t b := rfl
      omega
  have htot : sumTo w (t + 1) = 2 * (n : Int) + 1 := by
    simp only [sumTo]
    rw [wt, ← lev_all (q := q) (x := w) hf, sum_eq n hlen, sum_const]
  have hbox : ∀ b, b < n → lev p w (t + 1) b ≤ 2 := by
    intro b hb
    have l20 : lev p x (t + 1) b ≤ 20 := by
      have := lev_mono (q := p) (show t + 1 ≤ N by omega) (hx.ge (Nat.le_refl _)) b
      have := hp.le b hb
      omega
    by_cases hs : ∃ i, i < t ∧ p i = b ∧ num q t (q i) = 1
    · obtain ⟨i, hi, e, e1⟩ := hs
      have hal : lev q x t (q i) = x i := lev_only hi rfl (num_alone hi rfl (by omega))
      have hfu := h.full t ht (q i) (by rw [hq]; exact hf i hi)
      rw [hal] at hfu
      have hone : ∀ j, j < t + 1 → j ≠ i → p j ≠ b := fun j hj hne e' => by
        have h1 := lev_two (x := x) (k := t + 1) (show i < t + 1 by omega) hj (fun e => hne e.symm) e e' (hx.ge (by omega))
        have h2 := hd j t (by omega) ht
        omega
      rw [lev_only (show i < t + 1 by omega) e hone, w2 i hi e1]
      omega
    · have h1 : lev p w (t + 1) b ≤ lev p (fun _ => 1) (t + 1) b := lev_le fun i hi e => by
        by_cases hit : i = t
        · subst hit; rw [wt]; omega
        · rw [w1 i (by omega) (fun e1 => hs ⟨i, by omega, e, e1⟩)]; omega
      have h2 := hge (t + 1) (Nat.le_refl _) p b
      have e2 : lev p (fun _ => 1) (t + 1) b = num p (t + 1) b := rfl
      omega
  have h1 : sumTo (fun b => lev p w (t + 1) b) n = sumTo w (t + 1) := lev_all fun i hi => hp.lt i (by omega)
  have h2 := sum_le (f := fun b => lev p w (t + 1) b) (g := fun _ => 2) n hbox
  rw [h1, htot, sum_const] at h2
  omega
theorem first_at {P : Nat → Prop} : ∀ k, P k → ∃ m, m ≤ k ∧ P m ∧ ∀ j, j < m → ¬ P j := by
  intro k
  induction k using Nat.strongRecOn with
  | _ k ih =>
    intro hk
    by_cases h : ∃ j, j < k ∧ P j
    · obtain ⟨j, hj, hp⟩ := h
      obtain ⟨m, h1, h2, h3⟩ := ih j hj hp
      exact ⟨m, by omega, h2, h3⟩
    · exact ⟨k, Nat.le_refl _, hk, fun j hj hp => h ⟨j, hj, hp⟩⟩
/-- From the greatest on, of nine at most. -/
theorem johnson {x : Fn} {N n s : Nat} {q p : Nat → Nat} (h : FF x N q) (hx : It x N) (hs : Many q N s) (hp : Pk x N n p) (hd : ∀ i j, i ≤ j → j < N → x j ≤ x i) (hN : N ≤ 9) : 9 * s ≤ 11 * n + 6 := by
  apply Classical.byContradiction
  intro hc
  have hsN : s ≤ N := by
    -- each box has an item
    have h1 : sumTo (fun _ => 1) s ≤ sumTo (fun b => num q N b) s := sum_le s fun b hb => by
      obtain ⟨i, hi, e⟩ := hs.all b hb
      exact num_one hi e
    have h2 : sumTo (fun b => num q N b) s = sumTo (fun _ => 1) N := lev_all hs.lt
    rw [h2, sum_const, sum_const] at h1
    omega
  have hn : 1 ≤ n := by
    apply Classical.byContradiction
    intro h0
    by_cases hN0 : 0 < N
    · have := hp.lt 0 hN0; omega
    · omega
  have hlt : n < s := by omega
  have hov := ov_few h hx hp hn N (Nat.le_refl _)
  have hnum := ov_num q n N
  -- the first item behind n boxes
  obtain ⟨i0, hi0, e0⟩ := hs.all n hlt
  obtain ⟨t, ht0, ⟨htN, hqt⟩, hmin⟩ := first_at (P := fun i => i < N ∧ q i = n) i0 ⟨hi0, e0⟩
  have hf : ∀ i, i < t → q i < n := by
    intro i hi
    apply Classical.byContradiction
    intro hge
    by_cases e : q i = n
    · exact hmin i hi ⟨by omega, e⟩
    · obtain ⟨j, hj, ej⟩ := h.before hx (i := i) (by omega) (b := n) (by omega)
      exact hmin j (by omega) ⟨by omega, ej⟩
  have h6 := third h hx hp hd htN hqt hf
  have small : ∀ i, i < N → n ≤ q i → x i ≤ 6 := by
    intro i hi hq
    have : t ≤ i := by
      apply Classical.byContradiction
      intro hl
      have := hf i (by omega)
      omega
    have := hd t i this hi
    omega
  -- a box that is full for such an item has three of them
  have three : ∀ b, n ≤ b → b + 1 < s → 3 ≤ num q N b := by
    intro b hb hbs
    obtain ⟨i, hi, e⟩ := hs.all (b + 1) hbs
    have h1 := h.full i hi b (by omega)
    have h2 := small i hi (by omega)
    have h3 : lev q x i b ≤ lev q (fun _ => 6) i b := lev_le fun j hj e => small j (by omega) (by omega)
    rw [lev_scale] at h3
    have h4 : lev q (fun _ => 1) i b ≤ lev q (fun _ => 1) N b := lev_mono (by omega) (fun _ _ => by omega) b
    have e5 : num q N b = lev q (fun _ => 1) N b := rfl
    omega
  have htot : sumTo (fun b => num q N b) s = (N : Int) := by
    have h2 : sumTo (fun b => num q N b) s = sumTo (fun _ => 1) N := lev_all hs.lt
    rw [h2, sum_const]; omega
  have hge0 : ∀ b, b < s → 0 ≤ num q N b := fun b _ => lev_nonneg (fun _ _ => by omega) b
  have one : ∀ b, b < s → 1 ≤ num q N b := fun b hb => by
    obtain ⟨i, hi, e⟩ := hs.all b hb
    exact num_one hi e
  by_cases hs2 : n + 2 ≤ s
  · have h3 := three n (Nat.le_refl _) (by omega)
    have h4 := one (n + 1) (by omega)
    have h5 := sum_mono (f := fun b => num q N b) (m := n + 1 + 1) s (by omega) hge0
    simp only [sumTo] at h5
    have hn5 : 5 ≤ n := by omega
    by_cases hs3 : n + 3 ≤ s
    · have h6 := three (n + 1) (by omega) (by omega)
      have h7 := one (n + 2) (by omega)
      have h8 := sum_mono (f := fun b => num q N b) (m := n + 2 + 1) s (by omega) hge0
      simp only [sumTo] at h8
      have h9 := sum_le (f := fun _ => 1) (g := fun b => num q N b) n (fun b hb => one b (by omega))
      rw [sum_const] at h9
      omega
    · -- five boxes with one item each
      have hn' : n = 5 := by omega
      have hsum5 : sumTo (fun b => num q N b) n ≤ 5 := by omega
      have h9 := sum_le (f := fun _ => 1) (g := fun b => num q N b) n (fun b hb => one b (by omega))
      rw [sum_const] at h9
      have each : ∀ b, b < n → num q N b ≤ 1 := by
        intro b hb
        apply Classical.byContradiction
        intro hgt
        have h1 : sumTo (fun c => num q N c - 1) n = sumTo (fun b => num q N b) n - (n : Int) := by
          have := sum_add (fun b => num q N b) (fun _ => -1) n
          rw [sum_const] at this
          have e : sumTo (fun c => num q N c - 1) n = sumTo (fun i => num q N i + -1) n := sum_eq n fun i _ => by omega
          omega
        have h2 := sum_ge_one (f := fun c => num q N c - 1) hb (fun c hc => by have := one c (by omega); omega)
        omega
      have hap := apart (t := t + 1) hx hp (by omega) (fun i j hij hj => by
        have hit : i < t := by omega
        have h1 := h.full t htN (q i) (by rw [hqt]; exact hf i hit)
        have hal : num q t (q i) ≤ 1 := by
          have h2 : num q t (q i) ≤ num q N (q i) := lev_mono (by omega) (fun _ _ => by omega) _
          have h3 := each (q i) (hf i hit)
          omega
        have h4 : lev q x t (q i) = x i := lev_only hit rfl (num_alone hit rfl hal)
        have h5 := hd j t (by omega) htN
        omega)
      -- t is at least n
      have h10 := sum_le (f := fun _ => 1) (g := fun b => num q t b) n (fun b hb => by
        obtain ⟨j, hj, ej⟩ := h.before hx htN (b := b) (by rw [hqt]; exact hb)
        exact num_one hj ej)
      have h11 : sumTo (fun b => num q t b) n = sumTo (fun _ => 1) t := lev_all hf
      rw [h11, sum_const, sum_const] at h10
      omega
  · -- one box more
    have : s = n + 1 := by omega
    have h1 : n = 1 := by omega
    have h5 := sum_mono (f := fun b => num q N b) (m := n + 1) s (by omega) hge0
    simp only [sumTo] at h5
    have := one n (by omega)
    omega
end Go.Proofs.Ytebohpgdhbammaa.Bx
namespace Go.Proofs.Ytebohpgdhbammaa.Lt
open Bx (sumTo sum_add sum_eq sum_le sum_const sum_only sum_pos sum_ge_one)

abbrev Fn := Nat → Int
def seg (nd : Fn) (d t : Nat) : Int := sumTo nd t - sumTo nd d
/-- What is kept of one lot on d for the days up to t. -/
def kp (nd : Fn) (d t : Nat) : Int := sumTo (fun k => if d ≤ k then nd k * ((k : Int) - (d : Int)) else 0) t
def one (S K : Int) (nd : Fn) (d t : Nat) : Int := K * kp nd d t + if 0 < seg nd d t then S else 0
def left (nd lots : Fn) (j : Nat) : Int := sumTo lots j - sumTo nd j
def cst (S K : Int) (nd lots : Fn) (t : Nat) : Int := sumTo (fun i => (if 0 < lots i then S else 0) + K * left nd lots (i + 1)) t
def minTo (g : Fn) : Nat → Int
  | 0 => g 0
  | k + 1 => if g (k + 1) < minTo g k then g (k + 1) else minTo g k
theorem minTo_le (g : Fn) : ∀ k d, d ≤ k → minTo g k ≤ g d
  | 0, d, h => by
    have : d = 0 := by omega
    subst this; exact Int.le_refl _
  | k + 1, d, h => by
    rw [minTo]
    by_cases e : d = k + 1
    · subst e; split <;> omega
    · have := minTo_le g k d (by omega)
      split <;> omega
theorem minTo_is (g : Fn) : ∀ k, ∃ d, d ≤ k ∧ minTo g k = g d
  | 0 => ⟨0, Nat.le_refl _, rfl⟩
  | k + 1 => by
    rw [minTo]
    split
    · exact ⟨k + 1, Nat.le_refl _, rfl⟩
    · obtain ⟨d, h1, h2⟩ := minTo_is g k
      exact ⟨d, by omega, h2⟩
/-- The table, day by day. -/
def tab (S K : Int) (nd : Fn) : Nat → List Int
  | 0 => [0]
  | t + 1 => tab S K nd t ++ [minTo (fun d => (tab S K nd t).getD d 0 + one S K nd d (t + 1)) t]
theorem tab_len (S K : Int) (nd : Fn) : ∀ t, (tab S K nd t).length = t + 1
  | 0 => rfl
  | t + 1 => by simp [tab, tab_len S K nd t]
def T (S K : Int) (nd : Fn) (t : Nat) : Int := (tab S K nd t).getD t 0
theorem tab_get (S K : Int) (nd : Fn) : ∀ m t, t ≤ m → (tab S K nd m).getD t 0 = T S K nd t
  | 0, t, h => by
    have : t = 0 := by omega
    subst this; rfl
  | m + 1, t, h => by
    by_cases e : t = m + 1
    · subst e; rfl
    · have h1 : t < (tab S K nd m).length := by rw [tab_len]; omega
      rw [← tab_get S K nd m t (by omega)]
      simp [tab, List.getD_eq_getElem?_getD, List.getElem?_append_left h1]
theorem T_zero (S K : Int) (nd : Fn) : T S K nd 0 = 0 := rfl
theorem T_succ (S K : Int) (nd : Fn) (t : Nat) : T S K nd (t + 1) = minTo (fun d => (tab S K nd t).getD d 0 + one S K nd d (t + 1)) t := by
  have h := tab_len S K nd t
  rw [T, tab, List.getD_eq_getElem?_getD, List.getElem?_append_right (by omega), h]
  simp
theorem T_le (S K : Int) (nd : Fn) {d t : Nat} (h : d < t) : T S K nd t ≤ T S K nd d + one S K nd d t := by
  obtain ⟨m, rfl⟩ : ∃ m, t = m + 1 := ⟨t - 1, by omega⟩
  rw [T_succ]
  have := minTo_le (fun d => (tab S K nd m).getD d 0 + one S K nd d (m + 1)) m d (by omega)
  have e := tab_get S K nd m d (by omega)
  simp only [e] at this
  exact this
theorem T_is (S K : Int) (nd : Fn) {t : Nat} (h : 0 < t) : ∃ d, d < t ∧ T S K nd t = T S K nd d + one S K nd d t := by
  obtain ⟨m, rfl⟩ : ∃ m, t = m + 1 := ⟨t - 1, by omega⟩
  obtain ⟨d, h1, h2⟩ := minTo_is (fun d => (tab S K nd m).getD d 0 + one S K nd d (m + 1)) m
  refine ⟨d, by omega, ?_⟩
  rw [T_succ, h2]
  have e := tab_get S K nd m d h1
  simp only [e]
theorem sum_from (c : Int) (d : Nat) : ∀ t, sumTo (fun i => if d ≤ i then c else 0) t = if d ≤ t then c * ((t : Int) - (d : Int)) else 0
  | 0 => by
    by_cases h : d = 0
    · subst h; simp [sumTo]
    · simp [sumTo, h]
  | t + 1 => by
    simp only [sumTo]
    rw [sum_from c d t]
    by_cases h1 : d ≤ t
    · rw [if_pos h1, if_pos h1, if_pos (by omega)]
      have : ((t + 1 : Nat) : Int) - (d : Int) = ((t : Int) - (d : Int)) + 1 := by omega
      rw [this, Int.mul_add]; omega
    · rw [if_neg h1, if_neg h1]
      by_cases h2 : d ≤ t + 1
      · rw [if_pos h2]
        have : d = t + 1 := by omega
        subst this; simp
      · rw [if_neg h2]; rfl
/-- What is kept, counted by evenings. -/
theorem kp_left (nd : Fn) (d : Nat) : ∀ t, sumTo (fun i => if d ≤ i then seg nd (i + 1) t else 0) t = kp nd d t
  | 0 => rfl
  | t + 1 => by
    have e : kp nd d (t + 1) = kp nd d t + if d ≤ t then nd t * ((t : Int) - (d : Int)) else 0 := rfl
    rw [e, ← kp_left nd d t, ← sum_from (nd t) d t, ← sum_add]
    simp only [sumTo]
    have e2 : (if d ≤ t then seg nd (t + 1) (t + 1) else 0) = 0 := by
      split
      · unfold seg; omega
      · rfl
    rw [e2, Int.add_zero]
    refine sum_eq t fun i _ => ?_
    by_cases h : d ≤ i
    · simp only [if_pos h]; unfold seg; simp only [sumTo]; omega
    · simp only [if_neg h]; omega
/-- Lots that are enough. -/
structure Ok (nd lots : Fn) (n : Nat) : Prop where
  nn : ∀ i, i < n → 0 ≤ nd i
  ll : ∀ i, i < n → 0 ≤ lots i
  le : ∀ j, j ≤ n → 0 ≤ left nd lots j
theorem Ok.less {nd lots : Fn} {n m : Nat} (h : Ok nd lots n) (hm : m ≤ n) : Ok nd lots m := ⟨fun i hi => h.nn i (by omega), fun i hi => h.ll i (by omega), fun j hj => h.le j (by omega)⟩
theorem last_at {P : Nat → Prop} : ∀ t, (∃ d, d < t ∧ P d ∧ ∀ j, d < j → j < t → ¬ P j) ∨ ∀ j, j < t → ¬ P j
  | 0 => Or.inr fun j hj => by omega
  | t + 1 => by
    by_cases h : P t
    · exact Or.inl ⟨t, by omega, h, fun j h1 h2 => by omega⟩
    · rcases last_at (P := P) t with ⟨d, h1, h2, h3⟩ | h0
      · refine Or.inl ⟨d, by omega, h2, fun j h4 h5 => ?_⟩
        by_cases e : j = t
        · subst e; exact h
        · exact h3 j h4 (by omega)
      · refine Or.inr fun j hj => ?_
        by_cases e : j = t
        · subst e; exact h
        · exact h0 j (by omega)
theorem sum_stay {f : Fn} {d : Nat} : ∀ t, d ≤ t → (∀ j, d ≤ j → j < t → f j = 0) → sumTo f t = sumTo f d
  | 0, h, _ => by
    have : d = 0 := by omega
    subst this; rfl
  | t + 1, h, hz => by
    by_cases e : d = t + 1
    · subst e; rfl
    · simp only [sumTo]
      rw [sum_stay (f := f) (d := d) t (by omega) (fun j h1 h2 => hz j h1 (by omega)), hz t (by omega) (by omega)]; omega
/-- No lots cost less than the table tells. -/
theorem ww {S K : Int} (hS : 0 ≤ S) (hK : 0 ≤ K) {nd lots : Fn} : ∀ t, Ok nd lots t → T S K nd t ≤ cst S K nd lots t := by
  intro t
  induction t using Nat.strongRecOn with
  | _ t ih =>
    intro h
    by_cases ht : t = 0
    · subst ht; exact Int.le_refl _
    rcases last_at (P := fun i => 0 < lots i) t with ⟨d, h1, h2, h3⟩ | h0
    · have hd := ih d h1 (h.less (by omega))
      have hT := T_le S K nd h1
      -- what is kept
      have hev : ∀ i, d ≤ i → i < t → seg nd (i + 1) t ≤ left nd lots (i + 1) := by
        intro i hdi hit
        have e : sumTo lots t = sumTo lots (i + 1) := sum_stay t (by omega) fun j h4 h5 => by
          have := h.ll j h5
          have := h3 j (by omega) h5
          omega
        have := h.le t (Nat.le_refl _)
        unfold left at this ⊢
        unfold seg
        omega
      have hk : kp nd d t ≤ sumTo (fun i => if d ≤ i then left nd lots (i + 1) else 0) t := by
        rw [← kp_left nd d t]
        refine sum_le t fun i hi => ?_
        by_cases e : d ≤ i
        · simp only [if_pos e]; exact hev i e hi
        · simp only [if_neg e]; exact Int.le_refl _
      have hc : ∀ m, d < m → m ≤ t → cst S K nd lots d + S + K * sumTo (fun i => if d ≤ i then left nd lots (i + 1) else 0) m ≤ cst S K nd lots m := by
        intro m
        induction m with
        | zero => intro h4; omega
        | succ m ihm =>
          intro h4 h5
          have hp : 0 ≤ K * left nd lots (m + 1) := Int.mul_nonneg hK (h.le (m + 1) h5)
          have e1 : cst S K nd lots (m + 1) = cst S K nd lots m + ((if 0 < lots m then S else 0) + K * left nd lots (m + 1)) := rfl
          have e2 : sumTo (fun i => if d ≤ i then left nd lots (i + 1) else 0) (m + 1) = sumTo (fun i => if d ≤ i then left nd lots (i + 1) else 0) m + left nd lots (m + 1) := by
            simp only [sumTo]; rw [if_pos (show d ≤ m by omega)]
          rw [e1, e2, Int.mul_add]
          by_cases e : m = d
          · subst e
            rw [if_pos h2]
            have e3 : sumTo (fun i => if m ≤ i then left nd lots (i + 1) else 0) m = 0 := by
              have : sumTo (fun i => if m ≤ i then left nd lots (i + 1) else 0) m = sumTo (fun _ => 0) m := sum_eq m fun i hi => by rw [if_neg (by omega)]
              rw [this, sum_const]; omega
            rw [e3]; omega
          · have := ihm (by omega) (by omega)
            split <;> omega
      have hfin := hc t h1 (Nat.le_refl _)
      have hm := Int.mul_le_mul_of_nonneg_left hk hK
      have ho : one S K nd d t ≤ K * kp nd d t + S := by unfold one; split <;> omega
      omega
    · -- nothing comes: nothing is needed
      have e1 : sumTo lots t = 0 := by
        have : sumTo lots t = sumTo (fun _ => 0) t := sum_eq t fun i hi => by
          have := h.ll i hi
          have := h0 i hi
          omega
        rw [this, sum_const]; omega
      have e2 := h.le t (Nat.le_refl _)
      have e3 : ∀ i, i < t → nd i = 0 := fun i hi => by
        have h1 := sum_ge_one (f := nd) hi h.nn
        have h2 := h.nn i hi
        unfold left at e2
        omega
      have e4 : kp nd 0 t = 0 := by
        have : kp nd 0 t = sumTo (fun _ => 0) t := sum_eq t fun i hi => by simp [e3 i hi]
        rw [this, sum_const]; omega
      have e5 : one S K nd 0 t = 0 := by
        unfold one seg
        rw [e4, if_neg]
        · omega
        · unfold left at e2
          simp only [sumTo]
          omega
      have h1 := T_le S K nd (show 0 < t by omega)
      rw [e5, T_zero] at h1
      have h2 : 0 ≤ cst S K nd lots t := sum_pos t fun i hi => by
        have hp : 0 ≤ K * left nd lots (i + 1) := Int.mul_nonneg hK (h.le (i + 1) (by omega))
        split <;> omega
      omega
theorem kp_mono {nd : Fn} {d t : Nat} (h : 0 ≤ nd t) : kp nd d t ≤ kp nd d (t + 1) := by
  have e : kp nd d (t + 1) = kp nd d t + if d ≤ t then nd t * ((t : Int) - (d : Int)) else 0 := rfl
  rw [e]
  by_cases hd : d ≤ t
  · have : 0 ≤ nd t * ((t : Int) - (d : Int)) := Int.mul_nonneg h (by omega)
    rw [if_pos hd]; omega
  · rw [if_neg hd]; omega
/-- More days cost no less. -/
theorem T_mono {S K : Int} (hS : 0 ≤ S) (hK : 0 ≤ K) {nd : Fn} {t : Nat} (hn : ∀ i, i ≤ t → 0 ≤ nd i) : T S K nd t ≤ T S K nd (t + 1) := by
  obtain ⟨d, h1, h2⟩ := T_is S K nd (t := t + 1) (by omega)
  have hk := Int.mul_le_mul_of_nonneg_left (kp_mono (d := d) (hn t (Nat.le_refl _))) hK
  have hs : seg nd d t ≤ seg nd d (t + 1) := by
    have := hn t (Nat.le_refl _)
    unfold seg; simp only [sumTo]; omega
  by_cases e : d = t
  · subst e
    have hz : kp nd d d = 0 := by
      have : kp nd d d = sumTo (fun _ => 0) d := sum_eq d fun i hi => by rw [if_neg (by omega)]
      rw [this, sum_const]; omega
    rw [hz] at hk
    have : 0 ≤ one S K nd d (d + 1) := by unfold one; split <;> omega
    omega
  · have h3 := T_le S K nd (show d < t by omega)
    have : one S K nd d t ≤ one S K nd d (t + 1) := by
      unfold one
      split <;> split <;> omega
    omega
end Go.Proofs.Ytebohpgdhbammaa.Lt
namespace Go.Proofs.Ytebohpgdhbammaa.Ma
/-- The bins that each load is told of. -/
def bins (F : List (List Bool)) : Nat := (F.getD 0 []).length
def goodB (F : List (List Bool)) : Bool := decide (F.length ≤ 8) && F.all fun r => decide (r.length = bins F) && decide (r.length ≤ 8)
theorem goodB_len {F : List (List Bool)} (h : goodB F = true) : F.length ≤ 8 := by simp [goodB] at h; exact h.1
theorem goodB_row {F : List (List Bool)} (h : goodB F = true) {l : Nat} (hl : l < F.length) : (F.getD l []).length = bins F := by
  simp [goodB] at h
  have := h.2 F[l] (List.getElem_mem hl)
  simp [hl, this]
theorem goodB_bins {F : List (List Bool)} (h : goodB F = true) : bins F ≤ 8 := by
  by_cases e : F.length = 0
  · have : F = [] := List.length_eq_zero_iff.1 e
    subst this; simp [bins]
  · simp [goodB] at h
    have h0 : 0 < F.length := by omega
    have := h.2 F[0] (List.getElem_mem h0)
    omega
theorem goodB_many {F : List (List Bool)} (h : 8 < F.length) : goodB F = false := by simp [goodB, show ¬ F.length ≤ 8 by omega]
theorem goodB_wide {F : List (List Bool)} (h : 8 < bins F) : goodB F = false := by
  cases e : goodB F
  · rfl
  · have := goodB_bins e; omega
theorem goodB_not {F : List (List Bool)} {l : Nat} (hl : l < F.length) (h : (F.getD l []).length ≠ bins F ∨ 8 < (F.getD l []).length) : goodB F = false := by
  cases e : goodB F
  · rfl
  · have h1 := goodB_row e hl; have h2 := goodB_bins e; omega
theorem goodB_of {F : List (List Bool)} (h : F.length ≤ 8) (h2 : ∀ l, l < F.length → (F.getD l []).length = bins F ∧ (F.getD l []).length ≤ 8) : goodB F = true := by
  simp only [goodB, Bool.and_eq_true, decide_eq_true_eq, List.all_eq_true]
  refine ⟨h, fun r hr => ?_⟩
  obtain ⟨i, hi, rfl⟩ := List.getElem_of_mem hr
  have := h2 i hi
  simpa [hi] using this
/-- Whether load l fits bin b. -/
def fit (F : List (List Bool)) (l b : Nat) : Bool := (F.getD l []).getD b false

/-- A search through the bins from b on, k of them, for load l; rc: the search for the load that has a bin. -/
def scan (F : List (List Bool)) (own : List Int) (rc : Nat → List Bool → Option (List (Nat × Nat)) × List Bool) (l : Nat) : Nat → Nat → List Bool → Option (List (Nat × Nat)) × List Bool
  | _, 0, t => (none, t)
  | b, k + 1, t =>
    if fit F l b && !t.getD b false then
      if own.getD b (-1) < 0 then (some [(l, b)], t.set b true)
      else match rc (own.getD b (-1)).toNat (t.set b true) with
        | (some w, t') => (some ((l, b) :: w), t')
        | (none, t') => scan F own rc l (b + 1) k t'
    else scan F own rc l (b + 1) k t
def srch (F : List (List Bool)) (own : List Int) : Nat → Nat → List Bool → Option (List (Nat × Nat)) × List Bool
  | 0, _, t => (none, t)
  | f + 1, l, t => scan F own (srch F own f) l 0 (bins F) t

/-- How many bins are not tried yet. -/
def left (t : List Bool) : Nat := t.count false
theorem left_set {t : List Bool} {b : Nat} (hb : b < t.length) (h : t.getD b false = false) : left (t.set b true) + 1 = left t := by
  have e : t[b] = false := by simpa [hb] using h
  have hp : 0 < List.count false t := List.count_pos_iff.2 (e ▸ List.getElem_mem hb)
  unfold left
  rw [List.count_set hb]
  simp [e]; omega
theorem left_mono : ∀ {t t' : List Bool}, t'.length = t.length → (∀ b, t.getD b false = true → t'.getD b false = true) → left t' ≤ left t
  | [], t', h, _ => by
    have : t' = [] := List.length_eq_zero_iff.1 h
    subst this; exact Nat.le_refl _
  | x :: t, [], h, _ => by simp at h
  | x :: t, y :: t', h, hm => by
    have ih := left_mono (t := t) (t' := t') (by simpa using h) (fun b hb => by have := hm (b + 1); simp at this; simpa using this (by simpa using hb))
    have h0 := hm 0
    simp at h0
    unfold left at *
    cases x <;> cases y <;> simp_all <;> omega
theorem get_set (t : List Bool) (b c : Nat) (hb : b < t.length) : (t.set b true).getD c false = if c = b then true else t.getD c false := by
  by_cases e : c = b
  · subst e; simp [hb]
  · simp [e, Ne.symm e]

/-- A way: each load takes a bin that it fits, which the next one leaves; the last one is free; no bin twice. -/
inductive Chain (F : List (List Bool)) (own : List Int) : Nat → List (Nat × Nat) → Prop
  | last {l b : Nat} : b < bins F → fit F l b = true → own.getD b (-1) < 0 → Chain F own l [(l, b)]
  | step {l b l' : Nat} {w : List (Nat × Nat)} : b < bins F → fit F l b = true → own.getD b (-1) = (l' : Int) → (∀ q ∈ w, q.2 ≠ b) → Chain F own l' w → Chain F own l ((l, b) :: w)

structure Res (F : List (List Bool)) (own : List Int) (l : Nat) (f : Nat) (b0 : Nat) (t : List Bool) (r : Option (List (Nat × Nat)) × List Bool) : Prop where
  len : r.2.length = t.length
  mono : ∀ b, t.getD b false = true → r.2.getD b false = true
  way : ∀ w, r.1 = some w → Chain F own l w ∧ ∀ p ∈ w, t.getD p.2 false = false
  fail : r.1 = none → left t < f → (∀ b, b0 ≤ b → b < bins F → fit F l b = true → r.2.getD b false = true) ∧ ∀ b, b < bins F → r.2.getD b false = true → t.getD b false = false → 0 ≤ own.getD b (-1) ∧ ∀ b', b' < bins F → fit F (own.getD b (-1)).toNat b' = true → r.2.getD b' false = true

theorem scan_res {F : List (List Bool)} {own : List Int} {f : Nat} {rc : Nat → List Bool → Option (List (Nat × Nat)) × List Bool} (hrc : ∀ l t, t.length = bins F → Res F own l f 0 t (rc l t)) (l : Nat) :
    ∀ (k b : Nat) (t : List Bool), b + k = bins F → t.length = bins F → Res F own l (f + 1) b t (scan F own rc l b k t)
  | 0, b, t, hk, ht => ⟨rfl, fun _ h => h, fun w hw => by simp [scan] at hw, fun _ _ => ⟨fun b' h1 h2 => by omega, fun b' _ h1 h2 => by simp [scan] at h1; simp [h1] at h2⟩⟩
  | k + 1, b, t, hk, ht => by
    unfold scan
    by_cases hc : (fit F l b && !t.getD b false) = true
    · rw [if_pos hc]
      simp only [Bool.and_eq_true, Bool.not_eq_true'] at hc
      obtain ⟨hf, hn⟩ := hc
      have hb : b < t.length := by omega
      have hset : ∀ c, (t.set b true).getD c false = if c = b then true else t.getD c false := fun c => get_set t b c hb
      by_cases ho : own.getD b (-1) < 0
      · rw [if_pos ho]
        refine ⟨by simp, fun c hc => ?_, fun w hw => ?_, fun h => by simp at h⟩
        · simp only [hset]; split <;> simp_all
        · simp at hw; subst hw
          exact ⟨.last (by omega) hf ho, fun p hp => by simp at hp; subst hp; exact hn⟩
      · rw [if_neg ho]
        have R := hrc (own.getD b (-1)).toNat (t.set b true) (by simpa using ht)
        generalize rc (own.getD b (-1)).toNat (t.set b true) = r at R
        obtain ⟨o, t'⟩ := r
        have hm : ∀ c, t.getD c false = true → t'.getD c false = true := fun c h => R.mono c (by rw [hset]; split <;> simp_all)
        have hb' : t'.getD b false = true := R.mono b (by rw [hset]; simp)
        cases o with
        | some w =>
          refine ⟨by have := R.len; simpa using this, hm, fun w' hw' => ?_, fun h => by simp at h⟩
          simp at hw'; subst hw'
          obtain ⟨hc1, hc2⟩ := R.way w rfl
          have hne : ∀ q ∈ w, q.2 ≠ b := fun q hq e => by have := hc2 q hq; rw [e, hset] at this; simp at this
          refine ⟨.step (by omega) hf (by omega) hne hc1, fun p hp => ?_⟩
          rcases List.mem_cons.1 hp with rfl | hp
          · exact hn
          · have := hc2 p hp; rw [hset] at this; simpa [hne p hp] using this
        | none =>
          have hlen : t'.length = bins F := by have := R.len; simp at this; omega
          have S := scan_res hrc l k (b + 1) t' (by omega) hlen
          refine ⟨by rw [S.len]; omega, fun c hc => S.mono c (hm c hc), fun w hw => ?_, fun hN hL => ?_⟩
          · obtain ⟨h1, h2⟩ := S.way w hw
            refine ⟨h1, fun p hp => ?_⟩
            cases hv : t.getD p.2 false
            · rfl
            · have := hm _ hv; rw [h2 p hp] at this; cases this
          · have hl1 := left_set hb hn
            obtain ⟨f1, f2⟩ := R.fail rfl (by omega)
            have hl2 : left t' ≤ left t := left_mono (by omega) hm
            obtain ⟨s1, s2⟩ := S.fail hN (by omega)
            refine ⟨fun c h1 h2 h3 => ?_, fun c hc h1 h2 => ?_⟩
            · by_cases e : c = b
              · subst e; exact S.mono _ hb'
              · exact s1 c (by omega) h2 h3
            · cases hv : t'.getD c false
              · exact s2 c hc h1 hv
              · by_cases e : c = b
                · subst e
                  exact ⟨by omega, fun b' hb2 h4 => S.mono _ (f1 b' (Nat.zero_le _) hb2 h4)⟩
                · obtain ⟨g1, g2⟩ := f2 c hc hv (by rw [hset, if_neg e]; exact h2)
                  exact ⟨g1, fun b' hb2 h4 => S.mono _ (g2 b' hb2 h4)⟩
    · rw [if_neg hc]
      have S := scan_res hrc l k (b + 1) t (by omega) ht
      refine ⟨S.len, S.mono, S.way, fun hN hL => ?_⟩
      obtain ⟨s1, s2⟩ := S.fail hN hL
      refine ⟨fun c h1 h2 h3 => ?_, s2⟩
      by_cases e : c = b
      · subst e
        simp only [Bool.and_eq_true, Bool.not_eq_true', not_and, Bool.not_eq_false] at hc
        exact S.mono _ (hc h3)
      · exact s1 c (by omega) h2 h3
theorem srch_res (F : List (List Bool)) (own : List Int) : ∀ (f l : Nat) (t : List Bool), t.length = bins F → Res F own l f 0 t (srch F own f l t)
  | 0, l, t, _ => ⟨rfl, fun _ h => h, fun w hw => by simp [srch] at hw, fun _ h => by omega⟩
  | f + 1, l, t, ht => scan_res (srch_res F own f) l (bins F) 0 t (by omega) ht
/-- Bins that don't fit, or are tried, are passed over. -/
theorem scan_skip {F : List (List Bool)} {own : List Int} {rc : Nat → List Bool → Option (List (Nat × Nat)) × List Bool} {l : Nat} : ∀ (j k b : Nat) (t : List Bool), (∀ c, b ≤ c → c < b + j → (fit F l c && !t.getD c false) = false) → scan F own rc l b (j + k) t = scan F own rc l (b + j) k t
  | 0, k, b, t, _ => by simp
  | j + 1, k, b, t, h => by
    rw [show j + 1 + k = (j + k) + 1 by omega, scan, if_neg (by rw [h b (by omega) (by omega)]; simp), scan_skip j k (b + 1) t (fun c h1 h2 => h c (by omega) (by omega)), show b + 1 + j = b + (j + 1) by omega]
/-- m tells for each load its bin, own for each bin its load, alike; -1: none. -/
structure MO (F : List (List Bool)) (m own : List Int) : Prop where
  lm : m.length = F.length
  lo : own.length = bins F
  mo : ∀ l b : Nat, l < F.length → b < bins F → m.getD l (-1) = (b : Int) → own.getD b (-1) = (l : Int)
  om : ∀ b : Nat, b < bins F → own.getD b (-1) = -1 ∨ ∃ l : Nat, l < F.length ∧ own.getD b (-1) = (l : Int) ∧ m.getD l (-1) = (b : Int) ∧ fit F l b = true
  mm : ∀ l : Nat, l < F.length → m.getD l (-1) = -1 ∨ ∃ b : Nat, b < bins F ∧ m.getD l (-1) = (b : Int)
/-- Each load of the way takes its bin. -/
def upd (m : List Int) (w : List (Nat × Nat)) : List Int := w.foldl (fun m p => m.set p.1 (p.2 : Int)) m
def oset (own : List Int) : List (Nat × Nat) → List Int
  | [] => own
  | p :: w => (oset own w).set p.2 (p.1 : Int)
theorem upd_len : ∀ (w : List (Nat × Nat)) (m : List Int), (upd m w).length = m.length
  | [], _ => rfl
  | p :: w, m => by show (upd (m.set p.1 _) w).length = _; rw [upd_len w]; simp
theorem oset_len (own : List Int) : ∀ (w : List (Nat × Nat)), (oset own w).length = own.length
  | [] => rfl
  | p :: w => by simp [oset, oset_len own w]
theorem iget_set (m : List Int) (l c : Nat) (x : Int) (hl : l < m.length) : (m.set l x).getD c (-1) = if c = l then x else m.getD c (-1) := by
  by_cases e : c = l
  · subst e; simp [hl]
  · simp [e, Ne.symm e]
theorem upd_other : ∀ (w : List (Nat × Nat)) (m : List Int) (l : Nat), (∀ p ∈ w, p.1 < m.length) → (∀ p ∈ w, p.1 ≠ l) → (upd m w).getD l (-1) = m.getD l (-1)
  | [], _, _, _, _ => rfl
  | p :: w, m, l, hb, h => by
    show (upd (m.set p.1 _) w).getD l _ = _
    rw [upd_other w _ l (fun q hq => by simpa using hb q (List.mem_cons_of_mem _ hq)) (fun q hq => h q (List.mem_cons_of_mem _ hq)), iget_set _ _ _ _ (hb p List.mem_cons_self), if_neg (Ne.symm (h p List.mem_cons_self))]
theorem upd_at : ∀ (w : List (Nat × Nat)) (m : List Int), (∀ p ∈ w, p.1 < m.length) → (w.map Prod.fst).Nodup → ∀ p ∈ w, (upd m w).getD p.1 (-1) = (p.2 : Int)
  | [], _, _, _, p, hp => by simp at hp
  | q :: w, m, hb, hn, p, hp => by
    show (upd (m.set q.1 _) w).getD p.1 _ = _
    have hb' : ∀ r ∈ w, r.1 < (m.set q.1 (q.2 : Int)).length := fun r hr => by simpa using hb r (List.mem_cons_of_mem _ hr)
    simp only [List.map_cons, List.nodup_cons] at hn
    rcases List.mem_cons.1 hp with rfl | hp
    · rw [upd_other w _ p.1 hb' (fun r hr e => hn.1 (List.mem_map.2 ⟨r, hr, e⟩)), iget_set _ _ _ _ (hb p List.mem_cons_self), if_pos rfl]
    · exact upd_at w _ hb' hn.2 p hp
theorem oset_other (own : List Int) : ∀ (w : List (Nat × Nat)) (b : Nat), (∀ p ∈ w, p.2 < own.length) → (∀ p ∈ w, p.2 ≠ b) → (oset own w).getD b (-1) = own.getD b (-1)
  | [], _, _, _ => rfl
  | p :: w, b, hb, h => by
    show ((oset own w).set p.2 _).getD b _ = _
    rw [iget_set _ _ _ _ (by rw [oset_len]; exact hb p List.mem_cons_self), if_neg (Ne.symm (h p List.mem_cons_self)), oset_other own w b (fun q hq => hb q (List.mem_cons_of_mem _ hq)) (fun q hq => h q (List.mem_cons_of_mem _ hq))]
theorem oset_at (own : List Int) : ∀ (w : List (Nat × Nat)), (∀ p ∈ w, p.2 < own.length) → (w.map Prod.snd).Nodup → ∀ p ∈ w, (oset own w).getD p.2 (-1) = (p.1 : Int)
  | [], _, _, p, hp => by simp at hp
  | q :: w, hb, hn, p, hp => by
    show ((oset own w).set q.2 _).getD p.2 _ = _
    simp only [List.map_cons, List.nodup_cons] at hn
    rw [iget_set _ _ _ _ (by rw [oset_len]; exact hb q List.mem_cons_self)]
    rcases List.mem_cons.1 hp with rfl | hp
    · rw [if_pos rfl]
    · rw [if_neg (fun e => hn.1 (List.mem_map.2 ⟨p, hp, e⟩))]
      exact oset_at own w (fun r hr => hb r (List.mem_cons_of_mem _ hr)) hn.2 p hp
theorem Chain.bin {F : List (List Bool)} {own : List Int} {l : Nat} {w : List (Nat × Nat)} (h : Chain F own l w) : ∀ p ∈ w, p.2 < bins F ∧ fit F p.1 p.2 = true := by
  induction h with
  | last h1 h2 h3 => intro p hp; simp at hp; subst hp; exact ⟨h1, h2⟩
  | step h1 h2 h3 h4 h5 ih =>
    intro p hp
    rcases List.mem_cons.1 hp with rfl | hp
    · exact ⟨h1, h2⟩
    · exact ih p hp
theorem Chain.nodup {F : List (List Bool)} {own : List Int} {l : Nat} {w : List (Nat × Nat)} (h : Chain F own l w) : (w.map Prod.snd).Nodup := by
  induction h with
  | last h1 h2 h3 => simp
  | step h1 h2 h3 h4 h5 ih =>
    simp only [List.map_cons, List.nodup_cons]
    refine ⟨fun hm => ?_, ih⟩
    obtain ⟨q, hq, e⟩ := List.mem_map.1 hm
    exact h4 q hq e
theorem Chain.head {F : List (List Bool)} {own : List Int} {l : Nat} {w : List (Nat × Nat)} (h : Chain F own l w) : ∃ b w', w = (l, b) :: w' := by
  cases h with
  | last => exact ⟨_, _, rfl⟩
  | step => exact ⟨_, _, rfl⟩
/-- The bin of each is free or the next one's, and each but the first has a bin of the way. -/
theorem Chain.link {F : List (List Bool)} {own : List Int} {l : Nat} {w : List (Nat × Nat)} (h : Chain F own l w) :
    (∀ p ∈ w, own.getD p.2 (-1) < 0 ∨ ∃ q ∈ w, own.getD p.2 (-1) = (q.1 : Int)) ∧ ∀ q ∈ w, q.1 = l ∨ ∃ p ∈ w, own.getD p.2 (-1) = (q.1 : Int) := by
  induction h with
  | last h1 h2 h3 =>
    refine ⟨fun p hp => ?_, fun q hq => ?_⟩
    · simp at hp; subst hp; exact Or.inl h3
    · simp at hq; subst hq; exact Or.inl rfl
  | @step l b l' w h1 h2 h3 h4 h5 ih =>
    obtain ⟨b', w', rfl⟩ := h5.head
    refine ⟨fun p hp => ?_, fun q hq => ?_⟩
    · rcases List.mem_cons.1 hp with rfl | hp
      · exact Or.inr ⟨(l', b'), List.mem_cons_of_mem _ List.mem_cons_self, h3⟩
      · rcases ih.1 p hp with h | ⟨q, hq, e⟩
        · exact Or.inl h
        · exact Or.inr ⟨q, List.mem_cons_of_mem _ hq, e⟩
    · rcases List.mem_cons.1 hq with rfl | hq
      · exact Or.inl rfl
      · rcases ih.2 q hq with e | ⟨p, hp, e⟩
        · exact Or.inr ⟨(l, b), List.mem_cons_self, by rw [e]; exact h3⟩
        · exact Or.inr ⟨p, List.mem_cons_of_mem _ hp, e⟩
theorem MO.own_bin {F : List (List Bool)} {m own : List Int} (h : MO F m own) {b l : Nat} (hb : b < bins F) (e : own.getD b (-1) = (l : Int)) : l < F.length ∧ m.getD l (-1) = (b : Int) ∧ fit F l b = true := by
  rcases h.om b hb with h1 | ⟨l', hl, e', hm, hf⟩
  · omega
  · have : l = l' := by omega
    subst this; exact ⟨hl, hm, hf⟩
theorem Chain.loads {F : List (List Bool)} {m own : List Int} (hM : MO F m own) {l : Nat} {w : List (Nat × Nat)} (h : Chain F own l w) : (∀ p ∈ w, own.getD p.2 (-1) ≠ (l : Int)) → (w.map Prod.fst).Nodup := by
  induction h with
  | last h1 h2 h3 => intro _; simp
  | @step l b l' w h1 h2 h3 h4 h5 ih =>
    intro hn
    simp only [List.map_cons, List.nodup_cons]
    refine ⟨fun hm => ?_, ih fun p hp e => ?_⟩
    · obtain ⟨q, hq, e⟩ := List.mem_map.1 hm
      rcases h5.link.2 q hq with e2 | ⟨p, hp, e2⟩
      · exact hn (l, b) List.mem_cons_self (by rw [h3, ← e2, e])
      · exact hn p (List.mem_cons_of_mem _ hp) (by rw [e2, e])
    · have a := (hM.own_bin h1 h3).2.1
      have c := (hM.own_bin (h5.bin p hp).1 e).2.1
      exact h4 p hp (by omega)
theorem Chain.lt {F : List (List Bool)} {m own : List Int} (hM : MO F m own) {l : Nat} {w : List (Nat × Nat)} (hl : l < F.length) (h : Chain F own l w) : ∀ p ∈ w, p.1 < F.length := fun p hp => by
  rcases h.link.2 p hp with e | ⟨q, hq, e⟩
  · omega
  · exact (hM.own_bin (h.bin q hq).1 e).1
/-- Behind a way that is taken m and own tell alike again. -/
theorem MO.took {F : List (List Bool)} {m own : List Int} (hM : MO F m own) {l : Nat} {w : List (Nat × Nat)} (hl : l < F.length) (hml : m.getD l (-1) = -1) (h : Chain F own l w) :
    MO F (upd m w) (oset own w) ∧ (upd m w).getD l (-1) ≠ -1 ∧ (∀ l', (upd m w).getD l' (-1) = -1 → m.getD l' (-1) = -1) ∧ (∀ l', l' < F.length → m.getD l' (-1) = -1 → l' ≠ l → (upd m w).getD l' (-1) = -1) ∧ (w.map Prod.fst).Nodup := by
  have hno : ∀ b, b < bins F → own.getD b (-1) ≠ (l : Int) := fun b hb e => by have := (hM.own_bin hb e).2.1; omega
  have hnd := h.loads hM (fun p hp => hno p.2 (h.bin p hp).1)
  have hlt : ∀ p ∈ w, p.1 < m.length := fun p hp => by rw [hM.lm]; exact h.lt hM hl p hp
  have hbt : ∀ p ∈ w, p.2 < own.length := fun p hp => by rw [hM.lo]; exact (h.bin p hp).1
  have ua := upd_at w m hlt hnd
  have uo := fun l' => upd_other w m l' hlt
  have oa := oset_at own w hbt h.nodup
  have oo := fun b => oset_other own w b hbt
  have memL : ∀ l', (∃ p ∈ w, p.1 = l') ∨ ∀ p ∈ w, p.1 ≠ l' := fun l' => by
    by_cases e : ∃ p ∈ w, p.1 = l'
    · exact Or.inl e
    · exact Or.inr fun p hp e' => e ⟨p, hp, e'⟩
  have memB : ∀ b, (∃ p ∈ w, p.2 = b) ∨ ∀ p ∈ w, p.2 ≠ b := fun b => by
    by_cases e : ∃ p ∈ w, p.2 = b
    · exact Or.inl e
    · exact Or.inr fun p hp e' => e ⟨p, hp, e'⟩
  refine ⟨⟨by rw [upd_len, hM.lm], by rw [oset_len, hM.lo], fun l' b hl' hb e => ?_, fun b hb => ?_, fun l' hl' => ?_⟩, ?_, fun l' e => ?_, fun l' hl' e hne => ?_, hnd⟩
  · rcases memL l' with ⟨p, hp, rfl⟩ | hn
    · rw [ua p hp] at e
      have : p.2 = b := by omega
      subst this; exact oa p hp
    · rw [uo l' hn] at e
      have ho := hM.mo l' b hl' hb e
      rw [oo b fun p hp e2 => ?_]
      · exact ho
      · subst e2
        rcases h.link.1 p hp with h1 | ⟨q, hq, h1⟩
        · omega
        · exact hn q hq (by omega)
  · rcases memB b with ⟨p, hp, rfl⟩ | hn
    · exact Or.inr ⟨p.1, h.lt hM hl p hp, oa p hp, ua p hp, (h.bin p hp).2⟩
    · rw [oo b hn]
      rcases hM.om b hb with h1 | ⟨l', hl', e1, e2, e3⟩
      · exact Or.inl h1
      · refine Or.inr ⟨l', hl', e1, ?_, e3⟩
        rw [uo l' fun q hq e => ?_]
        · exact e2
        · subst e
          rcases h.link.2 q hq with e4 | ⟨p, hp, e4⟩
          · rw [e4, hml] at e2; omega
          · have := (hM.own_bin (h.bin p hp).1 e4).2.1
            exact hn p hp (by omega)
  · rcases memL l' with ⟨p, hp, rfl⟩ | hn
    · exact Or.inr ⟨p.2, (h.bin p hp).1, ua p hp⟩
    · rw [uo l' hn]; exact hM.mm l' hl'
  · obtain ⟨b, w', rfl⟩ := h.head
    have := ua (l, b) List.mem_cons_self
    simp only at this
    rw [this]; omega
  · rcases memL l' with ⟨p, hp, rfl⟩ | hn
    · rw [ua p hp] at e; omega
    · rw [uo l' hn] at e; exact e
  · rw [uo l' fun q hq e2 => ?_]
    · exact e
    · subst e2
      rcases h.link.2 q hq with e4 | ⟨p, hp, e4⟩
      · exact hne e4
      · have := (hM.own_bin (h.bin p hp).1 e4).2.1
        omega

/-- What is closed: all of it is owned, and owners fit nothing outside. -/
def Clo (F : List (List Bool)) (own : List Int) (R : Nat → Prop) : Prop := ∀ b, b < bins F → R b → 0 ≤ own.getD b (-1) ∧ ∀ b', b' < bins F → fit F (own.getD b (-1)).toNat b' = true → R b'
theorem Chain.out {F : List (List Bool)} {own : List Int} {R : Nat → Prop} (hR : Clo F own R) {l : Nat} {w : List (Nat × Nat)} (h : Chain F own l w) : ∀ p ∈ w, ¬ R p.2 := by
  induction h with
  | last h1 h2 h3 =>
    intro p hp hr
    simp at hp; subst hp
    have := (hR _ h1 hr).1
    omega
  | @step l b l' w h1 h2 h3 h4 h5 ih =>
    intro p hp hr
    rcases List.mem_cons.1 hp with rfl | hp
    · obtain ⟨b', w', rfl⟩ := h5.head
      have q := h5.bin (l', b') List.mem_cons_self
      have := (hR _ h1 hr).2 b' q.1 (by rw [h3]; exact q.2)
      exact ih (l', b') List.mem_cons_self this
    · exact ih p hp hr
structure Inv (F : List (List Bool)) (k : Nat) (m own : List Int) : Prop where
  mo : MO F m own
  later : ∀ l, k ≤ l → l < F.length → m.getD l (-1) = -1
  clo : ∃ R : Nat → Prop, Clo F own R ∧ ∀ l, l < k → l < F.length → m.getD l (-1) = -1 → ∀ b, b < bins F → fit F l b = true → R b
def none8 (n : Nat) : List Int := List.replicate n (-1)
theorem none8_get (n i : Nat) : (none8 n).getD i (-1) = -1 := by
  unfold none8
  rw [List.getD_eq_getElem?_getD, List.getElem?_replicate]
  split <;> rfl
theorem inv_zero (F : List (List Bool)) : Inv F 0 (none8 F.length) (none8 (bins F)) :=
  ⟨⟨by simp [none8], by simp [none8], fun l b _ _ e => by rw [none8_get] at e; omega, fun b _ => Or.inl (none8_get _ _), fun l _ => Or.inl (none8_get _ _)⟩, fun l _ _ => none8_get _ _, fun _ => False, fun _ _ h => h.elim, fun l hl => by omega⟩
/-- The search for a load, from no bin tried. -/
def look (F : List (List Bool)) (own : List Int) (l : Nat) : Option (List (Nat × Nat)) := (srch F own 9 l (List.replicate (bins F) false)).1
def next (F : List (List Bool)) (s : List Int × List Int) (l : Nat) : List Int × List Int :=
  match look F s.2 l with
  | some w => (upd s.1 w, oset s.2 w)
  | none => s
def upto (F : List (List Bool)) : Nat → List Int × List Int
  | 0 => (none8 F.length, none8 (bins F))
  | k + 1 => next F (upto F k) k
theorem left_new (n : Nat) : left (List.replicate n false) = n := by simp [left]
theorem inv_next {F : List (List Bool)} (hG : bins F ≤ 8) {k : Nat} {s : List Int × List Int} (hk : k < F.length) (h : Inv F k s.1 s.2) : Inv F (k + 1) (next F s k).1 (next F s k).2 := by
  have R := srch_res F s.2 9 k (List.replicate (bins F) false) (by simp)
  unfold next look
  generalize srch F s.2 9 k (List.replicate (bins F) false) = r at R
  obtain ⟨o, t'⟩ := r
  cases o with
  | some w =>
    obtain ⟨hc, _⟩ := R.way w rfl
    obtain ⟨t1, t2, t3, t4, t5⟩ := h.mo.took hk (h.later k (Nat.le_refl _) hk) hc
    refine ⟨t1, fun l h1 h2 => t4 l h2 (h.later l (by omega) h2) (by omega), ?_⟩
    obtain ⟨Q, hQ, hU⟩ := h.clo
    refine ⟨Q, fun b hb hr => ?_, fun l h1 h2 h3 => ?_⟩
    · have e : (oset s.2 w).getD b (-1) = s.2.getD b (-1) := oset_other s.2 w b (fun p hp => by rw [h.mo.lo]; exact (hc.bin p hp).1) fun p hp e => hc.out hQ p hp (e ▸ hr)
      show 0 ≤ (oset s.2 w).getD b (-1) ∧ ∀ b', b' < bins F → fit F ((oset s.2 w).getD b (-1)).toNat b' = true → Q b'
      rw [e]
      exact hQ b hb hr
    · have h3' : (upd s.1 w).getD l (-1) = -1 := h3
      by_cases e : l = k
      · subst e; exact absurd h3' t2
      · exact hU l (by omega) h2 (t3 l h3')
  | none =>
    obtain ⟨f1, f2⟩ := R.fail rfl (by rw [left_new]; omega)
    refine ⟨h.mo, fun l h1 h2 => h.later l (by omega) h2, ?_⟩
    obtain ⟨Q, hQ, hU⟩ := h.clo
    refine ⟨fun b => Q b ∨ t'.getD b false = true, fun b hb hr => ?_, fun l h1 h2 h3 b hb hf => ?_⟩
    · rcases hr with hr | hr
      · exact ⟨(hQ b hb hr).1, fun b' h1 h2 => Or.inl ((hQ b hb hr).2 b' h1 h2)⟩
      · have := f2 b hb hr (by rw [List.getD_eq_getElem?_getD, List.getElem?_replicate]; split <;> rfl)
        exact ⟨this.1, fun b' h1 h2 => Or.inr (this.2 b' h1 h2)⟩
    · by_cases e : l = k
      · subst e; exact Or.inr (f1 b (Nat.zero_le _) hb hf)
      · exact Or.inl (hU l (by omega) h2 h3 b hb hf)
theorem inv_upto {F : List (List Bool)} (hG : bins F ≤ 8) : ∀ k, k ≤ F.length → Inv F k (upto F k).1 (upto F k).2
  | 0, _ => inv_zero F
  | k + 1, h => inv_next hG (by omega) (inv_upto hG k (by omega))
/-- The matching, and each bin's load. -/
def mat (F : List (List Bool)) : List Int := (upto F F.length).1
def own (F : List (List Bool)) : List Int := (upto F F.length).2
theorem inv_mat {F : List (List Bool)} (h : goodB F = true) : Inv F F.length (mat F) (own F) := inv_upto (goodB_bins h) _ (Nat.le_refl _)
/-- What the bins below k tell of m. -/
def part (m : List Int) (k : Nat) : List Int := m.map fun x => if x < (k : Int) then x else -1
theorem part_len (m : List Int) (k : Nat) : (part m k).length = m.length := by simp [part]
theorem part_get (m : List Int) (k l : Nat) : (part m k).getD l (-1) = if m.getD l (-1) < (k : Int) then m.getD l (-1) else -1 := by
  unfold part
  by_cases h : l < m.length
  · simp [h]
  · simp [show m.length ≤ l by omega]
theorem ext_get {a b : List Int} (hl : a.length = b.length) (h : ∀ i, i < a.length → a.getD i (-1) = b.getD i (-1)) : a = b := by
  apply List.ext_getElem hl
  intro i h1 h2
  have := h i h1
  simpa [h1, h2] using this
theorem part_zero {F : List (List Bool)} {m own : List Int} (h : MO F m own) : part m 0 = none8 F.length := by
  apply ext_get
  · rw [part_len, h.lm]; simp [none8]
  · intro i hi
    rw [part_len, h.lm] at hi
    rw [part_get, none8_get]
    rcases h.mm i hi with e | ⟨b, hb, e⟩
    · rw [e]; simp
    · rw [e]; simp
theorem part_all {F : List (List Bool)} {m own : List Int} (h : MO F m own) : part m (bins F) = m := by
  apply ext_get
  · rw [part_len]
  · intro i hi
    rw [part_len, h.lm] at hi
    rw [part_get]
    rcases h.mm i hi with e | ⟨b, hb, e⟩
    · rw [e]; simp
    · rw [e, if_pos (by omega)]
theorem part_none {F : List (List Bool)} {m own : List Int} (h : MO F m own) {k : Nat} (hk : k < bins F) (e : own.getD k (-1) = -1) : part m (k + 1) = part m k := by
  apply ext_get
  · rw [part_len, part_len]
  · intro i hi
    rw [part_len, h.lm] at hi
    rw [part_get, part_get]
    have : m.getD i (-1) ≠ (k : Int) := fun e' => by have := h.mo i k hi hk e'; omega
    split <;> split <;> omega
theorem part_some {F : List (List Bool)} {m own : List Int} (h : MO F m own) {k l : Nat} (hk : k < bins F) (e : own.getD k (-1) = (l : Int)) : (part m k).set l (k : Int) = part m (k + 1) := by
  obtain ⟨h1, h2, _⟩ := h.own_bin hk e
  apply ext_get
  · simp [part_len]
  · intro i hi
    simp only [List.length_set, part_len, h.lm] at hi
    rw [iget_set _ _ _ _ (by rw [part_len, h.lm]; exact h1), part_get, part_get]
    by_cases c : i = l
    · subst c; rw [if_pos rfl, h2, if_pos (by omega)]
    · rw [if_neg c]
      have : m.getD i (-1) ≠ (k : Int) := fun e' => by have := h.mo i k hi hk e'; omega
      split <;> split <;> omega
/-- The first place of a bin in m is its owner. -/
theorem MO.first {F : List (List Bool)} {m own : List Int} (h : MO F m own) {b : Nat} (hb : b < bins F) :
    (own.getD b (-1) = -1 ∧ ∀ l, l < m.length → m.getD l (-1) ≠ (b : Int)) ∨ ∃ l, l < m.length ∧ own.getD b (-1) = (l : Int) ∧ m.getD l (-1) = (b : Int) ∧ ∀ l', l' < m.length → m.getD l' (-1) = (b : Int) → l' = l := by
  rcases h.om b hb with e | ⟨l, hl, e1, e2, _⟩
  · exact Or.inl ⟨e, fun l hl e2 => by have := h.mo l b (by rw [← h.lm]; exact hl) hb e2; omega⟩
  · exact Or.inr ⟨l, by rw [h.lm]; exact hl, e1, e2, fun l' hl' e3 => by have := h.mo l' b (by rw [← h.lm]; exact hl') hb e3; omega⟩
end Go.Proofs.Ytebohpgdhbammaa.Ma
