/-
  In one: Math, A, Xi, B, D, Rk, Pf, Pa, Pb, Yf, Pg, Ha, Hb, Hc, Hv, Shelf, Pc, Pd, Pe, Pf1, Hh.
-/
import Derived.Test.YtlbagigghpiifabGreatRows
import Derived.WalkKit
import Derived.WalkSpells
import Derived.WalkLawsBesides
import Derived.Deep.QuietTactic
import Derived.BigQuiet
import Derived.Laws.StructEq
import Derived.OwnWalk
import Derived.Laws.AppendOwn
import Derived.Laws.OwnMore
import Derived.Deep.RegionHeld3
import Derived.Sort.WalkA
import Derived.Lib.AppendZeros
import Derived.Test.YtlbagigghpiifabGreatChecked
import Derived.Shelf.Small.Bits
import Derived.Shelf.Strconv.Itoa0
import Derived.Shelf.Sort.Plain
import Derived.Shelf.Slices.Equal
import Derived.Shelf.Slices.Clone
import Derived.Shelf.Slices.In.SortNone
import Derived.Shelf.SlSortCmp.Insertion
import Derived.Shelf.SlSortCmp.Insertion1
import Derived.WalkMore
import Derived.Deep.AppendLies
import Derived.Laws.AppendOwnNone
namespace Go.Proofs.YtlbagigghpiifabGreat.Fr
def g (a b : Int) : Int := (Int.gcd a b : Int)
def mkN (n d : Int) : Int := if d < 0 then (-n).tdiv (g n d) else n.tdiv (g n d)
def mkD (n d : Int) : Int := if d < 0 then (-d).tdiv (g n d) else d.tdiv (g n d)
def partB (n : Int) : Bool := decide (-1000000000 ≤ n ∧ n ≤ 1000000000)
def goodB (n d : Int) : Bool := decide (-1000000000 ≤ n ∧ n ≤ 1000000000 ∧ 1 ≤ d ∧ d ≤ 1000000000 ∧ g n d = 1)
def fitN (n d : Int) : Int := if goodB n d = true then n else 0
def fitD (n d : Int) : Int := if goodB n d = true then d else 0

theorem g_nonneg (a b : Int) : 0 ≤ g a b := by unfold g; omega
theorem g_pos (a b : Int) (h : b ≠ 0) : 0 < g a b := by
  unfold g
  have : 0 < Int.gcd a b := Int.gcd_pos_of_ne_zero_right a h
  omega
theorem g_step (a b : Int) : g b (a.tmod b) = g a b := by
  unfold g Int.gcd
  rw [Int.natAbs_tmod, Nat.gcd_comm b.natAbs, ← Nat.gcd_rec, Nat.gcd_comm]
theorem g_zero (a : Int) : g a 0 = a.natAbs := by unfold g; simp
theorem g_abs (a b : Int) : g a.natAbs b.natAbs = g a b := by unfold g Int.gcd; simp
theorem g_neg (a b : Int) : g (-a) (-b) = g a b := by unfold g Int.gcd; simp
theorem g_negl (a b : Int) : g (-a) b = g a b := by unfold g Int.gcd; simp
theorem g_negr (a b : Int) : g a (-b) = g a b := by unfold g Int.gcd; simp
theorem g_dvdl (a b : Int) : g a b ∣ a := Int.gcd_dvd_left a b
theorem g_dvdr (a b : Int) : g a b ∣ b := Int.gcd_dvd_right a b
theorem g_le (a b : Int) (h : b ≠ 0) : g a b ≤ b.natAbs := by
  have h1 : 0 < (b.natAbs : Int) := by omega
  have h2 : g a b ∣ (b.natAbs : Int) := by rw [Int.dvd_natAbs]; exact g_dvdr a b
  exact Int.le_of_dvd h1 h2
theorem tmod_lt (a b : Int) (h : b ≠ 0) : (a.tmod b).natAbs < b.natAbs := by
  rw [Int.natAbs_tmod]; exact Nat.mod_lt _ (by omega)
theorem tdiv_abs (a b : Int) : (a.tdiv b).natAbs ≤ a.natAbs := by
  rw [Int.natAbs_tdiv]; exact Nat.div_le_self _ _
theorem mk_iff (n d : Int) (h : 1 ≤ d) : (n = mkN n d ∧ d = mkD n d) ↔ g n d = 1 := by
  have hn : ¬ d < 0 := by omega
  unfold mkN mkD
  rw [if_neg hn, if_neg hn]
  constructor
  · rintro ⟨_, h2⟩
    obtain ⟨k, hk⟩ := g_dvdr n d
    have hp := g_pos n d (by omega)
    generalize g n d = G at *
    have e : d.tdiv G = k := by rw [hk]; exact Int.mul_tdiv_cancel_left k (by omega)
    rw [e] at h2
    subst h2
    exact Int.eq_of_mul_eq_mul_right (a := d) (by omega) (by omega)
  · intro e; rw [e]; simp
theorem mkN_abs (n d : Int) : (mkN n d).natAbs ≤ n.natAbs := by
  unfold mkN; split
  · have := tdiv_abs (-n) (g n d); omega
  · exact tdiv_abs _ _
theorem mkD_abs (n d : Int) : (mkD n d).natAbs ≤ d.natAbs := by
  unfold mkD; split
  · have := tdiv_abs (-d) (g n d); omega
  · exact tdiv_abs _ _
theorem goodB_iff (n d : Int) : goodB n d = true ↔ (-1000000000 ≤ n ∧ n ≤ 1000000000 ∧ 1 ≤ d ∧ d ≤ 1000000000 ∧ g n d = 1) := by unfold goodB; simp
theorem good_of_mk (n d : Int) (h1 : partB n = true) (h2 : partB d = true) (h3 : 0 < d) : goodB n d = ((n == mkN n d) && (d == mkD n d)) := by
  have := mk_iff n d (by omega)
  unfold partB at h1 h2
  simp at h1 h2
  rw [Bool.eq_iff_iff, goodB_iff]
  simp only [Bool.and_eq_true, beq_iff_eq, this]
  omega
theorem good_n1 (n d : Int) (h : partB n = false) : goodB n d = false := by
  unfold partB at h; unfold goodB; simp at h ⊢; omega
theorem good_n2 (n d : Int) (h : partB d = false) : goodB n d = false := by
  unfold partB at h; unfold goodB; simp at h ⊢; omega
theorem good_n3 (n d : Int) (h : d ≤ 0) : goodB n d = false := by
  unfold goodB; simp; omega
theorem mul_bd (x y : Int) (hx0 : -1000000000 ≤ x) (hx1 : x ≤ 1000000000) (hy0 : -1000000000 ≤ y) (hy1 : y ≤ 1000000000) : -1000000000000000000 ≤ x * y ∧ x * y ≤ 1000000000000000000 := by
  have h : (x * y).natAbs ≤ 1000000000 * 1000000000 := by rw [Int.natAbs_mul]; exact Nat.mul_le_mul (by omega) (by omega)
  omega
theorem good_bd (n d : Int) (h : goodB n d = true) : -1000000000 ≤ n ∧ n ≤ 1000000000 ∧ 1 ≤ d ∧ d ≤ 1000000000 := by
  rw [goodB_iff] at h; omega
theorem den_pos (d1 d2 : Int) (h1 : 1 ≤ d1) (h2 : 1 ≤ d2) : 1 ≤ d1 * d2 := by
  have : 0 < d1 * d2 := Int.mul_pos (by omega) (by omega)
  omega
def addN (n1 d1 n2 d2 : Int) : Int := if goodB n1 d1 && goodB n2 d2 then fitN (mkN (n1 * d2 + n2 * d1) (d1 * d2)) (mkD (n1 * d2 + n2 * d1) (d1 * d2)) else 0
def addD (n1 d1 n2 d2 : Int) : Int := if goodB n1 d1 && goodB n2 d2 then fitD (mkN (n1 * d2 + n2 * d1) (d1 * d2)) (mkD (n1 * d2 + n2 * d1) (d1 * d2)) else 0
def addB (n1 d1 n2 d2 : Int) : Bool := goodB n1 d1 && goodB n2 d2 && goodB (mkN (n1 * d2 + n2 * d1) (d1 * d2)) (mkD (n1 * d2 + n2 * d1) (d1 * d2))
def mulN (n1 d1 n2 d2 : Int) : Int := if goodB n1 d1 && goodB n2 d2 then fitN (mkN (n1 * n2) (d1 * d2)) (mkD (n1 * n2) (d1 * d2)) else 0
def mulD (n1 d1 n2 d2 : Int) : Int := if goodB n1 d1 && goodB n2 d2 then fitD (mkN (n1 * n2) (d1 * d2)) (mkD (n1 * n2) (d1 * d2)) else 0
def mulB (n1 d1 n2 d2 : Int) : Bool := goodB n1 d1 && goodB n2 d2 && goodB (mkN (n1 * n2) (d1 * d2)) (mkD (n1 * n2) (d1 * d2))
def divN (n1 d1 n2 d2 : Int) : Int := if goodB n1 d1 && goodB n2 d2 && n2 != 0 then fitN (mkN (n1 * d2) (d1 * n2)) (mkD (n1 * d2) (d1 * n2)) else 0
def divD (n1 d1 n2 d2 : Int) : Int := if goodB n1 d1 && goodB n2 d2 && n2 != 0 then fitD (mkN (n1 * d2) (d1 * n2)) (mkD (n1 * d2) (d1 * n2)) else 0
def divB (n1 d1 n2 d2 : Int) : Bool := goodB n1 d1 && goodB n2 d2 && n2 != 0 && goodB (mkN (n1 * d2) (d1 * n2)) (mkD (n1 * d2) (d1 * n2))
def flr (n d : Int) : Int := if n.tmod d < 0 then n.tdiv d - 1 else n.tdiv d
def lessB (n1 d1 n2 d2 : Int) : Bool := decide (n1 * d2 < n2 * d1)
/-- The sum from the front on, as far as each sum on the way is good. -/
def sumL : List (Int × Int) → Int → Int → Option (Int × Int)
  | [], n, d => some (n, d)
  | x :: r, n, d => if addB n d x.1 x.2 = true then sumL r (addN n d x.1 x.2) (addD n d x.1 x.2) else none
def sumN (l : List (Int × Int)) : Int := if l.length ≤ 50 then ((sumL l 0 1).getD (0, 0)).1 else 0
def sumD (l : List (Int × Int)) : Int := if l.length ≤ 50 then ((sumL l 0 1).getD (0, 0)).2 else 0
def sumB (l : List (Int × Int)) : Bool := decide (l.length ≤ 50) && (sumL l 0 1).isSome
theorem drop_get (xs : List (Int × Int)) (k : Nat) (h : k < xs.length) : xs.drop k = xs.getD k (0, 0) :: xs.drop (k + 1) := by
  rw [List.drop_eq_getElem_cons h, List.getD_eq_getElem?_getD, List.getElem?_eq_getElem h]; rfl
theorem sumL_step (xs : List (Int × Int)) (k : Nat) (n d : Int) (x : Int × Int) (h : k < xs.length) (hx : xs.getD k (0, 0) = x) (hb : addB n d x.1 x.2 = true) : sumL (xs.drop k) n d = sumL (xs.drop (k + 1)) (addN n d x.1 x.2) (addD n d x.1 x.2) := by
  rw [drop_get xs k h, hx]; simp [sumL, hb]
theorem sumL_stop (xs : List (Int × Int)) (k : Nat) (n d : Int) (x : Int × Int) (h : k < xs.length) (hx : xs.getD k (0, 0) = x) (hb : addB n d x.1 x.2 = false) : sumL (xs.drop k) n d = none := by
  rw [drop_get xs k h, hx]; simp [sumL, hb]
theorem sum_none (xs : List (Int × Int)) (h : sumL xs 0 1 = none) : sumN xs = 0 ∧ sumD xs = 0 ∧ sumB xs = false := by
  unfold sumN sumD sumB; rw [h]; simp
theorem sum_some (xs : List (Int × Int)) (hl : xs.length ≤ 50) (n d : Int) (h : sumL xs 0 1 = some (n, d)) : sumN xs = n ∧ sumD xs = d ∧ sumB xs = true := by
  unfold sumN sumD sumB; rw [h]; simp [hl]
theorem sum_long (xs : List (Int × Int)) (hl : 50 < xs.length) : sumN xs = 0 ∧ sumD xs = 0 ∧ sumB xs = false := by
  have : ¬ xs.length ≤ 50 := by omega
  unfold sumN sumD sumB; simp [this]
theorem cop_dvd (a b c : Int) (h : Int.gcd a b = 1) (hd : a ∣ b * c) : a ∣ c := by
  rw [← Int.natAbs_dvd_natAbs] at hd ⊢
  rw [Int.natAbs_mul] at hd
  exact Nat.Coprime.dvd_of_dvd_mul_left (show Nat.Coprime a.natAbs b.natAbs from h) hd
theorem frac_uniq (n1 d1 n2 d2 : Int) (h1 : goodB n1 d1 = true) (h2 : goodB n2 d2 = true) (h : n1 * d2 = n2 * d1) : n1 = n2 ∧ d1 = d2 := by
  rw [goodB_iff] at h1 h2
  obtain ⟨_, _, p1, _, g1⟩ := h1
  obtain ⟨_, _, p2, _, g2⟩ := h2
  have c1 : Int.gcd d1 n1 = 1 := by unfold g at g1; rw [Int.gcd_comm]; omega
  have c2 : Int.gcd d2 n2 = 1 := by unfold g at g2; rw [Int.gcd_comm]; omega
  have e1 : d1 ∣ d2 := by
    have : d1 ∣ n1 * d2 := by rw [h]; exact Int.dvd_mul_left _ _
    exact cop_dvd d1 n1 d2 c1 this
  have e2 : d2 ∣ d1 := by
    have : d2 ∣ n2 * d1 := by rw [← h]; exact Int.dvd_mul_left _ _
    exact cop_dvd d2 n2 d1 c2 this
  have ed : d1 = d2 := Int.dvd_antisymm (by omega) (by omega) e1 e2
  subst ed
  exact ⟨Int.eq_of_mul_eq_mul_right (by omega) h, rfl⟩
theorem less_cases (n1 d1 n2 d2 : Int) (h1 : goodB n1 d1 = true) (h2 : goodB n2 d2 = true) :
    (lessB n1 d1 n2 d2 = true ∧ lessB n2 d2 n1 d1 = false) ∨ (lessB n1 d1 n2 d2 = false ∧ lessB n2 d2 n1 d1 = true) ∨ (lessB n1 d1 n2 d2 = false ∧ lessB n2 d2 n1 d1 = false ∧ n1 = n2 ∧ d1 = d2) := by
  unfold lessB
  by_cases a : n1 * d2 < n2 * d1
  · left; simp [a]; omega
  · by_cases b : n2 * d1 < n1 * d2
    · right; left; simp [b]; omega
    · right; right
      have := frac_uniq n1 d1 n2 d2 h1 h2 (by omega)
      refine ⟨by simp; omega, by simp; omega, this.1, this.2⟩
def subN (n1 d1 n2 d2 : Int) : Int := if goodB n1 d1 && goodB n2 d2 then fitN (mkN (n1 * d2 - n2 * d1) (d1 * d2)) (mkD (n1 * d2 - n2 * d1) (d1 * d2)) else 0
def subD (n1 d1 n2 d2 : Int) : Int := if goodB n1 d1 && goodB n2 d2 then fitD (mkN (n1 * d2 - n2 * d1) (d1 * d2)) (mkD (n1 * d2 - n2 * d1) (d1 * d2)) else 0
def subB (n1 d1 n2 d2 : Int) : Bool := goodB n1 d1 && goodB n2 d2 && goodB (mkN (n1 * d2 - n2 * d1) (d1 * d2)) (mkD (n1 * d2 - n2 * d1) (d1 * d2))
theorem mkN_neg_iff (n d : Int) (hd : 0 < d) : mkN n d < 0 ↔ n < 0 := by
  have hg := g_pos n d (by omega)
  unfold mkN
  rw [if_neg (by omega)]
  obtain ⟨k, hk⟩ := g_dvdl n d
  generalize g n d = G at *
  have e : n.tdiv G = k := by rw [hk]; exact Int.mul_tdiv_cancel_left k (by omega)
  rw [e, hk]
  constructor
  · intro h; exact Int.mul_neg_of_pos_of_neg hg h
  · intro h
    rcases Int.lt_or_le k 0 with h' | h'
    · exact h'
    · have := Int.mul_nonneg (by omega : 0 ≤ G) h'; omega
theorem sub_less (n1 d1 n2 d2 : Int) (h1 : goodB n1 d1 = true) (h2 : goodB n2 d2 = true) (h : subB n1 d1 n2 d2 = true) : lessB n1 d1 n2 d2 = decide (subN n1 d1 n2 d2 < 0) := by
  have p1 := good_bd n1 d1 h1
  have p2 := good_bd n2 d2 h2
  unfold subB at h
  rw [h1, h2] at h
  simp at h
  unfold subN fitN
  rw [h1, h2]
  simp only [Bool.and_self, if_true, h]
  have := mkN_neg_iff (n1 * d2 - n2 * d1) (d1 * d2) (by have := den_pos d1 d2 p1.2.2.1 p2.2.2.1; omega)
  unfold lessB
  rw [Bool.eq_iff_iff]
  simp only [decide_eq_true_eq, this]
  omega
theorem flr_spec (n d : Int) (hd : 1 ≤ d) : flr n d * d ≤ n ∧ n < (flr n d + 1) * d := by
  have e := Int.tmod_add_mul_tdiv n d
  have hl := tmod_lt n d (by omega)
  unfold flr
  split
  · rename_i h
    constructor
    · have : (n.tdiv d - 1) * d = d * n.tdiv d - d := by rw [Int.sub_mul, Int.one_mul, Int.mul_comm]
      rw [this]; omega
    · have : (n.tdiv d - 1 + 1) * d = d * n.tdiv d := by rw [Int.sub_add_cancel, Int.mul_comm]
      rw [this]; omega
  · rename_i h
    constructor
    · rw [Int.mul_comm]; omega
    · have : (n.tdiv d + 1) * d = d * n.tdiv d + d := by rw [Int.add_mul, Int.one_mul, Int.mul_comm]
      rw [this]; omega
theorem sumL_snoc (ys : List (Int × Int)) (x : Int × Int) : ∀ n d, sumL (ys ++ [x]) n d = (sumL ys n d).bind fun p => if addB p.1 p.2 x.1 x.2 = true then some (addN p.1 p.2 x.1 x.2, addD p.1 p.2 x.1 x.2) else none := by
  induction ys with
  | nil => intro n d; simp [sumL]
  | cons y r ih =>
    intro n d
    simp only [List.cons_append, sumL]
    split
    · exact ih _ _
    · rfl
theorem sum_back (ys : List (Int × Int)) (x : Int × Int) (h : sumB (ys ++ [x]) = true) : sumB ys = true ∧ addB (sumN ys) (sumD ys) x.1 x.2 = true ∧ addN (sumN ys) (sumD ys) x.1 x.2 = sumN (ys ++ [x]) ∧ addD (sumN ys) (sumD ys) x.1 x.2 = sumD (ys ++ [x]) := by
  unfold sumB at h
  simp only [List.length_append, List.length_cons, List.length_nil, Bool.and_eq_true, decide_eq_true_eq] at h
  obtain ⟨hl, hs⟩ := h
  rw [sumL_snoc] at hs
  cases e : sumL ys 0 1 with
  | none => rw [e] at hs; simp at hs
  | some p =>
    rw [e] at hs
    simp only [Option.bind_some] at hs
    have hadd : addB p.1 p.2 x.1 x.2 = true := by
      cases hh : addB p.1 p.2 x.1 x.2
      · rw [hh] at hs; simp at hs
      · rfl
    have s1 := sum_some ys (by omega) p.1 p.2 e
    have e2 : sumL (ys ++ [x]) 0 1 = some (addN p.1 p.2 x.1 x.2, addD p.1 p.2 x.1 x.2) := by rw [sumL_snoc, e]; simp [hadd]
    have s2 := sum_some (ys ++ [x]) (by simp; omega) _ _ e2
    rw [s1.1, s1.2.1, s2.1, s2.2.1]
    exact ⟨s1.2.2, hadd, rfl, rfl⟩
end Go.Proofs.YtlbagigghpiifabGreat.Fr
namespace Go.Proofs.YtlbagigghpiifabGreat
open Go.RowKit

theorem frac_held : Tryz.prog.stoodInHeld 32 = false := by kernel_rfl
theorem frac_guard : Tryz.prog.eqGuardType Tryz.prog.depth 32 = false := by kernel_rfl
theorem frac_struct : Tryz.prog.underlying 32 = some (.struct (Tryz.prog.fieldsOf 32)) := by kernel_rfl
theorem frac_eq (a b c d : Int) (w : World) : (binOp .eql 32 (.agg #[.int .i64 a, .int .i64 b]) (.agg #[.int .i64 c, .int .i64 d])).run Tryz.prog w = .ok (.bool (a == c && b == d)) w := by
  have u3 := Tryz.underlying3
  have a3 := Tryz.isAgg3
  have z3 := Tryz.sizeOf3
  rw [run_eql_struct, show (10000 : Nat) = 9999 + 1 from rfl, run_equalIn_agg w 9999 32 _ _ frac_struct frac_held]
  simp only [Program.fieldsOf, Tryz.underlying32]
  go_simp
  by_cases h1 : a = c <;> by_cases h2 : b = d <;> simp [h1, h2]
theorem frac_neq (a b c d : Int) (w : World) : (binOp .neq 32 (.agg #[.int .i64 a, .int .i64 b]) (.agg #[.int .i64 c, .int .i64 d])).run Tryz.prog w = .ok (.bool (!(a == c && b == d))) w := by
  have u3 := Tryz.underlying3
  have a3 := Tryz.isAgg3
  have z3 := Tryz.sizeOf3
  rw [run_neq_struct, show (10000 : Nat) = 9999 + 1 from rfl, run_equalIn_agg w 9999 32 _ _ frac_struct frac_held]
  simp only [Program.fieldsOf, Tryz.underlying32]
  go_simp
  by_cases h1 : a = c <;> by_cases h2 : b = d <;> simp [h1, h2]
theorem frac_eqg (x y : Operand) (a b c d : Int) (w : World) : (eqGuard .eql 32 x y (.agg #[.int .i64 a, .int .i64 b]) (.agg #[.int .i64 c, .int .i64 d])).run Tryz.prog w = .ok () w := run_eqGuard_agg w _ _ _ _ _ _ frac_guard
theorem frac_neqg (x y : Operand) (a b c d : Int) (w : World) : (eqGuard .neq 32 x y (.agg #[.int .i64 a, .int .i64 b]) (.agg #[.int .i64 c, .int .i64 d])).run Tryz.prog w = .ok () w := run_eqGuard_agg w _ _ _ _ _ _ frac_guard

set_option maxHeartbeats 400000 in
theorem isPart_any (n : Int) (w : World) :
    Calls Tryz.prog 114 #[.int .i64 n] w fun e w' => e = .returned (.bool (Fr.partB n)) ∧ w' = w := by
  by_cases h1 : -1000000000 ≤ n
  · by_cases h2 : n ≤ 1000000000
    · have hv : Fr.partB n = true := by unfold Fr.partB; simp [h1, h2]
      rw [hv]; clear hv
      go_enter Tryz.func114, Tryz.ntmps114
      go_wp2
      go_ret
      exact ⟨rfl, rfl⟩
    · have hv : Fr.partB n = false := by unfold Fr.partB; simp [h2]
      rw [hv]; clear hv
      go_enter Tryz.func114, Tryz.ntmps114
      go_wp2
      go_ret
      exact ⟨rfl, rfl⟩
  · have hv : Fr.partB n = false := by unfold Fr.partB; simp [h1]
    rw [hv]; clear hv
    go_enter Tryz.func114, Tryz.ntmps114
    go_wp2
    go_ret
    exact ⟨rfl, rfl⟩

theorem isPart_yes {n : Int} {w : World} (h : Fr.partB n = true) : Calls Tryz.prog 114 #[.int .i64 n] w fun e w' => e = .returned (.bool true) ∧ w' = w := by have := isPart_any n w; rwa [h] at this
theorem isPart_no {n : Int} {w : World} (h : Fr.partB n = false) : Calls Tryz.prog 114 #[.int .i64 n] w fun e w' => e = .returned (.bool false) ∧ w' = w := by have := isPart_any n w; rwa [h] at this

theorem World.drewN_drew (w : World) (k : Nat) : (w.drewN k).drew = w.drewN (k + 1) := rfl
theorem hide {p : Prop} (h : p) : Hid p := h
theorem ret_bool {a b : Bool} (h : a = b) : Ending.returned (.bool a) = .returned (.bool b) := by rw [h]
theorem ret_int {k : IntKind} {a b : Int} (h : a = b) : Ending.returned (.int k a) = .returned (.int k b) := by rw [h]

set_option maxHeartbeats 400000 in
theorem gcd_any (a b : Int) (w : World) (ha : a.natAbs ≤ 4000000000000000000) (hb : b.natAbs ≤ 4000000000000000000) :
    Calls Tryz.prog 104 #[.int .i64 a, .int .i64 b] w fun e w' => e = .returned (.int .i64 (Fr.g a b)) ∧ ∃ k, w' = w.drewN k := by
  go_enter Tryz.func104, Tryz.ntmps104
  go_wp2
  go_loopw [0, 1] (fun s t wr => ∃ x y : Int, s = .int .i64 x ∧ t = .int .i64 y ∧ -4000000000000000000 ≤ x ∧ x ≤ 4000000000000000000 ∧ -4000000000000000000 ≤ y ∧ y ≤ 4000000000000000000 ∧ Hid (Fr.g x y = Fr.g a b) ∧ ∃ k, wr = w.drewN k) (fun _ t _ => (intOf t).natAbs)
  case atStart => exact ⟨a, b, rfl, rfl, by omega, by omega, by omega, by omega, hide rfl, 0, rfl⟩
  case round =>
    obtain ⟨x, y, rfl, rfl, hx0, hx1, hy0, hy1, hg, k, rfl⟩ := hrel
    by_cases h0 : y = 0
    · subst h0
      by_cases hx : x < 0
      · go_wp2
        go_ret
        exact ⟨ret_int (by have := hg.out; rw [Fr.g_zero] at this; omega), k, rfl⟩
      · go_wp2
        go_ret
        exact ⟨ret_int (by have := hg.out; rw [Fr.g_zero] at this; omega), k, rfl⟩
    · have hne : (y == 0) = false := by simpa using h0
      have hne' : (y != 0) = true := by simpa using h0
      go_wp2
      go_region
      have hm := Fr.tmod_lt x y h0
      have hgs := Fr.g_step x y
      clear hne hne'
      go_wp2
      go_roundw
      case rel => exact ⟨y, x.tmod y, rfl, rfl, hy0, hy1, by omega, by omega, hide (hgs.trans hg.out), k + 1, rfl⟩
      case measure => simp only [intOf]; omega

theorem wrap_id (a : Int) (h0 : -9000000000000000000 ≤ a) (h1 : a ≤ 9000000000000000000) : wrap64 a = a := by unfold wrap64; omega
theorem wrap_id' (a : Int) (h0 : -9223372036854775808 ≤ a) (h1 : a ≤ 9223372036854775807) : wrap64 a = a := by unfold wrap64; omega
theorem wrap_mul (x y : Int) (hx0 : -1000000000 ≤ x) (hx1 : x ≤ 1000000000) (hy0 : -1000000000 ≤ y) (hy1 : y ≤ 1000000000) : wrap64 (x * y) = x * y := by
  have := Fr.mul_bd x y hx0 hx1 hy0 hy1
  exact wrap_id _ (by omega) (by omega)
theorem mkN_neg (n d : Int) (h0 : -4000000000000000000 ≤ n) (h1 : n ≤ 4000000000000000000) (hd : d < 0) : wrap64 (-n.tdiv (Fr.g (-n) (-d))) = Fr.mkN n d := by
  have := Fr.tdiv_abs n (Fr.g (-n) (-d))
  rw [wrap_id _ (by omega) (by omega)]
  unfold Fr.mkN; rw [if_pos hd, Fr.g_neg, Int.neg_tdiv]
theorem mkD_neg (n d : Int) (h0 : -4000000000000000000 ≤ d) (hd : d < 0) : wrap64 (-d.tdiv (Fr.g (-n) (-d))) = Fr.mkD n d := by
  have := Fr.tdiv_abs d (Fr.g (-n) (-d))
  rw [wrap_id _ (by omega) (by omega)]
  unfold Fr.mkD; rw [if_pos hd, Fr.g_neg, Int.neg_tdiv]
theorem mkN_pos (n d : Int) (hd : 0 < d) : n.tdiv (Fr.g n d) = Fr.mkN n d := by
  unfold Fr.mkN; rw [if_neg (by omega)]
theorem wrap_mkN (n d : Int) (h0 : -4000000000000000000 ≤ n) (h1 : n ≤ 4000000000000000000) : wrap64 (Fr.mkN n d) = Fr.mkN n d := by
  have := Fr.mkN_abs n d
  exact wrap_id _ (by omega) (by omega)
theorem mkD_pos (n d : Int) (hd : 0 < d) : d / Fr.g n d = Fr.mkD n d := by
  unfold Fr.mkD; rw [if_neg (by omega), Int.tdiv_eq_ediv_of_nonneg (by omega)]

set_option maxHeartbeats 400000 in
theorem lowest_neg (n d : Int) (w : World) (hn0 : -4000000000000000000 ≤ n) (hn1 : n ≤ 4000000000000000000) (hd0 : -4000000000000000000 ≤ d) (hd1 : d < 0) :
    Calls Tryz.prog 85 #[.int .i64 n, .int .i64 d] w fun e w' => e = .returned (.agg #[.int .i64 (Fr.mkN n d), .int .i64 (Fr.mkD n d)]) ∧ Below w.heap.size w w' := by
  have hg := Fr.g_pos (-n) (-d) (by omega)
  have hg' := Fr.g_le (-n) (-d) (by omega)
  have hne : (Fr.g (-n) (-d) == 0) = false := by simp; omega
  have e1 := mkN_neg n d hn0 hn1 hd1
  have e2 := mkD_neg n d hd0 hd1
  go_enter Tryz.func85, Tryz.ntmps85
  go_wp2_with (go_at_call 104; refine (gcd_any _ _ _ (by omega) (by omega)).mono ?_; rintro e w' ⟨rfl, k, rfl⟩)
  go_region
  go_wp2
  exact bodyPost_ret (v := .agg #[.int .i64 (Fr.mkN n d), .int .i64 (Fr.mkD n d)]) (by simp [results, Tryz.results85, go_sem]) rfl ⟨rfl, ((((Below.refl _ _).alloc (Nat.le_refl _) _).trans (below_drewN (Below.refl _ _) _)).setCell (by simp) _).setCell (by simp) _⟩

set_option maxHeartbeats 400000 in
theorem lowest_pos (n d : Int) (w : World) (hn0 : -4000000000000000000 ≤ n) (hn1 : n ≤ 4000000000000000000) (hd0 : 0 < d) (hd1 : d ≤ 4000000000000000000) :
    Calls Tryz.prog 85 #[.int .i64 n, .int .i64 d] w fun e w' => e = .returned (.agg #[.int .i64 (Fr.mkN n d), .int .i64 (Fr.mkD n d)]) ∧ Below w.heap.size w w' := by
  have hg := Fr.g_pos n d (by omega)
  have hg' := Fr.g_le n d (by omega)
  have hne : (Fr.g n d == 0) = false := by simp; omega
  have e1 := mkN_pos n d hd0
  have e2 := mkD_pos n d hd0
  have e3 := wrap_mkN n d hn0 hn1
  have hd2 : ¬ d < 0 := by omega
  go_enter Tryz.func85, Tryz.ntmps85
  go_wp2_with (go_at_call 104; refine (gcd_any _ _ _ (by omega) (by omega)).mono ?_; rintro e w' ⟨rfl, k, rfl⟩)
  go_region
  go_wp2
  exact bodyPost_ret (v := .agg #[.int .i64 (Fr.mkN n d), .int .i64 (Fr.mkD n d)]) (by simp [results, Tryz.results85, go_sem]) rfl ⟨rfl, ((((Below.refl _ _).alloc (Nat.le_refl _) _).trans (below_drewN (Below.refl _ _) _)).setCell (by simp) _).setCell (by simp) _⟩

theorem lowest_any (n d : Int) (w : World) (hn0 : -4000000000000000000 ≤ n) (hn1 : n ≤ 4000000000000000000) (hd0 : -4000000000000000000 ≤ d) (hd1 : d ≤ 4000000000000000000) (h : d ≠ 0) :
    Calls Tryz.prog 85 #[.int .i64 n, .int .i64 d] w fun e w' => e = .returned (.agg #[.int .i64 (Fr.mkN n d), .int .i64 (Fr.mkD n d)]) ∧ Below w.heap.size w w' := by
  by_cases hd : d < 0
  · exact lowest_neg n d w hn0 hn1 hd0 hd
  · exact lowest_pos n d w hn0 hn1 (by omega) hd1
end Go.Proofs.YtlbagigghpiifabGreat
namespace Go.Proofs.YtlbagigghpiifabGreat
open Go.RowKit

def ints (xs : List Int) : List Value := xs.map fun x => .int .i64 x
theorem ints_len (xs : List Int) : (ints xs).length = xs.length := by simp [ints]
theorem ints_snoc (xs : List Int) (x : Int) : ints (xs ++ [x]) = ints xs ++ [.int .i64 x] := by simp [ints]
theorem ints_get (xs : List Int) (j : Nat) (h : j < xs.length) : (ints xs)[j]? = some (.int .i64 (xs.getD j 0)) := by
  simp [ints, h]
theorem ints_set (xs : List Int) (j : Nat) (x : Int) : (ints xs).set j (.int .i64 x) = ints (xs.set j x) := by simp [ints, List.map_set]

/-- A slice of whole numbers, as it lies in memory. -/
def IRow (w : World) (v : Value) (xs : List Int) : Prop :=
  (xs = [] ∧ ∃ a c, v = .slice a 0 c) ∨ ∃ b o c, v = .slice (some ⟨b, o, none⟩) xs.length c ∧ b < w.heap.size ∧ ∀ i, i < xs.length → w.cell? ⟨b, o + i, none⟩ = some (.int .i64 (xs.getD i 0))
theorem IRow.below {w w' : World} {v : Value} {xs : List Int} (h : IRow w v xs) (hb : Below w.heap.size w w') : IRow w' v xs := by
  rcases h with h | ⟨b, o, c, hv, hlt, hc⟩
  · exact Or.inl h
  · exact Or.inr ⟨b, o, c, hv, Nat.lt_of_lt_of_le hlt hb.size, fun i hi => (hb.cell (p := ⟨b, o + i, none⟩) hlt).trans (hc i hi)⟩
theorem irow_owns {w : World} {base e : Nat} {v : Value} {xs : List Int} (h : w.ownsRow base e 1 v xs.length (ints xs)) : IRow w v xs := by
  rcases h.2 with ⟨hv, hn⟩ | ⟨g, cap, cur, hv, hb, hg, r⟩
  · exact Or.inl ⟨List.length_eq_zero_iff.1 hn, none, 0, hn ▸ hv⟩
  · subst hv
    refine Or.inr ⟨g, 0, cap, rfl, (Array.getElem?_eq_some_iff.1 hg).1, fun i hi => ?_⟩
    rw [Nat.zero_add, h.cellAt i (by simpa using hi), ints_get xs i hi]

set_option maxHeartbeats 400000 in
theorem eqI_zero (a b : Option Addr) (c d : Nat) (w : World) :
    Calls Tryz.prog 32 #[.slice a 0 c, .slice b 0 d] w fun e w' => e = .returned (.bool true) ∧ w' = w := by
  go_enter Tryz.func32, Tryz.ntmps32
  go_wp2_with fail
  go_loop [5] (fun s => s = .int .i64 0) (fun s => 0)
  case atStart => rfl
  case round =>
    subst hrel
    go_wp2_with fail
    go_ret
    exact ⟨rfl, rfl⟩
set_option maxHeartbeats 1000000 in
theorem eqI_same (xs : List Int) (b o c b' o' c' : Nat) (w : World) (hl : xs.length ≤ 4000000000000) (h1 : ∀ i, i < xs.length → w.cell? ⟨b, o + i, none⟩ = some (.int .i64 (xs.getD i 0))) (h2 : ∀ i, i < xs.length → w.cell? ⟨b', o' + i, none⟩ = some (.int .i64 (xs.getD i 0))) :
    Calls Tryz.prog 32 #[.slice (some ⟨b, o, none⟩) xs.length c, .slice (some ⟨b', o', none⟩) xs.length c'] w fun e w' => e = .returned (.bool true) ∧ ∃ m, w' = w.drewN m := by
  have hne : ((xs.length : Int) != (xs.length : Int)) = false := by simp
  go_enter Tryz.func32, Tryz.ntmps32
  go_wp2_with fail
  go_loopw [5] (fun s wr => ∃ k : Nat, s = .int .i64 k ∧ k ≤ xs.length ∧ ∃ m, wr = w.drewN m) (fun s _ => xs.length - (intOf s).toNat)
  case atStart => exact ⟨0, rfl, Nat.zero_le _, 0, rfl⟩
  case round =>
    obtain ⟨k, rfl, hk, m, rfl⟩ := hrel
    by_cases hlt : k < xs.length
    · have r1 := h1 k hlt
      have r2 := h2 k hlt
      have i0 : (0 : Int) ≤ (k : Int) := by omega
      have i1 : (k : Int) < (xs.length : Int) := by omega
      generalize xs.getD k 0 = x at *
      have hxx : (x != x) = false := by simp
      go_wp2_with fail
      go_region
      go_wp2_with fail
      go_roundw
      case rel => exact ⟨k + 1, by go_num, by omega, m + 1, rfl⟩
      case measure => simp only [intOf]; omega
    · go_wp2_with fail
      go_ret
      exact ⟨rfl, m, rfl⟩

set_option maxHeartbeats 400000 in
theorem mark_zero (a : Option Addr) (c : Nat) (k : Int) (w : World) :
    Calls Tryz.prog 39 #[.slice a 0 c, .int .i64 k] w fun e w' => e = .returned (.int .i64 k) ∧ w' = w := by
  go_enter Tryz.func39, Tryz.ntmps39
  go_wp2_with fail
  go_loop [1, 5] (fun s t => s = .int .i64 k ∧ t = .int .i64 0) (fun s t => 0)
  case atStart => exact ⟨rfl, rfl⟩
  case round =>
    obtain ⟨rfl, rfl⟩ := hrel
    go_wp2_with fail
    go_ret
    exact ⟨rfl, rfl⟩
set_option maxHeartbeats 1000000 in
theorem mark_any (g n cap base : Nat) (xs : List Int) (k : Int) (w : World) (hx : xs.length = n) (hn : n ≤ 4000000000000) (k0 : 0 ≤ k) (k1 : k ≤ 4000000000000) (hown : w.ownsRow base 3 1 (.slice (some ⟨g, 0, none⟩) n cap) n (ints xs)) :
    Calls Tryz.prog 39 #[.slice (some ⟨g, 0, none⟩) n cap, .int .i64 k] w fun e w' => e = .returned (.int .i64 (k + n)) ∧ (∃ ys : List Int, ys.length = n ∧ (∀ j, j < n → ys.getD j 0 = k + j) ∧ w'.ownsRow base 3 1 (.slice (some ⟨g, 0, none⟩) n cap) n (ints ys)) ∧ w.grownBy w' (some g) := by
  go_enter Tryz.func39, Tryz.ntmps39
  go_wp2_with fail
  go_loopw [1, 5] (fun s t wr => ∃ (i : Nat) (ys : List Int), t = .int .i64 i ∧ s = .int .i64 (k + i) ∧ i ≤ n ∧ ys.length = n ∧ Hid (∀ j, j < i → ys.getD j 0 = k + j) ∧ wr.ownsRow base 3 1 (.slice (some ⟨g, 0, none⟩) n cap) n (ints ys) ∧ w.grownBy wr (some g)) (fun _ t _ => n - (intOf t).toNat)
  case atStart => exact ⟨0, xs, rfl, by simp, Nat.zero_le _, hx, hide (by intro j hj; omega), hown, World.grownBy.refl _ _⟩
  case round =>
    obtain ⟨i, ys, rfl, rfl, hi, hy, HJ, hown', hg⟩ := hrel
    by_cases hlt : i < n
    · have i0 : (0 : Int) ≤ (i : Int) := by omega
      have i1 : (i : Int) < (n : Int) := by omega
      have c0 : wr.cell? ⟨g, i, none⟩ = some (.int .i64 (ys.getD i 0)) := by rw [hown'.cellAt i (by omega), ints_get ys i (by omega)]
      have f0 := hown'.frozenAt i
      obtain ⟨st1, st2⟩ := hown'.stored i (.int .i64 (k + i))
      rw [ints_set] at st1
      go_wp2_with fail
      go_roundw
      case rel =>
        refine ⟨i + 1, ys.set i (k + i), by go_num, by go_num, by omega, by simpa using hy, hide ?_, st1, ?_⟩
        · intro j hj
          by_cases e : j = i
          · subst e; simp [hy, hlt]
          · have := HJ.out j (by omega)
            simp only [List.getD_eq_getElem?_getD] at this ⊢
            rw [List.getElem?_set_ne (by omega)]; exact this
        · exact ⟨st2.os.trans hg.os, st2.tape.trans hg.tape, st2.output.trans hg.output, Nat.le_trans hg.size st2.size, fun b hb hne => (st2.block b (Nat.lt_of_lt_of_le hb hg.size) hne).trans (hg.block b hb hne)⟩
      case measure => simp only [intOf]; omega
    · have hin : i = n := by omega
      subst hin
      go_wp2_with fail
      go_ret
      exact ⟨rfl, ⟨ys, hy, HJ.out, hown'⟩, hg⟩

set_option maxHeartbeats 400000 in
theorem held_zero (a : Option Addr) (c : Nat) (k : Int) (w : World) :
    Calls Tryz.prog 40 #[.slice a 0 c, .int .i64 k] w fun e w' => e = .returned (.int .i64 k) ∧ w' = w := by
  go_enter Tryz.func40, Tryz.ntmps40
  go_wp2_with fail
  go_loop [1, 5] (fun s t => s = .int .i64 k ∧ t = .int .i64 0) (fun s t => 0)
  case atStart => exact ⟨rfl, rfl⟩
  case round =>
    obtain ⟨rfl, rfl⟩ := hrel
    go_wp2_with fail
    go_ret
    exact ⟨rfl, rfl⟩
set_option maxHeartbeats 1000000 in
theorem held_any (g n cap : Nat) (k : Int) (w : World) (hn : n ≤ 4000000000000) (k0 : 0 ≤ k) (k1 : k ≤ 4000000000000) (h : ∀ j : Nat, j < n → w.cell? ⟨g, j, none⟩ = some (.int .i64 (k + j))) :
    Calls Tryz.prog 40 #[.slice (some ⟨g, 0, none⟩) n cap, .int .i64 k] w fun e w' => e = .returned (.int .i64 (k + n)) ∧ w' = w := by
  go_enter Tryz.func40, Tryz.ntmps40
  go_wp2_with fail
  go_loop [1, 5] (fun s t => ∃ i : Nat, t = .int .i64 i ∧ s = .int .i64 (k + i) ∧ i ≤ n) (fun _ t => n - (intOf t).toNat)
  case atStart => exact ⟨0, rfl, by simp, Nat.zero_le _⟩
  case round =>
    obtain ⟨i, rfl, rfl, hi⟩ := hrel
    by_cases hlt : i < n
    · have i0 : (0 : Int) ≤ (i : Int) := by omega
      have i1 : (i : Int) < (n : Int) := by omega
      have c0 := h i hlt
      have hxx : (k + (i : Int) != k + (i : Int)) = false := by simp
      go_wp2_with fail
      go_round
      case rel => exact ⟨i + 1, by go_num, by go_num, by omega⟩
      case measure => simp only [intOf]; omega
    · have hin : i = n := by omega
      subst hin
      go_wp2_with fail
      go_ret
      exact ⟨rfl, rfl⟩
end Go.Proofs.YtlbagigghpiifabGreat
namespace Go.Proofs.YtlbagigghpiifabGreat
open Go.RowKit

theorem bcell {W w1 : World} (hb : Below W.heap.size W w1) : (∀ b o, b < W.heap.size → w1.cell? ⟨b, o, none⟩ = W.cell? ⟨b, o, none⟩) ∧ (∀ b o, b < W.heap.size → w1.frozen? ⟨b, o, none⟩ = W.frozen? ⟨b, o, none⟩) :=
  ⟨fun b o h => hb.cell (p := ⟨b, o, none⟩) h, fun b o h => hb.frozen (p := ⟨b, o, none⟩) h⟩

set_option maxHeartbeats 400000 in
theorem good_n1 (n d : Int) (w : World) (h1 : Fr.partB n = false) :
    Calls Tryz.prog 102 #[.agg #[.int .i64 n, .int .i64 d]] w fun e w' => e = .returned (.bool false) ∧ Below w.heap.size w w' := by
  go_enter Tryz.func102, Tryz.ntmps102
  go_wp2
  go_quiet ((go_at_call 114; exact Calls.quiet_of_same (isPart_no h1)))
  go_wp2
  go_ret
  exact ⟨rfl, below_drewN ((Below.refl _ _).alloc (Nat.le_refl _) _) _⟩

set_option maxHeartbeats 400000 in
theorem good_n2 (n d : Int) (w : World) (h1 : Fr.partB n = true) (h2 : Fr.partB d = false) :
    Calls Tryz.prog 102 #[.agg #[.int .i64 n, .int .i64 d]] w fun e w' => e = .returned (.bool false) ∧ Below w.heap.size w w' := by
  go_enter Tryz.func102, Tryz.ntmps102
  go_wp2
  go_quiet ((go_at_call 114; first | exact Calls.quiet_of_same (isPart_yes h1) | exact Calls.quiet_of_same (isPart_no h2)))
  go_wp2
  go_ret
  exact ⟨rfl, below_drewN ((Below.refl _ _).alloc (Nat.le_refl _) _) _⟩

set_option maxHeartbeats 400000 in
theorem good_n3 (n d : Int) (w : World) (h1 : Fr.partB n = true) (h2 : Fr.partB d = true) (h3 : d ≤ 0) :
    Calls Tryz.prog 102 #[.agg #[.int .i64 n, .int .i64 d]] w fun e w' => e = .returned (.bool false) ∧ Below w.heap.size w w' := by
  have h4 : decide (0 < d) = false := by simp; omega
  clear h3
  go_enter Tryz.func102, Tryz.ntmps102
  go_wp2
  go_quiet ((go_at_call 114; first | exact Calls.quiet_of_same (isPart_yes h1) | exact Calls.quiet_of_same (isPart_yes h2)))
  go_wp2
  go_ret
  exact ⟨rfl, below_drewN ((Below.refl _ _).alloc (Nat.le_refl _) _) _⟩

set_option maxHeartbeats 400000 in
set_option maxRecDepth 100000 in
theorem good_y (n d : Int) (w : World) (h1 : Fr.partB n = true) (h2 : Fr.partB d = true) (h3 : 0 < d) :
    Calls Tryz.prog 102 #[.agg #[.int .i64 n, .int .i64 d]] w fun e w' => e = .returned (.bool (Fr.goodB n d)) ∧ Below w.heap.size w w' := by
  have hp : -1000000000 ≤ n ∧ n ≤ 1000000000 := by simpa [Fr.partB] using h1
  have hq : -1000000000 ≤ d ∧ d ≤ 1000000000 := by simpa [Fr.partB] using h2
  obtain ⟨hp0, hp1⟩ := hp
  obtain ⟨hq0, hq1⟩ := hq
  have H := hide (Fr.good_of_mk n d h1 h2 h3)
  have H1 := hide h1
  have H2 := hide h2
  clear h1 h2
  have q1 := frac_eq
  have q2 := frac_eqg
  go_enter Tryz.func102, Tryz.ntmps102
  go_wp2
  go_region_held3 (fun w' => w'.cell? ⟨w.heap.size, 0, none⟩ = some (.int .i64 n) ∧ w'.cell? ⟨w.heap.size, 1, none⟩ = some (.int .i64 d) ∧ Below w.heap.size w w' ∧ w.heap.size < w'.heap.size) (first | exact ⟨by simp, by simp, ((Below.refl _ _).alloc (Nat.le_refl _) _).drew, by simp⟩ | assumption | (obtain ⟨s0, s1, s2, s3⟩ := ‹_ ∧ _ ∧ _ ∧ _›; exact ⟨(hc _ _ s3).trans s0, (hc _ _ s3).trans s1, s2.trans (hb.mono (Nat.le_of_lt s3)), Nat.lt_of_lt_of_le s3 hb.size⟩))
    (first
    | (go_at_call_of 114 (Value.int IntKind.i64 n); refine (isPart_yes H1.out).mono ?_; rintro e w' ⟨rfl, rfl⟩)
    | (go_at_call_of 114 (Value.int IntKind.i64 d); refine (isPart_yes H2.out).mono ?_; rintro e w' ⟨rfl, rfl⟩)
    | (go_at_call 85; refine (lowest_any _ _ _ (by omega) (by omega) (by omega) (by omega) (by omega)).mono ?_; rintro e w' ⟨rfl, hb⟩; obtain ⟨hc, hf⟩ := bcell hb))
  obtain ⟨_, _, hB, _⟩ := ‹_ ∧ _ ∧ _ ∧ _›
  clear hb hc hf q1 q2
  go_wp2
  go_ret
  exact ⟨ret_bool H.out.symm, hB⟩

theorem good_any (n d : Int) (w : World) :
    Calls Tryz.prog 102 #[.agg #[.int .i64 n, .int .i64 d]] w fun e w' => e = .returned (.bool (Fr.goodB n d)) ∧ Below w.heap.size w w' := by
  cases h1 : Fr.partB n
  · rw [Fr.good_n1 n d h1]; exact good_n1 n d w h1
  · cases h2 : Fr.partB d
    · rw [Fr.good_n2 n d h2]; exact good_n2 n d w h1 h2
    · by_cases h3 : 0 < d
      · exact good_y n d w h1 h2 h3
      · rw [Fr.good_n3 n d (by omega)]; exact good_n3 n d w h1 h2 (by omega)
theorem good_yes {n d : Int} {w : World} (h : Fr.goodB n d = true) :
    Calls Tryz.prog 102 #[.agg #[.int .i64 n, .int .i64 d]] w fun e w' => e = .returned (.bool true) ∧ Below w.heap.size w w' := by have := good_any n d w; rwa [h] at this
theorem good_no {n d : Int} {w : World} (h : Fr.goodB n d = false) :
    Calls Tryz.prog 102 #[.agg #[.int .i64 n, .int .i64 d]] w fun e w' => e = .returned (.bool false) ∧ Below w.heap.size w w' := by have := good_any n d w; rwa [h] at this

set_option maxHeartbeats 400000 in
theorem only_yes (n d : Int) (w : World) (h : Fr.goodB n d = true) :
    Calls Tryz.prog 103 #[.agg #[.int .i64 n, .int .i64 d]] w fun e w' => e = .returned (.tuple #[.agg #[.int .i64 n, .int .i64 d], .bool true]) ∧ Below w.heap.size w w' := by
  go_enter Tryz.func103, Tryz.ntmps103
  go_wp2_with (go_at_call 102; refine (good_yes h).mono ?_; rintro e w1 ⟨rfl, hb⟩; obtain ⟨hc, hf⟩ := bcell hb; have hz : w.heap.size + 1 < w1.heap.size := by have := hb.size; simp at this; omega)
  exact bodyPost_ret (v := .tuple #[.agg #[.int .i64 n, .int .i64 d], .bool true]) (by simp [results, Tryz.results103, go_sem, hc]) rfl ⟨rfl, (((((Below.refl _ _).alloc (Nat.le_refl _) _).alloc (by simp) _).trans (hb.mono (by simp; omega))).setCell (by simp) _).setCell (by simp) _⟩

set_option maxHeartbeats 400000 in
theorem only_no (n d : Int) (w : World) (h : Fr.goodB n d = false) :
    Calls Tryz.prog 103 #[.agg #[.int .i64 n, .int .i64 d]] w fun e w' => e = .returned (.tuple #[.agg #[.int .i64 0, .int .i64 0], .bool false]) ∧ Below w.heap.size w w' := by
  go_enter Tryz.func103, Tryz.ntmps103
  go_wp2_with (go_at_call 102; refine (good_no h).mono ?_; rintro e w1 ⟨rfl, hb⟩; obtain ⟨hc, hf⟩ := bcell hb; have hz : w.heap.size + 1 < w1.heap.size := by have := hb.size; simp at this; omega)
  exact bodyPost_ret (v := .tuple #[.agg #[.int .i64 0, .int .i64 0], .bool false]) (by simp [results, Tryz.results103, go_sem, hc]) rfl ⟨rfl, (((((Below.refl _ _).alloc (Nat.le_refl _) _).alloc (by simp) _).trans (hb.mono (by simp; omega))).setCell (by simp) _).setCell (by simp) _⟩

theorem only_any (n d : Int) (w : World) :
    Calls Tryz.prog 103 #[.agg #[.int .i64 n, .int .i64 d]] w fun e w' => e = .returned (.tuple #[.agg #[.int .i64 (Fr.fitN n d), .int .i64 (Fr.fitD n d)], .bool (Fr.goodB n d)]) ∧ Below w.heap.size w w' := by
  unfold Fr.fitN Fr.fitD
  cases h : Fr.goodB n d
  · simpa using only_no n d w h
  · simpa using only_yes n d w h
set_option maxHeartbeats 400000 in
theorem whole_any (n : Int) (w : World) :
    Calls Tryz.prog 83 #[.int .i64 n] w fun e w' => e = .returned (.agg #[.int .i64 n, .int .i64 1]) ∧ Below w.heap.size w w' := by
  go_enter Tryz.func83, Tryz.ntmps83
  go_wp2
  exact bodyPost_ret (v := .agg #[.int .i64 n, .int .i64 1]) (by simp [results, Tryz.results83, go_sem]) rfl ⟨rfl, (Below.refl _ _).alloc (Nat.le_refl _) _⟩
end Go.Proofs.YtlbagigghpiifabGreat
namespace Go.Proofs.YtlbagigghpiifabGreat
open Go.RowKit

set_option maxHeartbeats 400000 in
theorem in_yes {n lo hi : Int} {w : World} (h1 : lo ≤ n) (h2 : n ≤ hi) :
    Calls Tryz.prog 68 #[.int .i64 n, .int .i64 lo, .int .i64 hi] w fun e w' => e = .returned (.bool true) ∧ w' = w := by
  go_enter Tryz.func68, Tryz.ntmps68
  go_wp2
  go_ret
  exact ⟨rfl, rfl⟩

set_option maxHeartbeats 400000 in
theorem in_no {n lo hi : Int} {w : World} (h : n < lo ∨ hi < n) :
    Calls Tryz.prog 68 #[.int .i64 n, .int .i64 lo, .int .i64 hi] w fun e w' => e = .returned (.bool false) ∧ w' = w := by
  by_cases h1 : lo ≤ n
  · have h2 : ¬ n ≤ hi := by omega
    clear h
    go_enter Tryz.func68, Tryz.ntmps68
    go_wp2
    go_ret
    exact ⟨rfl, rfl⟩
  · clear h
    go_enter Tryz.func68, Tryz.ntmps68
    go_wp2
    go_ret
    exact ⟨rfl, rfl⟩

set_option maxHeartbeats 400000 in
theorem abs_any (a : Int) (w : World) (h0 : -4000000000000000000 ≤ a) (h1 : a ≤ 4000000000000000000) :
    Calls Tryz.prog 93 #[.int .i64 a] w fun e w' => e = .returned (.int .i64 (a.natAbs : Int)) ∧ w' = w := by
  by_cases h : a < 0
  · go_enter Tryz.func93, Tryz.ntmps93
    go_wp2
    go_ret
    exact ⟨ret_int (by omega), rfl⟩
  · go_enter Tryz.func93, Tryz.ntmps93
    go_wp2
    go_ret
    exact ⟨ret_int (by omega), rfl⟩

set_option maxHeartbeats 400000 in
theorem sgcd_any (a b : Int) (w : World) (ha0 : -4000000000000000000 ≤ a) (ha1 : a ≤ 4000000000000000000) (hb0 : -4000000000000000000 ≤ b) (hb1 : b ≤ 4000000000000000000) :
    Calls Tryz.prog 71 #[.int .i64 a, .int .i64 b] w fun e w' => e = .returned (.int .i64 (Fr.g a b)) ∧ w' = w := by
  go_enter Tryz.func71, Tryz.ntmps71
  go_wp2_with fail
  refine (abs_any a _ ha0 ha1).mono ?_
  rintro e w1 ⟨rfl, rfl⟩
  go_wp2_with fail
  refine (abs_any b _ hb0 hb1).mono ?_
  rintro e w2 ⟨rfl, rfl⟩
  go_wp2_with fail
  go_loop [0, 1] (fun s t => ∃ x y : Int, s = .int .i64 x ∧ t = .int .i64 y ∧ 0 ≤ x ∧ x ≤ 4000000000000000000 ∧ 0 ≤ y ∧ y ≤ 4000000000000000000 ∧ Hid (Fr.g x y = Fr.g a b)) (fun _ t => (intOf t).natAbs)
  case atStart => exact ⟨a.natAbs, b.natAbs, rfl, rfl, by omega, by omega, by omega, by omega, hide (Fr.g_abs a b)⟩
  case round =>
    obtain ⟨x, y, rfl, rfl, hx0, hx1, hy0, hy1, hg⟩ := hrel
    by_cases h0 : 0 < y
    · have hne : (y == 0) = false := by simp; omega
      have hm := Fr.tmod_lt x y (by omega)
      have hgs := Fr.g_step x y
      have he : x.tmod y = x % y := Int.tmod_eq_emod_of_nonneg hx0
      have hn := Int.emod_nonneg x (show y ≠ 0 by omega)
      rw [he] at hm hgs
      have HG := hide (hgs.trans hg.out)
      clear hgs he hg
      go_wp2
      go_round
      case rel => exact ⟨y, x % y, rfl, rfl, hy0, hy1, hn, by omega, HG⟩
      case measure => simp only [intOf]; omega
    · have hy : y = 0 := by omega
      subst hy
      go_wp2
      go_ret
      exact ⟨ret_int (by have := hg.out; rw [Fr.g_zero] at this; omega), rfl⟩

set_option maxHeartbeats 400000 in
theorem make_neg (n d : Int) (w : World) (hn0 : -4000000000000000000 ≤ n) (hn1 : n ≤ 4000000000000000000) (hd0 : -4000000000000000000 ≤ d) (hd1 : d < 0) :
    Calls Tryz.prog 48 #[.int .i64 n, .int .i64 d] w fun e w' => e = .returned (.agg #[.int .i64 (Fr.mkN n d), .int .i64 (Fr.mkD n d)]) ∧ Below w.heap.size w w' := by
  have hg := Fr.g_pos (-n) (-d) (by omega)
  have hg' := Fr.g_le (-n) (-d) (by omega)
  have hne : (Fr.g (-n) (-d) == 0) = false := by simp; omega
  have e1 := mkN_neg n d hn0 hn1 hd1
  have e2 := mkD_neg n d hd0 hd1
  go_enter Tryz.func48, Tryz.ntmps48
  go_wp2_with (go_at_call 71; refine (sgcd_any _ _ _ (by omega) (by omega) (by omega) (by omega)).mono ?_; rintro e w' ⟨rfl, rfl⟩)
  go_region
  go_wp2
  exact bodyPost_ret (v := .agg #[.int .i64 (Fr.mkN n d), .int .i64 (Fr.mkD n d)]) (by simp [results, Tryz.results48, go_sem]) rfl ⟨rfl, ((Below.refl _ _).alloc (Nat.le_refl _) _).drew⟩

set_option maxHeartbeats 400000 in
theorem make_pos (n d : Int) (w : World) (hn0 : -4000000000000000000 ≤ n) (hn1 : n ≤ 4000000000000000000) (hd0 : 0 < d) (hd1 : d ≤ 4000000000000000000) :
    Calls Tryz.prog 48 #[.int .i64 n, .int .i64 d] w fun e w' => e = .returned (.agg #[.int .i64 (Fr.mkN n d), .int .i64 (Fr.mkD n d)]) ∧ Below w.heap.size w w' := by
  have hg := Fr.g_pos n d (by omega)
  have hg' := Fr.g_le n d (by omega)
  have hne : (Fr.g n d == 0) = false := by simp; omega
  have e1 := mkN_pos n d hd0
  have e2 := mkD_pos n d hd0
  have e3 := wrap_mkN n d hn0 hn1
  have hd2 : ¬ d < 0 := by omega
  go_enter Tryz.func48, Tryz.ntmps48
  go_wp2_with (go_at_call 71; refine (sgcd_any _ _ _ (by omega) (by omega) (by omega) (by omega)).mono ?_; rintro e w' ⟨rfl, rfl⟩)
  go_region
  go_wp2
  exact bodyPost_ret (v := .agg #[.int .i64 (Fr.mkN n d), .int .i64 (Fr.mkD n d)]) (by simp [results, Tryz.results48, go_sem]) rfl ⟨rfl, ((Below.refl _ _).alloc (Nat.le_refl _) _).drew⟩

theorem make_any (n d : Int) (w : World) (hn0 : -4000000000000000000 ≤ n) (hn1 : n ≤ 4000000000000000000) (hd0 : -4000000000000000000 ≤ d) (hd1 : d ≤ 4000000000000000000) (h : d ≠ 0) :
    Calls Tryz.prog 48 #[.int .i64 n, .int .i64 d] w fun e w' => e = .returned (.agg #[.int .i64 (Fr.mkN n d), .int .i64 (Fr.mkD n d)]) ∧ Below w.heap.size w w' := by
  by_cases hd : d < 0
  · exact make_neg n d w hn0 hn1 hd0 hd
  · exact make_pos n d w hn0 hn1 (by omega) hd1

set_option maxHeartbeats 400000 in
theorem sgood_n1 (n d : Int) (w : World) (h : n < -1000000000 ∨ 1000000000 < n) :
    Calls Tryz.prog 111 #[.agg #[.int .i64 n, .int .i64 d]] w fun e w' => e = .returned (.bool false) ∧ Below w.heap.size w w' := by
  have H := hide h
  clear h
  go_enter Tryz.func111, Tryz.ntmps111
  go_wp2_with (go_at_call 68; refine (in_no H.out).mono ?_; rintro e w' ⟨rfl, rfl⟩)
  go_ret
  exact ⟨rfl, (Below.refl _ _).alloc (Nat.le_refl _) _⟩

set_option maxHeartbeats 400000 in
theorem sgood_n2 (n d : Int) (w : World) (h0 : -1000000000 ≤ n) (h1 : n ≤ 1000000000) (h : d < 1 ∨ 1000000000 < d) :
    Calls Tryz.prog 111 #[.agg #[.int .i64 n, .int .i64 d]] w fun e w' => e = .returned (.bool false) ∧ Below w.heap.size w w' := by
  have H := hide h
  clear h
  go_enter Tryz.func111, Tryz.ntmps111
  go_wp2_with fail
  refine (in_yes h0 h1).mono ?_
  rintro e w' ⟨rfl, rfl⟩
  go_wp2_with fail
  refine (in_no H.out).mono ?_
  rintro e w' ⟨rfl, rfl⟩
  go_wp2_with fail
  go_ret
  exact ⟨rfl, (Below.refl _ _).alloc (Nat.le_refl _) _⟩

set_option maxHeartbeats 400000 in
theorem sgood_y (n d : Int) (w : World) (h0 : -1000000000 ≤ n) (h1 : n ≤ 1000000000) (h2 : 1 ≤ d) (h3 : d ≤ 1000000000) :
    Calls Tryz.prog 111 #[.agg #[.int .i64 n, .int .i64 d]] w fun e w' => e = .returned (.bool (Fr.g n d == 1)) ∧ Below w.heap.size w w' := by
  go_enter Tryz.func111, Tryz.ntmps111
  go_wp2_with fail
  refine (in_yes h0 h1).mono ?_
  rintro e w' ⟨rfl, rfl⟩
  go_wp2_with fail
  refine (in_yes h2 h3).mono ?_
  rintro e w' ⟨rfl, rfl⟩
  go_wp2_with fail
  refine (sgcd_any n d _ (by omega) (by omega) (by omega) (by omega)).mono ?_
  rintro e w' ⟨rfl, rfl⟩
  go_wp2_with fail
  go_ret
  exact ⟨rfl, (Below.refl _ _).alloc (Nat.le_refl _) _⟩

theorem sgood_any (n d : Int) (w : World) :
    Calls Tryz.prog 111 #[.agg #[.int .i64 n, .int .i64 d]] w fun e w' => e = .returned (.bool (Fr.goodB n d)) ∧ Below w.heap.size w w' := by
  by_cases h1 : -1000000000 ≤ n ∧ n ≤ 1000000000
  · by_cases h2 : 1 ≤ d ∧ d ≤ 1000000000
    · have e : Fr.goodB n d = (Fr.g n d == 1) := by rw [Bool.eq_iff_iff, Fr.goodB_iff]; simp; omega
      rw [e]; exact sgood_y n d w h1.1 h1.2 h2.1 h2.2
    · have e : Fr.goodB n d = false := by unfold Fr.goodB; simp; omega
      rw [e]; exact sgood_n2 n d w h1.1 h1.2 (by omega)
  · have e : Fr.goodB n d = false := by unfold Fr.goodB; simp; omega
    rw [e]; exact sgood_n1 n d w (by omega)
theorem sgood_yes {n d : Int} {w : World} (h : Fr.goodB n d = true) :
    Calls Tryz.prog 111 #[.agg #[.int .i64 n, .int .i64 d]] w fun e w' => e = .returned (.bool true) ∧ Below w.heap.size w w' := by have := sgood_any n d w; rwa [h] at this
theorem sgood_no {n d : Int} {w : World} (h : Fr.goodB n d = false) :
    Calls Tryz.prog 111 #[.agg #[.int .i64 n, .int .i64 d]] w fun e w' => e = .returned (.bool false) ∧ Below w.heap.size w w' := by have := sgood_any n d w; rwa [h] at this
end Go.Proofs.YtlbagigghpiifabGreat
namespace Go.Proofs.YtlbagigghpiifabGreat.Rk
open Go.Sort

/-- The value of the good with number i. -/
def val (vs : List Int) (i : Nat) : Int := vs.getD i 0
/-- Inserted ahead of the first one that is less. -/
def insL (vs : List Int) (i : Nat) : List Nat → List Nat
  | [] => [i]
  | x :: r => if val vs x ≥ val vs i then x :: insL vs i r else i :: x :: r
/-- The first k numbers, ranked. -/
def upto (vs : List Int) : Nat → List Nat
  | 0 => []
  | k + 1 => insL vs k (upto vs k)
def rank (vs : List Int) : List Nat := upto vs vs.length

theorem insL_len (vs : List Int) (i : Nat) : ∀ l, (insL vs i l).length = l.length + 1
  | [] => rfl
  | x :: r => by unfold insL; split <;> simp [insL_len vs i r]
theorem upto_len (vs : List Int) : ∀ k, (upto vs k).length = k
  | 0 => rfl
  | k + 1 => by rw [upto, insL_len, upto_len vs k]
theorem rank_len (vs : List Int) : (rank vs).length = vs.length := upto_len _ _
theorem insL_perm (vs : List Int) (i : Nat) : ∀ l, (insL vs i l).Perm (i :: l)
  | [] => List.Perm.refl _
  | x :: r => by
    unfold insL; split
    · exact ((insL_perm vs i r).cons x).trans (List.Perm.swap i x r)
    · exact List.Perm.refl _
theorem upto_perm (vs : List Int) : ∀ k, (upto vs k).Perm (List.range k)
  | 0 => List.Perm.refl _
  | k + 1 => by
    rw [upto, List.range_succ]
    exact ((insL_perm vs k _).trans ((upto_perm vs k).cons k)).trans (List.perm_append_singleton k (List.range k)).symm
theorem rank_perm (vs : List Int) : (rank vs).Perm (List.range vs.length) := upto_perm _ _
theorem upto_mem {vs : List Int} {k x : Nat} (h : x ∈ upto vs k) : x < k := by simpa using (upto_perm vs k).mem_iff.1 h
theorem rank_mem {vs : List Int} {x : Nat} (h : x ∈ rank vs) : x < vs.length := upto_mem h
theorem mem_insL {vs : List Int} {i x : Nat} {l : List Nat} : x ∈ insL vs i l ↔ x = i ∨ x ∈ l := by
  rw [(insL_perm vs i l).mem_iff, List.mem_cons]

/-- From the greatest one down. -/
def Down (vs : List Int) (l : List Nat) : Prop := l.Pairwise fun a b => val vs a ≥ val vs b
theorem insL_down (vs : List Int) (i : Nat) : ∀ l, Down vs l → Down vs (insL vs i l)
  | [], _ => by simp [insL, Down]
  | x :: r, h => by
    have h' := List.pairwise_cons.1 h
    unfold insL; split
    · rename_i hx
      refine List.pairwise_cons.2 ⟨fun y hy => ?_, insL_down vs i r h'.2⟩
      rcases mem_insL.1 hy with rfl | hy
      · exact hx
      · exact h'.1 y hy
    · rename_i hx
      refine List.pairwise_cons.2 ⟨fun y hy => ?_, h⟩
      rcases List.mem_cons.1 hy with rfl | hy
      · omega
      · have := h'.1 y hy; omega
theorem upto_down (vs : List Int) : ∀ k, Down vs (upto vs k)
  | 0 => List.Pairwise.nil
  | k + 1 => insL_down vs k _ (upto_down vs k)
theorem rank_down (vs : List Int) : Down vs (rank vs) := upto_down _ _

/-- Of alike ones the first one first. -/
def Stays (vs : List Int) (l : List Nat) : Prop := l.Pairwise fun a b => val vs a > val vs b ∨ (val vs a = val vs b ∧ a < b)
theorem insL_stays (vs : List Int) (i : Nat) : ∀ l, (∀ x ∈ l, x < i) → Stays vs l → Stays vs (insL vs i l)
  | [], _, _ => by simp [insL, Stays]
  | x :: r, hl, h => by
    have h' := List.pairwise_cons.1 h
    unfold insL; split
    · rename_i hx
      refine List.pairwise_cons.2 ⟨fun y hy => ?_, insL_stays vs i r (fun z hz => hl z (List.mem_cons_of_mem _ hz)) h'.2⟩
      rcases mem_insL.1 hy with rfl | hy
      · have := hl x (List.mem_cons_self ..); omega
      · exact h'.1 y hy
    · rename_i hx
      refine List.pairwise_cons.2 ⟨fun y hy => ?_, h⟩
      rcases List.mem_cons.1 hy with rfl | hy
      · left; omega
      · have := h'.1 y hy; left; omega
theorem upto_stays (vs : List Int) : ∀ k, Stays vs (upto vs k)
  | 0 => List.Pairwise.nil
  | k + 1 => insL_stays vs k _ (fun _ hx => upto_mem hx) (upto_stays vs k)
theorem rank_stays (vs : List Int) : Stays vs (rank vs) := upto_stays _ _

/-- Where it is inserted. -/
theorem insL_at (vs : List Int) (i : Nat) : ∀ (l : List Nat) (k : Nat), k ≤ l.length → (∀ j, j < k → val vs (l.getD j 0) ≥ val vs i) → (k < l.length → val vs (l.getD k 0) < val vs i) → insL vs i l = l.take k ++ i :: l.drop k
  | [], k, hk, _, _ => by simp at hk; subst hk; rfl
  | x :: r, 0, _, _, h2 => by
    have := h2 (by simp)
    unfold insL; rw [if_neg (by simpa using this)]; rfl
  | x :: r, k + 1, hk, h1, h2 => by
    have := h1 0 (by omega)
    unfold insL; rw [if_pos (by simpa using this), insL_at vs i r k (by simpa using hk) (fun j hj => by simpa using h1 (j + 1) (by omega)) (fun h => by simpa using h2 (by simpa using h))]
    rfl

/-- Of a list that goes down, inserted from behind. -/
theorem insL_behind (vs : List Int) (i : Nat) : ∀ (l : List Nat) (p : Nat), Down vs (l ++ [p]) → insL vs i (l ++ [p]) = if val vs i > val vs p then insL vs i l ++ [p] else l ++ [p, i]
  | [], p, _ => by
    simp only [List.nil_append, insL]
    split <;> split <;> first | rfl | omega
  | x :: r, p, h => by
    have h' := List.pairwise_cons.1 h
    have hp := h'.1 p (by simp)
    have ih := insL_behind vs i r p h'.2
    simp only [List.cons_append, insL]
    split
    · rename_i hx
      rw [ih]; split <;> rfl
    · rename_i hx
      rw [if_pos (by omega)]; rfl

/-- The comparison by which the program sorts: a ahead of b, where a's value is greater. -/
def lt (vs : List Int) (m : Nat) (a b : Fin (m + 1)) : Bool := decide (val vs b < val vs a)
def arr (m : Nat) (l : List (Fin (m + 1))) : Array (Fin (m + 1)) := l.toArray

theorem swp_list {α : Type} [Inhabited α] (A : List α) (p x : α) (S : List α) : swp (A ++ p :: x :: S).toArray (A.length + 1) A.length = (A ++ x :: p :: S).toArray := by
  unfold swp
  simp

theorem get_list {α : Type} [Inhabited α] (A : List α) (p : α) (S : List α) : (A ++ p :: S).toArray[A.length]! = p := by simp

def vals (m : Nat) (l : List (Fin (m + 1))) : List Nat := l.map (·.val)

theorem inner (vs : List Int) (m : Nat) (i : Fin (m + 1)) : ∀ (n : Nat) (A S : List (Fin (m + 1))), A.length = n → Down vs (vals m A) → ∃ B, insInner (lt vs m) 0 n (A ++ i :: S).toArray = (B ++ S).toArray ∧ vals m B = insL vs i.val (vals m A)
  | 0, A, S, hn, _ => by
    obtain rfl := List.length_eq_zero_iff.1 hn
    exact ⟨[i], rfl, rfl⟩
  | n + 1, A, S, hn, hd => by
    obtain ⟨A', p, rfl⟩ : ∃ A' p, A = A' ++ [p] := ⟨A.dropLast, A.getLast (by intro e; simp [e] at hn), (List.dropLast_concat_getLast _).symm⟩
    have hA' : A'.length = n := by simpa using hn
    have e1 : vals m (A' ++ [p]) = vals m A' ++ [p.val] := by simp [vals]
    have hd' : Down vs (vals m A') := by
      rw [e1] at hd; exact (List.pairwise_append.1 hd).1
    rw [e1, insL_behind vs i.val _ _ (e1 ▸ hd)]
    have g1 : (A' ++ [p] ++ i :: S).toArray[n + 1]! = i := by
      have := get_list (A' ++ [p]) i S
      rw [hn] at this
      exact this
    have g2 : (A' ++ [p] ++ i :: S).toArray[n]! = p := by
      have := get_list A' p (i :: S)
      rw [List.append_assoc]
      rw [hA'] at this
      exact this
    rw [insInner, g1, g2]
    by_cases h : val vs p.val < val vs i.val
    · have hl : lt vs m i p = true := decide_eq_true h
      rw [if_pos (by simp [hl]), if_pos h]
      have hs : swp (A' ++ [p] ++ i :: S).toArray (n + 1) n = (A' ++ i :: p :: S).toArray := by
        have := swp_list A' p i S
        rw [hA'] at this
        rw [List.append_assoc]
        exact this
      rw [hs]
      obtain ⟨B, hB, hv⟩ := inner vs m i n A' (p :: S) hA' hd'
      exact ⟨B ++ [p], by rw [hB, List.append_assoc]; rfl, by simp [vals] at hv ⊢; exact hv⟩
    · have hl : lt vs m i p = false := decide_eq_false h
      rw [if_neg (by simp [hl]), if_neg (by omega)]
      exact ⟨A' ++ [p, i], by simp, by simp [vals]⟩

/-- The whole sort of the numbers 0, 1, .. m. -/
theorem outer (vs : List Int) (m : Nat) : ∀ (r k : Nat) (A S : List (Fin (m + 1))), A.length = k → vals m A = upto vs k → vals m S = (List.range' k (m + 1 - k)) → k ≤ m + 1 → m + 1 - k = r →
    ∃ B, insOuter (lt vs m) 0 (m + 1) k (A ++ S).toArray = B.toArray ∧ vals m B = upto vs (m + 1)
  | 0, k, A, S, hA, hv, hS, hk, hr => by
    have e : k = m + 1 := by omega
    subst e
    rw [insOuter_stop _ _ _ _ _ (by omega)]
    have : S = [] := by simpa [vals] using hS
    subst this
    exact ⟨A, by simp, hv⟩
  | r + 1, k, A, S, hA, hv, hS, hk, hr => by
    have hlt : k < m + 1 := by omega
    rw [insOuter_go _ _ _ _ _ hlt]
    have e : m + 1 - k = (m + 1 - (k + 1)) + 1 := by omega
    rw [e, List.range'_succ] at hS
    obtain ⟨s, S', rfl⟩ : ∃ s S', S = s :: S' := by
      cases S with
      | nil => simp [vals] at hS
      | cons s S' => exact ⟨s, S', rfl⟩
    simp [vals] at hS
    obtain ⟨B, hB, hvB⟩ := inner vs m s k A S' hA (by rw [hv]; exact upto_down vs k)
    rw [hB]
    rw [hv, hS.1] at hvB
    exact outer vs m r (k + 1) B S' (by have := congrArg List.length hvB; simpa [vals, insL_len, upto_len] using this) hvB (by simpa [vals] using hS.2) (by omega) (by omega)

theorem sorted (vs : List Int) (m : Nat) (d : Array (Fin (m + 1))) (hd : vals m d.toList = List.range (m + 1)) (hv : vs.length = m + 1) :
    ∃ B, insertionSort (lt vs m) d 0 (m + 1) = B.toArray ∧ vals m B = rank vs := by
  unfold insertionSort rank
  rw [hv]
  obtain ⟨l, rfl⟩ : ∃ l : List (Fin (m + 1)), d = l.toArray := ⟨d.toList, by simp⟩
  simp only at hd
  rw [List.range_succ_eq_map] at hd
  obtain ⟨s, S, rfl⟩ : ∃ s S, l = s :: S := by
    cases l with
    | nil => simp [vals] at hd
    | cons s S' => exact ⟨s, S', rfl⟩
  simp only [vals, List.map_cons, List.cons.injEq] at hd
  refine outer vs m m 1 [s] S rfl ?_ ?_ (by omega) (by omega)
  · simp [vals, upto, insL, hd.1]
  · show S.map (·.val) = _
    rw [hd.2, Nat.add_sub_cancel]
    apply List.ext_getElem
    · simp
    · intro j h1 h2
      simp; omega
end Go.Proofs.YtlbagigghpiifabGreat.Rk
namespace Go.Proofs.YtlbagigghpiifabGreat.Pf

theorem getD_lt {α : Type} (xs : List α) (d : α) {i : Nat} (h : i < xs.length) : xs.getD i d = xs[i] := by simp [h]
def inB (n lo hi : Int) : Bool := decide (lo ≤ n) && decide (n ≤ hi)
theorem inB_yes {n lo hi : Int} (h : inB n lo hi = true) : lo ≤ n ∧ n ≤ hi := by simpa [inB] using h
theorem inB_of {n lo hi : Int} (h1 : lo ≤ n) (h2 : n ≤ hi) : inB n lo hi = true := by simp [inB, h1, h2]
theorem inB_no {n lo hi : Int} (h : inB n lo hi = false) : n < lo ∨ hi < n := by
  by_cases h1 : lo ≤ n
  · right; simp [inB, h1] at h; omega
  · left; omega
def allB (xs : List Int) (lo hi : Int) : Bool := xs.all fun x => inB x lo hi
theorem allB_get {xs : List Int} {lo hi : Int} (h : allB xs lo hi = true) {i : Nat} (hi' : i < xs.length) : inB (xs.getD i 0) lo hi = true := by
  have := List.all_eq_true.1 h (xs.getD i 0) (by rw [getD_lt _ _ hi']; exact List.getElem_mem hi')
  exact this
theorem allB_of {xs : List Int} {lo hi : Int} (h : ∀ i, i < xs.length → inB (xs.getD i 0) lo hi = true) : allB xs lo hi = true := by
  refine List.all_eq_true.2 fun x hx => ?_
  obtain ⟨i, hi', rfl⟩ := List.getElem_of_mem hx
  have := h i hi'
  rwa [getD_lt _ _ hi'] at this
theorem allB_not {xs : List Int} {lo hi : Int} {i : Nat} (hi' : i < xs.length) (h : inB (xs.getD i 0) lo hi = false) : allB xs lo hi = false := by
  cases e : allB xs lo hi
  · rfl
  · rw [allB_get e hi'] at h; cases h

/-- One good of a profile: how often, how much. -/
def goodAt (p f : Int) : Bool := inB p 0 10000 && inB f 0 10000000 && ((p == 0) == (f == 0))
def goodP (ps fs : List Int) : Bool := decide (ps.length = fs.length) && decide (ps.length ≤ 12) && (List.range ps.length).all fun i => goodAt (ps.getD i 0) (fs.getD i 0)
theorem goodP_len {ps fs : List Int} (h : goodP ps fs = true) : ps.length = fs.length ∧ ps.length ≤ 12 := by
  simp only [goodP, Bool.and_eq_true, decide_eq_true_eq] at h
  exact h.1
theorem goodP_at {ps fs : List Int} (h : goodP ps fs = true) {i : Nat} (hi : i < ps.length) : goodAt (ps.getD i 0) (fs.getD i 0) = true := by
  simp only [goodP, Bool.and_eq_true, decide_eq_true_eq] at h
  exact List.all_eq_true.1 h.2 i (by simpa using hi)
theorem goodP_of {ps fs : List Int} (h1 : ps.length = fs.length) (h2 : ps.length ≤ 12) (h : ∀ i, i < ps.length → goodAt (ps.getD i 0) (fs.getD i 0) = true) : goodP ps fs = true := by
  simp only [goodP, Bool.and_eq_true, decide_eq_true_eq]
  exact ⟨⟨h1, h2⟩, List.all_eq_true.2 fun i hi => h i (by simpa using hi)⟩
theorem goodP_ne {ps fs : List Int} (h : ps.length ≠ fs.length) : goodP ps fs = false := by simp [goodP, h]
theorem goodP_many {ps fs : List Int} (h : 12 < ps.length) : goodP ps fs = false := by simp [goodP, show ¬ ps.length ≤ 12 by omega]
theorem goodP_not {ps fs : List Int} {i : Nat} (hi : i < ps.length) (h : goodAt (ps.getD i 0) (fs.getD i 0) = false) : goodP ps fs = false := by
  cases e : goodP ps fs
  · rfl
  · rw [goodP_at e hi] at h; cases h
theorem goodAt_bd {p f : Int} (h : goodAt p f = true) : 0 ≤ p ∧ p ≤ 10000 ∧ 0 ≤ f ∧ f ≤ 10000000 ∧ (p = 0 ↔ f = 0) := by
  simp only [goodAt, Bool.and_eq_true] at h
  have h1 := inB_yes h.1.1
  have h2 := inB_yes h.1.2
  refine ⟨h1.1, h1.2, h2.1, h2.2, ?_⟩
  have h3 := h.2
  by_cases a : p = 0 <;> by_cases b : f = 0 <;> simp [a, b] at h3 ⊢
theorem goodP_picks {ps fs : List Int} (h : goodP ps fs = true) : allB ps 0 10000 = true :=
  allB_of fun i hi => by have := goodAt_bd (goodP_at h hi); exact inB_of this.1 this.2.1
theorem goodP_flow {ps fs : List Int} (h : goodP ps fs = true) : allB fs 0 10000000 = true :=
  allB_of fun i hi => by have := goodAt_bd (goodP_at h (i := i) (by have := goodP_len h; omega)); exact inB_of this.2.2.1 this.2.2.2.1
theorem goodP_split {ps fs : List Int} (h1 : ps.length = fs.length) (h2 : ps.length ≤ 12) (h3 : allB ps 0 10000 = true) (h4 : allB fs 0 10000000 = true) (h : ∀ i, i < ps.length → ((ps.getD i 0 == 0) == (fs.getD i 0 == 0)) = true) : goodP ps fs = true :=
  goodP_of h1 h2 fun i hi => by simp only [goodAt, Bool.and_eq_true]; exact ⟨⟨allB_get h3 hi, allB_get h4 (by omega)⟩, h i hi⟩
theorem goodP_npicks {ps fs : List Int} (h : allB ps 0 10000 = false) : goodP ps fs = false := by
  cases e : goodP ps fs
  · rfl
  · rw [goodP_picks e] at h; cases h
theorem goodP_nflow {ps fs : List Int} (h : allB fs 0 10000000 = false) : goodP ps fs = false := by
  cases e : goodP ps fs
  · rfl
  · rw [goodP_flow e] at h; cases h
theorem goodP_nzero {ps fs : List Int} {i : Nat} (hi : i < ps.length) (h : ((ps.getD i 0 == 0) == (fs.getD i 0 == 0)) = false) : goodP ps fs = false :=
  goodP_not hi (by unfold goodAt; rw [h, Bool.and_false])

theorem take_sum_succ (xs : List Int) (k : Nat) (h : k < xs.length) : (xs.take (k + 1)).sum = (xs.take k).sum + xs.getD k 0 := by
  rw [List.take_succ_eq_append_getElem h, List.sum_append, getD_lt _ _ h]; simp
theorem sum_bd {lo hi : Int} : ∀ {xs : List Int}, allB xs lo hi = true → lo * xs.length ≤ xs.sum ∧ xs.sum ≤ hi * xs.length
  | [], _ => by simp
  | x :: r, h => by
    simp only [allB, List.all_cons, Bool.and_eq_true] at h
    have ih := sum_bd (xs := r) h.2
    have hx := inB_yes h.1
    simp only [List.sum_cons, List.length_cons, Int.natCast_add, Int.natCast_one, Int.mul_add, Int.mul_one]
    omega
theorem allB_take {xs : List Int} {lo hi : Int} (h : allB xs lo hi = true) (k : Nat) : allB (xs.take k) lo hi = true :=
  List.all_eq_true.2 fun x hx => List.all_eq_true.1 h x (List.mem_of_mem_take hx)
end Go.Proofs.YtlbagigghpiifabGreat.Pf
namespace Go.Proofs.YtlbagigghpiifabGreat
open Go.RowKit

/-- A slice of whole numbers, wherever it lies: its address, and what it holds. -/
def ARow (w : World) (a : Option Addr) (xs : List Int) : Prop := xs = [] ∨ ∃ b off, a = some ⟨b, off, none⟩ ∧ b < w.heap.size ∧ ∀ i, i < xs.length → w.cell? ⟨b, off + i, none⟩ = some (.int .i64 (xs.getD i 0))
theorem ARow.keep {w w' : World} {a : Option Addr} {xs : List Int} (h : ARow w a xs) (hs : w.heap.size ≤ w'.heap.size) (hB : ∀ b, b < w.heap.size → w'.heap[b]? = w.heap[b]?) : ARow w' a xs := by
  rcases h with h | ⟨b, off, ha, hb, hc⟩
  · exact Or.inl h
  · exact Or.inr ⟨b, off, ha, Nat.lt_of_lt_of_le hb hs, fun i hi => (World.cell?_of_block (w := w) (a := ⟨b, off + i, none⟩) (hB b hb)).trans (hc i hi)⟩
theorem ARow.below {w w' : World} {a : Option Addr} {xs : List Int} (h : ARow w a xs) (hB : Below w.heap.size w w') : ARow w' a xs := h.keep hB.size hB.block
theorem ARow.alloc {w : World} {a : Option Addr} {xs : List Int} (h : ARow w a xs) (o : Obj) : ARow (w.alloc o) a xs := h.below ((Below.refl _ _).alloc (Nat.le_refl _) _)
theorem ARow.drewN {w : World} {a : Option Addr} {xs : List Int} (h : ARow w a xs) (q : Nat) : ARow (w.drewN q) a xs := h
theorem ARow.at {w : World} {a : Option Addr} {xs : List Int} (h : ARow w a xs) {i : Nat} (hi : i < xs.length) : ∃ b off, a = some ⟨b, off, none⟩ ∧ w.cell? ⟨b, off + i, none⟩ = some (.int .i64 (xs.getD i 0)) := by
  rcases h with h | ⟨b, off, ha, _, hc⟩
  · rw [h] at hi; simp at hi
  · exact ⟨b, off, ha, hc i hi⟩
theorem ARow.at' {w : World} {a : Option Addr} {xs : List Int} (h : ARow w a xs) {i : Nat} (hi : i < xs.length) : ∃ b off, a = some ⟨b, off, none⟩ ∧ ∀ o, (w.alloc o).cell? ⟨b, off + i, none⟩ = some (.int .i64 (xs.getD i 0)) := by
  rcases h with h | ⟨b, off, ha, hb, hc⟩
  · rw [h] at hi; simp at hi
  · exact ⟨b, off, ha, fun o => (((Below.refl _ _).alloc (Nat.le_refl _) o).cell (p := ⟨b, off + i, none⟩) hb).trans (hc i hi)⟩
theorem arow_owns {w : World} {base e : Nat} {g n cap : Nat} {xs : List Int} (hn : n = xs.length) (h : w.ownsRow base e 1 (.slice (some ⟨g, 0, none⟩) n cap) n (ints xs)) : ARow w (some ⟨g, 0, none⟩) xs := by
  subst hn
  rcases irow_owns h with ⟨h, _⟩ | ⟨b, o, c, hv, hlt, hc⟩
  · exact Or.inl h
  · cases hv; exact Or.inr ⟨_, _, rfl, hlt, hc⟩

set_option maxHeartbeats 400000 in
theorem between_any (n lo hi : Int) (w : World) :
    Calls Tryz.prog 81 #[.int .i64 n, .int .i64 lo, .int .i64 hi] w fun e w' => e = .returned (.bool (Pf.inB n lo hi)) ∧ w' = w := by
  unfold Pf.inB
  by_cases h1 : lo ≤ n
  · by_cases h2 : n ≤ hi
    · go_enter Tryz.func81, Tryz.ntmps81
      go_wp2
      go_ret
      exact ⟨by simp [h1, h2], rfl⟩
    · go_enter Tryz.func81, Tryz.ntmps81
      go_wp2
      go_ret
      exact ⟨by simp [show ¬ n ≤ hi by omega], rfl⟩
  · go_enter Tryz.func81, Tryz.ntmps81
    go_wp2
    go_ret
    exact ⟨by simp [show ¬ lo ≤ n by omega], rfl⟩
theorem between_eq {n lo hi : Int} {w : World} {b : Bool} (h : Pf.inB n lo hi = b) :
    Calls Tryz.prog 81 #[.int .i64 n, .int .i64 lo, .int .i64 hi] w fun e w' => e = .returned (.bool b) ∧ w' = w := h ▸ between_any n lo hi w

set_option maxHeartbeats 1000000 in
theorem areb_any {a : Option Addr} {c : Nat} {xs : List Int} {lo hi : Int} {w : World} (h : ARow w a xs) (hl : xs.length ≤ 4000000000000) :
    Calls Tryz.prog 80 #[.slice a xs.length c, .int .i64 lo, .int .i64 hi] w fun e w' => e = .returned (.bool (Pf.allB xs lo hi)) ∧ w' = w := by
  have H := hide h
  clear h
  go_enter Tryz.func80, Tryz.ntmps80
  go_wp2_with fail
  go_loop [6, 8, 11] (fun s6 _ s => ∃ k : Nat, s6 = .bool false ∧ s = .int .i64 k ∧ k ≤ xs.length ∧ Hid (∀ i, i < k → Pf.inB (xs.getD i 0) lo hi = true)) (fun _ _ s => xs.length - (intOf s).toNat)
  case atStart => exact ⟨0, rfl, rfl, Nat.zero_le _, hide fun i hi => absurd hi (Nat.not_lt_zero _)⟩
  case round =>
    obtain ⟨k, rfl, rfl, hk, HA⟩ := hrel
    by_cases hlt : k < xs.length
    · obtain ⟨b, off, rfl, r1⟩ := H.out.at hlt
      have i0 : (0 : Int) ≤ (k : Int) := by omega
      have i1 : (k : Int) < (xs.length : Int) := by omega
      have HX := hide (rfl : xs.getD k 0 = xs.getD k 0)
      generalize hx : xs.getD k 0 = x at r1
      cases hb : Pf.inB x lo hi
      · have HN := hide (Pf.allB_not (lo := lo) (hi := hi) hlt (by rw [hx]; exact hb))
        clear hx
        go_wp2_with fail
        refine (between_eq hb).mono ?_
        rintro e w1 ⟨rfl, rfl⟩
        go_wp2_with fail
        go_ret
        exact ⟨ret_bool HN.out.symm, rfl⟩
      · have HY : Hid (∀ i, i < k + 1 → Pf.inB (xs.getD i 0) lo hi = true) := hide fun i hi => by
          by_cases e : i = k
          · subst e; rw [hx]; exact hb
          · exact HA.out i (by omega)
        clear hx
        go_wp2_with fail
        refine (between_eq hb).mono ?_
        rintro e w1 ⟨rfl, rfl⟩
        go_wp2_with fail
        go_round
        case rel => exact ⟨k + 1, rfl, by go_num, by omega, HY⟩
        case measure => simp only [intOf]; omega
    · have hke : k = xs.length := by omega
      subst hke
      have HY := hide (Pf.allB_of HA.out)
      go_wp2_with fail
      go_ret
      exact ⟨ret_bool HY.out.symm, rfl⟩
theorem areb_eqn {a : Option Addr} {n c : Nat} {xs : List Int} {lo hi : Int} {w : World} {r : Bool} (h : Hid (ARow w a xs)) (hn : Hid (xs.length = n)) (hl : n ≤ 1000) (hr : Hid (Pf.allB xs lo hi = r)) :
    Calls Tryz.prog 80 #[.slice a n c, .int .i64 lo, .int .i64 hi] w fun e w' => e = .returned (.bool r) ∧ w' = w := by
  have := hn.out
  subst this
  exact hr.out ▸ areb_any h.out (by omega)

theorem in_eq {n lo hi : Int} {w : World} {b : Bool} (h : Pf.inB n lo hi = b) :
    Calls Tryz.prog 68 #[.int .i64 n, .int .i64 lo, .int .i64 hi] w fun e w' => e = .returned (.bool b) ∧ w' = w := by
  cases b
  · exact in_no (Pf.inB_no h)
  · exact in_yes (Pf.inB_yes h).1 (Pf.inB_yes h).2

set_option maxHeartbeats 1000000 in
theorem all_any {a : Option Addr} {c : Nat} {xs : List Int} {lo hi : Int} {w : World} (h : ARow w a xs) (hl : xs.length ≤ 4000000000000) :
    Calls Tryz.prog 45 #[.slice a xs.length c, .int .i64 lo, .int .i64 hi] w fun e w' => e = .returned (.bool (Pf.allB xs lo hi)) ∧ w' = w := by
  have H := hide h
  clear h
  go_enter Tryz.func45, Tryz.ntmps45
  go_wp2_with fail
  go_loop [6, 8, 11] (fun s6 _ s => ∃ k : Nat, s6 = .bool false ∧ s = .int .i64 k ∧ k ≤ xs.length ∧ Hid (∀ i, i < k → Pf.inB (xs.getD i 0) lo hi = true)) (fun _ _ s => xs.length - (intOf s).toNat)
  case atStart => exact ⟨0, rfl, rfl, Nat.zero_le _, hide fun i hi => absurd hi (Nat.not_lt_zero _)⟩
  case round =>
    obtain ⟨k, rfl, rfl, hk, HA⟩ := hrel
    by_cases hlt : k < xs.length
    · obtain ⟨b, off, rfl, r1⟩ := H.out.at hlt
      have i0 : (0 : Int) ≤ (k : Int) := by omega
      have i1 : (k : Int) < (xs.length : Int) := by omega
      have HX := hide (rfl : xs.getD k 0 = xs.getD k 0)
      generalize hx : xs.getD k 0 = x at r1
      cases hb : Pf.inB x lo hi
      · have HN := hide (Pf.allB_not (lo := lo) (hi := hi) hlt (by rw [hx]; exact hb))
        clear hx
        go_wp2_with fail
        refine (in_eq hb).mono ?_
        rintro e w1 ⟨rfl, rfl⟩
        go_wp2_with fail
        go_ret
        exact ⟨ret_bool HN.out.symm, rfl⟩
      · have HY : Hid (∀ i, i < k + 1 → Pf.inB (xs.getD i 0) lo hi = true) := hide fun i hi => by
          by_cases e : i = k
          · subst e; rw [hx]; exact hb
          · exact HA.out i (by omega)
        clear hx
        go_wp2_with fail
        refine (in_eq hb).mono ?_
        rintro e w1 ⟨rfl, rfl⟩
        go_wp2_with fail
        go_round
        case rel => exact ⟨k + 1, rfl, by go_num, by omega, HY⟩
        case measure => simp only [intOf]; omega
    · have hke : k = xs.length := by omega
      subst hke
      have HY := hide (Pf.allB_of HA.out)
      go_wp2_with fail
      go_ret
      exact ⟨ret_bool HY.out.symm, rfl⟩
theorem all_eq {a : Option Addr} {c : Nat} {xs : List Int} {lo hi : Int} {w : World} {r : Bool} (h : ARow w a xs) (hl : xs.length ≤ 4000000000000) (hr : Pf.allB xs lo hi = r) :
    Calls Tryz.prog 45 #[.slice a xs.length c, .int .i64 lo, .int .i64 hi] w fun e w' => e = .returned (.bool r) ∧ w' = w := hr ▸ all_any h hl

set_option maxHeartbeats 1000000 in
theorem isum_any {a : Option Addr} {c : Nat} {xs : List Int} {w : World} (h : ARow w a xs) (hl : xs.length ≤ 1000) (hb : Pf.allB xs (-10000000) 10000000 = true) :
    Calls Tryz.prog 79 #[.slice a xs.length c] w fun e w' => e = .returned (.int .i64 xs.sum) ∧ w' = w := by
  have H := hide h
  have HB := hide hb
  clear h hb
  go_enter Tryz.func79, Tryz.ntmps79
  go_wp2_with fail
  go_loop [3, 5, 8] (fun s3 _ s => ∃ (k : Nat) (n : Int), s3 = .int .i64 n ∧ s = .int .i64 k ∧ k ≤ xs.length ∧ Hid (n = (xs.take k).sum) ∧ -10000000000 ≤ n ∧ n ≤ 10000000000) (fun _ _ s => xs.length - (intOf s).toNat)
  case atStart => exact ⟨0, 0, rfl, rfl, Nat.zero_le _, hide (by simp), by omega, by omega⟩
  case round =>
    obtain ⟨k, n, rfl, rfl, hk, HN, hn0, hn1⟩ := hrel
    by_cases hlt : k < xs.length
    · obtain ⟨b, off, rfl, r1⟩ := H.out.at hlt
      have i0 : (0 : Int) ≤ (k : Int) := by omega
      have i1 : (k : Int) < (xs.length : Int) := by omega
      have hs := Pf.take_sum_succ xs k hlt
      have hx := Pf.inB_yes (Pf.allB_get HB.out hlt)
      have ht := Pf.sum_bd (Pf.allB_take HB.out (k + 1))
      rw [show (xs.take (k + 1)).length = k + 1 by simp; omega] at ht
      rw [hs, ← HN.out] at ht
      rw [← HN.out] at hs
      have HS := hide hs
      generalize xs.getD k 0 = x at *
      clear hs
      obtain ⟨hx0, hx1⟩ := hx
      have ht0 : -10000000000 ≤ n + x := by omega
      have ht1 : n + x ≤ 10000000000 := by omega
      clear ht
      go_wp2_with fail
      go_round
      case rel => exact ⟨k + 1, n + x, by go_num, by go_num, by omega, hide HS.out.symm, by omega, by omega⟩
      case measure => simp only [intOf]; omega
    · have hke : k = xs.length := by omega
      subst hke
      have HE := HN.out
      rw [List.take_length] at HE
      have HE' := hide HE
      clear HE
      go_wp2_with fail
      go_ret
      exact ⟨ret_int HE'.out, rfl⟩
end Go.Proofs.YtlbagigghpiifabGreat
namespace Go.Proofs.YtlbagigghpiifabGreat
open Go.RowKit

set_option maxHeartbeats 1000000 in
theorem sisum_any {a : Option Addr} {c : Nat} {xs : List Int} {w : World} (h : ARow w a xs) (hl : xs.length ≤ 1000) (hb : Pf.allB xs (-10000000) 10000000 = true) :
    Calls Tryz.prog 69 #[.slice a xs.length c] w fun e w' => e = .returned (.int .i64 xs.sum) ∧ w' = w := by
  have H := hide h
  have HB := hide hb
  clear h hb
  go_enter Tryz.func69, Tryz.ntmps69
  go_wp2_with fail
  go_loop [3, 5, 8] (fun s3 _ s => ∃ (k : Nat) (n : Int), s3 = .int .i64 n ∧ s = .int .i64 k ∧ k ≤ xs.length ∧ Hid (n = (xs.take k).sum) ∧ -10000000000 ≤ n ∧ n ≤ 10000000000) (fun _ _ s => xs.length - (intOf s).toNat)
  case atStart => exact ⟨0, 0, rfl, rfl, Nat.zero_le _, hide (by simp), by omega, by omega⟩
  case round =>
    obtain ⟨k, n, rfl, rfl, hk, HN, hn0, hn1⟩ := hrel
    by_cases hlt : k < xs.length
    · obtain ⟨b, off, rfl, r1⟩ := H.out.at hlt
      have i0 : (0 : Int) ≤ (k : Int) := by omega
      have i1 : (k : Int) < (xs.length : Int) := by omega
      have hs := Pf.take_sum_succ xs k hlt
      have hx := Pf.inB_yes (Pf.allB_get HB.out hlt)
      have ht := Pf.sum_bd (Pf.allB_take HB.out (k + 1))
      rw [show (xs.take (k + 1)).length = k + 1 by simp; omega] at ht
      rw [hs, ← HN.out] at ht
      rw [← HN.out] at hs
      have HS := hide hs
      generalize xs.getD k 0 = x at *
      clear hs
      obtain ⟨hx0, hx1⟩ := hx
      have ht0 : -10000000000 ≤ n + x := by omega
      have ht1 : n + x ≤ 10000000000 := by omega
      clear ht
      go_wp2_with fail
      go_round
      case rel => exact ⟨k + 1, n + x, by go_num, by go_num, by omega, hide HS.out.symm, by omega, by omega⟩
      case measure => simp only [intOf]; omega
    · have hke : k = xs.length := by omega
      subst hke
      have HE := HN.out
      rw [List.take_length] at HE
      have HE' := hide HE
      clear HE
      go_wp2_with fail
      go_ret
      exact ⟨ret_int HE'.out, rfl⟩
end Go.Proofs.YtlbagigghpiifabGreat
namespace Go.Proofs.YtlbagigghpiifabGreat
open Go.RowKit

theorem makeI_run (n : Nat) (hn : n ≤ 1048576) (w : World) : (Instr.makeSlice 26 (.int .i64 (n : Int)) (.int .i64 (n : Int))).run Tryz.prog w = .ok (.slice (some ⟨w.heap.size, 0, none⟩) n n) (w.alloc (.cells (madeCells #[.int .i64 0] n) 3)) := by
  have h : (Tryz.prog.info? 3).map (fun i => (i.zero, i.size, i.bytes)) = some (some (.int .i64 0), 1, 8) := by kernel_rfl
  obtain ⟨i, hi, hzz⟩ := Option.map_eq_some_iff.1 h
  simp only [Prod.mk.injEq] at hzz
  obtain ⟨hz, hs, hb⟩ := hzz
  have := run_make (P := Tryz.prog) w 26 3 i _ Tryz.underlying26 hi hz .i64 .i64 (n : Int) (n : Int) (by omega) (by omega) (by rw [hb]; omega) (by omega)
  simpa [hs, Value.cells] using this
theorem made_own (w : World) (n : Nat) (hn : n ≤ 1048576) : (w.alloc (.cells (madeCells #[.int .i64 0] n) 3)).ownsRow w.heap.size 3 1 (.slice (some ⟨w.heap.size, 0, none⟩) n n) n (ints (List.replicate n 0)) := by
  have h := World.ownsRow_lit (base := w.heap.size) (e := 3) (size := 1) w (madeCells #[.int .i64 0] n) n (Nat.le_refl _) (by unfold maxLen; omega) (by simp [madeCells])
  rw [toList_madeCells_one] at h
  simpa [ints] using h
theorem getD_set_take (xs ys : List Int) (k : Nat) (hy : ys.length = xs.length) (hk : k < xs.length) (h : ys.take k = xs.take k) : (ys.set k (xs.getD k 0)).take (k + 1) = xs.take (k + 1) := by
  rw [List.take_add_one, List.take_add_one, List.take_set_of_le (Nat.le_refl _), h]
  congr 1
  simp [hk, hy]

set_option maxHeartbeats 1000000 in
theorem toI_row (a : Option Addr) (cap : Nat) (xs : List Int) (w : World) (hlen : xs.length ≤ 1048576) (hr : xs = [] ∨ ∃ b off, a = some ⟨b, off, none⟩ ∧ b < w.heap.size ∧ ∀ i, i < xs.length → w.cell? ⟨b, off + i, none⟩ = some (.int .i64 (xs.getD i 0))) :
    Calls Tryz.prog 27 #[.slice a xs.length cap] w fun e w' => e = .returned (.slice (some ⟨w.heap.size, 0, none⟩) xs.length xs.length) ∧ Below w.heap.size w w' ∧ w.heap.size < w'.heap.size ∧ ∀ i, i < xs.length → w'.cell? ⟨w.heap.size, 0 + i, none⟩ = some (.int .i64 (xs.getD i 0)) := by
  have hmk := makeI_run xs.length hlen
  have HR := hide hr
  clear hr
  go_enter Tryz.func27, Tryz.ntmps27
  go_wp2_with fail
  go_loopw [4] (fun s wr => ∃ (k : Nat) (ys : List Int), s = .int .i64 k ∧ k ≤ xs.length ∧ ys.length = xs.length ∧ Hid (ys.take k = xs.take k) ∧ wr.ownsRow w.heap.size 3 1 (.slice (some ⟨w.heap.size, 0, none⟩) xs.length xs.length) xs.length (ints ys) ∧ Below w.heap.size w wr ∧ w.heap.size < wr.heap.size) (fun s _ => xs.length - (intOf s).toNat)
  case atStart => exact ⟨0, List.replicate xs.length 0, rfl, Nat.zero_le _, by simp, hide (by simp), made_own w xs.length hlen, (Below.refl _ _).alloc (Nat.le_refl _) _, by simp⟩
  case round =>
    obtain ⟨k, ys, rfl, hk, hy, HT, hown, hB, hz⟩ := hrel
    by_cases hlt : k < xs.length
    · rcases HR.out with hnil | ⟨b, off, rfl, hb, hr⟩
      · rw [hnil] at hlt; simp at hlt
      · have r0 := (hB.cell (p := ⟨b, off + k, none⟩) hb).trans (hr k hlt)
        have HSET := hide (getD_set_take xs ys k hy hlt HT.out)
        have i0 : (0 : Int) ≤ (k : Int) := by omega
        have i1 : (k : Int) < (xs.length : Int) := by omega
        have c0 : wr.cell? ⟨w.heap.size, k, none⟩ = some (.int .i64 (ys.getD k 0)) := by rw [hown.cellAt k (by omega), ints_get ys k (by omega)]
        have f0 := hown.frozenAt k
        obtain ⟨st1, st2⟩ := hown.stored k (.int .i64 (xs.getD k 0))
        rw [ints_set] at st1
        have HST := hide st1
        generalize xs.getD k 0 = x at *
        generalize ys.getD k 0 = y at *
        clear hr hmk st1 hown
        go_wp2_with fail
        exact ⟨⟨k + 1, ys.set k x, by go_num, by omega, by simpa using hy, HSET, HST.out, hB.setCell (Nat.le_refl _) _, by simpa using hz⟩, by simp only [intOf]; omega⟩
    · have hke : k = xs.length := by omega
      subst hke
      have HE := hide (show ys = xs by have := HT.out; rwa [List.take_length, ← hy, List.take_length] at this)
      go_wp2_with fail
      go_ret
      refine ⟨rfl, hB, hz, fun i hi => ?_⟩
      rw [Nat.zero_add, hown.cellAt i (by omega), ints_get ys i (by omega), HE.out]
end Go.Proofs.YtlbagigghpiifabGreat
namespace Go.Proofs.YtlbagigghpiifabGreat
open Go.RowKit

theorem owns_keep {w w' : World} {base e s n c g : Nat} {xs : List Value} (h : w.ownsRow base e s (.slice (some ⟨g, 0, none⟩) n c) n xs) (hb : w'.heap[g]? = w.heap[g]?) : w'.ownsRow base e s (.slice (some ⟨g, 0, none⟩) n c) n xs := by
  rcases h with ⟨h0, h | ⟨g', cap, cur, h1, h2, h3, h4⟩⟩
  · cases h.1
  · cases h1; exact ⟨h0, Or.inr ⟨g, c, cur, rfl, h2, hb.trans h3, h4⟩⟩
theorem owns_low {w : World} {base base' e s n : Nat} {v : Value} {xs : List Value} (h : w.ownsRow base e s v n xs) (hb : base' ≤ base) : w.ownsRow base' e s v n xs := by
  rcases h with ⟨h0, h | ⟨g, cap, cur, h1, h2, h3⟩⟩
  · exact ⟨h0, Or.inl h⟩
  · exact ⟨h0, Or.inr ⟨g, cap, cur, h1, Nat.le_trans hb h2, h3⟩⟩
/-- A variable of two fields in a block of its own. -/
def PBox (w : World) (B : Nat) (v0 v1 : Value) : Prop := w.cell? ⟨B, 0, none⟩ = some v0 ∧ w.cell? ⟨B, 1, none⟩ = some v1 ∧ B < w.heap.size
theorem PBox.below {w w' : World} {B : Nat} {v0 v1 : Value} (h : PBox w B v0 v1) (hb : Below w.heap.size w w') : PBox w' B v0 v1 :=
  ⟨(hb.cell (p := ⟨B, 0, none⟩) h.2.2).trans h.1, (hb.cell (p := ⟨B, 1, none⟩) h.2.2).trans h.2.1, Nat.lt_of_lt_of_le h.2.2 hb.size⟩
theorem PBox.new (w : World) (v0 v1 : Value) (t : TypeId) : PBox (w.alloc (.cells #[v0, v1] t)) w.heap.size v0 v1 := ⟨by simp [go_sem], by simp [go_sem], by simp⟩
theorem PBox.drewN {w : World} {B : Nat} {v0 v1 : Value} (h : PBox w B v0 v1) (q : Nat) : PBox (w.drewN q) B v0 v1 := h
theorem grown_below' {w w' : World} {g k : Nat} (hg : w.grownBy w' (some g)) (h : k ≤ g) (hk : k ≤ w.heap.size) : Below k w w' :=
  ⟨hg.os, hg.tape, hg.output, hg.size, fun b hb => hg.block b (by omega) (by simp; omega)⟩
theorem below_new (w : World) (o : Obj) : Below w.heap.size w (w.alloc o) := (Below.refl _ _).alloc (Nat.le_refl _) o
theorem eqI_any {a b : Option Addr} {c d n : Nat} {xs : List Int} {w : World} (hn : xs.length = n) (hl : n ≤ 1048576) (h1 : ARow w a xs) (h2 : ARow w b xs) :
    Calls Tryz.prog 32 #[.slice a n c, .slice b n d] w fun e w' => e = .returned (.bool true) ∧ ∃ m, w' = w.drewN m := by
  subst hn
  rcases h1 with rfl | ⟨b1, o1, rfl, hb1, c1⟩
  · refine (eqI_zero a b c d w).mono ?_
    rintro e w' ⟨rfl, rfl⟩
    exact ⟨rfl, 0, rfl⟩
  · rcases h2 with rfl | ⟨b2, o2, rfl, hb2, c2⟩
    · refine (eqI_zero _ b c d w).mono ?_
      rintro e w' ⟨rfl, rfl⟩
      exact ⟨rfl, 0, rfl⟩
    · exact eqI_same xs b1 o1 c b2 o2 d w (by omega) c1 c2

theorem eqI_b {a b : Option Addr} {c d n : Nat} {xs : List Int} {w : World} (hn : xs.length = n) (hl : n ≤ 1048576) (h1 : ARow w a xs) (h2 : ARow w b xs) :
    Calls Tryz.prog 32 #[.slice a n c, .slice b n d] w fun e w' => e = .returned (.bool true) ∧ Below w.heap.size w w' := by
  refine (eqI_any hn hl h1 h2).mono ?_
  rintro e w' ⟨rfl, q, rfl⟩
  exact ⟨rfl, below_drewN (Below.refl _ _) q⟩

set_option maxHeartbeats 1000000 in
theorem toI_own (a : Option Addr) (cap n : Nat) (xs : List Int) (w : World) (hx : xs.length = n) (hlen : n ≤ 1048576) (hr : ARow w a xs) :
    Calls Tryz.prog 27 #[.slice a n cap] w fun e w' => e = .returned (.slice (some ⟨w.heap.size, 0, none⟩) n n) ∧ Below w.heap.size w w' ∧ w.heap.size < w'.heap.size ∧ w'.ownsRow w.heap.size 3 1 (.slice (some ⟨w.heap.size, 0, none⟩) n n) n (ints xs) := by
  subst hx
  have hmk := makeI_run xs.length hlen
  have HR := hide hr
  clear hr
  go_enter Tryz.func27, Tryz.ntmps27
  go_wp2_with fail
  go_loopw [4] (fun s wr => ∃ (k : Nat) (ys : List Int), s = .int .i64 k ∧ k ≤ xs.length ∧ ys.length = xs.length ∧ Hid (ys.take k = xs.take k) ∧ wr.ownsRow w.heap.size 3 1 (.slice (some ⟨w.heap.size, 0, none⟩) xs.length xs.length) xs.length (ints ys) ∧ Below w.heap.size w wr ∧ w.heap.size < wr.heap.size) (fun s _ => xs.length - (intOf s).toNat)
  case atStart => exact ⟨0, List.replicate xs.length 0, rfl, Nat.zero_le _, by simp, hide (by simp), made_own w xs.length hlen, (Below.refl _ _).alloc (Nat.le_refl _) _, by simp⟩
  case round =>
    obtain ⟨k, ys, rfl, hk, hy, HT, hown, hB, hz⟩ := hrel
    by_cases hlt : k < xs.length
    · rcases HR.out with hnil | ⟨b, off, rfl, hb, hr⟩
      · rw [hnil] at hlt; simp at hlt
      · have r0 := (hB.cell (p := ⟨b, off + k, none⟩) hb).trans (hr k hlt)
        have HSET := hide (getD_set_take xs ys k hy hlt HT.out)
        have i0 : (0 : Int) ≤ (k : Int) := by omega
        have i1 : (k : Int) < (xs.length : Int) := by omega
        have c0 : wr.cell? ⟨w.heap.size, k, none⟩ = some (.int .i64 (ys.getD k 0)) := by rw [hown.cellAt k (by omega), ints_get ys k (by omega)]
        have f0 := hown.frozenAt k
        obtain ⟨st1, st2⟩ := hown.stored k (.int .i64 (xs.getD k 0))
        rw [ints_set] at st1
        have HST := hide st1
        generalize xs.getD k 0 = x at *
        generalize ys.getD k 0 = y at *
        clear hr hmk st1 hown
        go_wp2_with fail
        exact ⟨⟨k + 1, ys.set k x, by go_num, by omega, by simpa using hy, HSET, HST.out, hB.setCell (Nat.le_refl _) _, by simpa using hz⟩, by simp only [intOf]; omega⟩
    · have hke : k = xs.length := by omega
      subst hke
      have HE := hide (show ys = xs by have := HT.out; rwa [List.take_length, ← hy, List.take_length] at this)
      rw [HE.out] at hown
      clear hmk
      go_wp2_with fail
      go_ret
      exact ⟨rfl, hB, hz, hown⟩

set_option maxHeartbeats 400000 in
theorem szI_yes (a : Option Addr) (len cap : Nat) (left : Int) (w : World) (h0 : 0 ≤ left) (h1 : left ≤ 1048576) (h : (len : Int) ≤ left) :
    Calls Tryz.prog 21 #[.slice a len cap, .int .i64 left] w fun e w' => e = .returned (.int .i64 (left - len)) ∧ w' = w := by
  have h2 : ¬ left - (len : Int) < 0 := by omega
  go_enter Tryz.func21, Tryz.ntmps21
  go_wp2
  go_ret
  exact ⟨rfl, rfl⟩

set_option maxHeartbeats 400000 in
theorem szI_no (a : Option Addr) (len cap : Nat) (left : Int) (w : World) (h0 : 0 ≤ left) (h1 : left ≤ 1048576) (hm : len ≤ maxLen) (h : left < (len : Int)) :
    Calls Tryz.prog 21 #[.slice a len cap, .int .i64 left] w fun e w' => e = .returned (.int .i64 (-1)) ∧ w' = w := by
  unfold maxLen at hm
  have h2 : left - (len : Int) < 0 := by omega
  have h3 : wrap64 (left - (len : Int)) = left - (len : Int) := wrap_id' _ (by omega) (by omega)
  go_enter Tryz.func21, Tryz.ntmps21
  go_wp2
  go_ret
  exact ⟨rfl, rfl⟩
end Go.Proofs.YtlbagigghpiifabGreat
namespace Go.Proofs.YtlbagigghpiifabGreat.Od

def waysB (us ws : List Int) : Bool := decide (us.length = ws.length) && (decide (us.length ≤ 10) && (Pf.allB us 0 1000 && Pf.allB ws 0 1000))
theorem waysB_yes {us ws : List Int} (h : waysB us ws = true) : us.length = ws.length ∧ us.length ≤ 10 ∧ Pf.allB us 0 1000 = true ∧ Pf.allB ws 0 1000 = true := by
  simpa [waysB] using h
theorem waysB_ne {us ws : List Int} (h : us.length ≠ ws.length) : waysB us ws = false := by simp [waysB, h]
theorem waysB_many {us ws : List Int} (h : 10 < us.length) : waysB us ws = false := by simp [waysB, show ¬ us.length ≤ 10 by omega]

/-- The number at i is one of 0 up to n - 1, and none ahead of it is the same. -/
def okAt (xs : List Int) (n i : Nat) : Bool := Pf.inB (xs.getD i 0) 0 ((n : Int) - 1) && !(xs.take i).contains (xs.getD i 0)
def ordB (xs : List Int) (n : Nat) : Bool := decide (xs.length = n) && (List.range n).all (okAt xs n)
theorem ordB_len {xs : List Int} {n : Nat} (h : ordB xs n = true) : xs.length = n := by
  simp only [ordB, Bool.and_eq_true, decide_eq_true_eq] at h; exact h.1
theorem ordB_at {xs : List Int} {n i : Nat} (h : ordB xs n = true) (hi : i < n) : okAt xs n i = true := by
  simp only [ordB, Bool.and_eq_true, List.all_eq_true, List.mem_range] at h; exact h.2 i hi
theorem ordB_of {xs : List Int} {n : Nat} (h1 : xs.length = n) (h : ∀ i, i < n → okAt xs n i = true) : ordB xs n = true := by
  simp only [ordB, Bool.and_eq_true, decide_eq_true_eq, List.all_eq_true, List.mem_range]; exact ⟨h1, h⟩
theorem ordB_ne {xs : List Int} {n : Nat} (h : xs.length ≠ n) : ordB xs n = false := by simp [ordB, h]
theorem ordB_not {xs : List Int} {n i : Nat} (hi : i < n) (h : okAt xs n i = false) : ordB xs n = false := by
  cases e : ordB xs n
  · rfl
  · rw [ordB_at e hi] at h; cases h
theorem ordB_in {xs : List Int} {n i : Nat} (h : ordB xs n = true) (hi : i < n) : 0 ≤ xs.getD i 0 ∧ xs.getD i 0 < n := by
  have := ordB_at h hi
  simp only [okAt, Bool.and_eq_true] at this
  have := Pf.inB_yes this.1
  omega
/-- The number at i as a natural one. -/
def nth (xs : List Int) (i : Nat) : Nat := (xs.getD i 0).toNat
theorem nth_cast {xs : List Int} {n i : Nat} (h : ordB xs n = true) (hi : i < n) : xs.getD i 0 = (nth xs i : Int) := by
  have := ordB_in h hi; unfold nth; omega
theorem nth_lt {xs : List Int} {n i : Nat} (h : ordB xs n = true) (hi : i < n) : nth xs i < n := by
  have := ordB_in h hi; unfold nth; omega

/-- Whether j is among the first k. -/
def seen (xs : List Int) (k n : Nat) : List Bool := (List.range n).map fun (j : Nat) => (xs.take k).contains (j : Int)
theorem seen_len (xs : List Int) (k n : Nat) : (seen xs k n).length = n := by simp [seen]
theorem seen_zero (xs : List Int) (n : Nat) : seen xs 0 n = List.replicate n false := by
  apply List.ext_getElem
  · simp [seen]
  · intro i h1 h2; simp [seen]
theorem seen_get (xs : List Int) (k n j : Nat) (h : j < n) : (seen xs k n).getD j false = (xs.take k).contains (j : Int) := by simp [seen, h]
theorem seen_step (xs : List Int) (k n j : Nat) (hk : k < xs.length) (h : xs.getD k 0 = (j : Int)) : (seen xs k n).set j true = seen xs (k + 1) n := by
  apply List.ext_getElem
  · simp [seen]
  · intro i h1 h2
    have hi : i < n := by simpa [seen] using h2
    have e : xs[k] = (j : Int) := by rw [Pf.getD_lt xs 0 hk] at h; exact h
    simp only [seen, List.getElem_map, List.getElem_range, List.getElem_set]
    rw [List.take_add_one]
    by_cases hij : j = i
    · subst hij; simp [hk, e]
    · have : ¬ (i : Int) = (j : Int) := by omega
      simp [hij, hk, e, this]

/-- The sum of use times way over the first k. -/
def pairTo (us ws : List Int) : Nat → Int
  | 0 => 0
  | k + 1 => pairTo us ws k + us.getD k 0 * ws.getD k 0
def pair (us ws : List Int) : Int := pairTo us ws us.length
/-- What an order costs over the first k places. -/
def costTo (us ws os : List Int) : Nat → Int
  | 0 => 0
  | k + 1 => costTo us ws os k + us.getD (nth os k) 0 * ws.getD k 0
def cost (us ws os : List Int) : Int := costTo us ws os os.length
theorem term_bd {x y : Int} (hx : 0 ≤ x ∧ x ≤ 1000) (hy : 0 ≤ y ∧ y ≤ 1000) : 0 ≤ x * y ∧ x * y ≤ 1000000 := by
  refine ⟨Int.mul_nonneg hx.1 hy.1, ?_⟩
  exact Int.le_trans (Int.mul_le_mul_of_nonneg_right hx.2 hy.1) (Int.le_trans (Int.mul_le_mul_of_nonneg_left hy.2 (show (0 : Int) ≤ 1000 by omega)) (by omega))
theorem pairTo_bd {us ws : List Int} (hu : Pf.allB us 0 1000 = true) (hw : Pf.allB ws 0 1000 = true) : ∀ k, k ≤ us.length → k ≤ ws.length → 0 ≤ pairTo us ws k ∧ pairTo us ws k ≤ 1000000 * (k : Int)
  | 0, _, _ => by simp [pairTo]
  | k + 1, h1, h2 => by
    have := pairTo_bd hu hw k (by omega) (by omega)
    have := term_bd (Pf.inB_yes (Pf.allB_get hu (show k < us.length by omega))) (Pf.inB_yes (Pf.allB_get hw (show k < ws.length by omega)))
    simp only [pairTo]; omega
theorem costTo_bd {us ws os : List Int} (hu : Pf.allB us 0 1000 = true) (hw : Pf.allB ws 0 1000 = true) (hl : us.length = ws.length) (ho : ordB os us.length = true) : ∀ k, k ≤ us.length → 0 ≤ costTo us ws os k ∧ costTo us ws os k ≤ 1000000 * (k : Int)
  | 0, _ => by simp [costTo]
  | k + 1, h1 => by
    have := costTo_bd hu hw hl ho k (by omega)
    have := term_bd (Pf.inB_yes (Pf.allB_get hu (nth_lt ho (show k < us.length by omega)))) (Pf.inB_yes (Pf.allB_get hw (show k < ws.length by omega)))
    simp only [costTo]; omega
/-- The uses as they stand in an order. -/
def placed (us os : List Int) : List Int := os.map fun o => us.getD o.toNat 0
theorem placed_len (us os : List Int) : (placed us os).length = os.length := by simp [placed]
theorem placed_get (us os : List Int) {k : Nat} (h : k < os.length) : (placed us os).getD k 0 = us.getD (nth os k) 0 := by simp [placed, nth, h]
theorem placed_pair (us ws os : List Int) : ∀ k, k ≤ os.length → pairTo (placed us os) ws k = costTo us ws os k
  | 0, _ => rfl
  | k + 1, h => by simp only [pairTo, costTo]; rw [placed_pair us ws os k (by omega), placed_get us os (by omega)]
theorem placed_cost (us ws os : List Int) : pair (placed us os) ws = cost us ws os := by
  unfold pair cost; rw [placed_len]; exact placed_pair us ws os _ (Nat.le_refl _)
theorem placed_all {us os : List Int} (hu : Pf.allB us 0 1000 = true) (ho : ordB os us.length = true) : Pf.allB (placed us os) 0 1000 = true := by
  refine Pf.allB_of fun i hi => ?_
  rw [placed_len] at hi
  have hl := ordB_len ho
  rw [placed_get us os hi]
  exact Pf.allB_get hu (nth_lt ho (by omega))
theorem placed_step (us os ys : List Int) (k : Nat) (hy : ys.length = os.length) (hk : k < os.length) (h : ys.take k = (placed us os).take k) : (ys.set k (us.getD (nth os k) 0)).take (k + 1) = (placed us os).take (k + 1) := by
  rw [List.take_add_one, List.take_add_one, List.take_set_of_le (Nat.le_refl _), h]
  congr 1
  simp [hk, hy, placed, nth]

/-- The goods of two places changed. -/
def swap (os : List Int) (a b : Nat) : List Int := (os.set a (os.getD b 0)).set b (os.getD a 0)
theorem swap_len (os : List Int) (a b : Nat) : (swap os a b).length = os.length := by simp [swap]
theorem swap_get (os : List Int) {a b i : Nat} (ha : a < os.length) (hb : b < os.length) (hi : i < os.length) : (swap os a b).getD i 0 = if i = b then os.getD a 0 else if i = a then os.getD b 0 else os.getD i 0 := by
  simp only [swap, List.getD_eq_getElem?_getD, List.getElem?_set, List.length_set]
  by_cases h1 : b = i
  · subst h1; simp [hb]
  · rw [if_neg h1, if_neg (show ¬ i = b by omega)]
    by_cases h2 : a = i
    · subst h2; simp [ha]
    · rw [if_neg h2, if_neg (show ¬ i = a by omega)]
theorem okAt_iff {xs : List Int} {n i : Nat} (hl : xs.length = n) (hi : i < n) : okAt xs n i = true ↔ (0 ≤ xs.getD i 0 ∧ xs.getD i 0 < n) ∧ ∀ j, j < i → xs.getD j 0 ≠ xs.getD i 0 := by
  simp only [okAt, Bool.and_eq_true, Bool.not_eq_true', List.contains_eq_mem, decide_eq_false_iff_not]
  constructor
  · rintro ⟨h1, h2⟩
    have := Pf.inB_yes h1
    refine ⟨by omega, fun j hj e => h2 ?_⟩
    rw [← e]
    have hj' : j < xs.length := by omega
    rw [Pf.getD_lt xs 0 hj']
    exact List.mem_take_iff_getElem.2 ⟨j, by omega, rfl⟩
  · rintro ⟨h1, h2⟩
    refine ⟨Pf.inB_of h1.1 (by omega), fun hm => ?_⟩
    obtain ⟨j, hj, e⟩ := List.mem_take_iff_getElem.1 hm
    have hj' : j < xs.length := by omega
    exact h2 j (by omega) (by rw [Pf.getD_lt xs 0 hj']; exact e)
/-- An order: its numbers are 0 up to n - 1, no two alike. -/
theorem ordB_iff {xs : List Int} {n : Nat} : ordB xs n = true ↔ xs.length = n ∧ (∀ i, i < n → 0 ≤ xs.getD i 0 ∧ xs.getD i 0 < n) ∧ ∀ i j, i < n → j < n → xs.getD i 0 = xs.getD j 0 → i = j := by
  constructor
  · intro h
    have hl := ordB_len h
    refine ⟨hl, fun i hi => ordB_in h hi, fun i j hi hj e => ?_⟩
    rcases Nat.lt_trichotomy i j with c | c | c
    · exact absurd e (((okAt_iff hl hj).1 (ordB_at h hj)).2 i c)
    · exact c
    · exact absurd e.symm (((okAt_iff hl hi).1 (ordB_at h hi)).2 j c)
  · rintro ⟨hl, h1, h2⟩
    refine ordB_of hl fun i hi => (okAt_iff hl hi).2 ⟨h1 i hi, fun j hj e => ?_⟩
    have := h2 j i (by omega) hi e
    omega
theorem swap_ord {os : List Int} {n a b : Nat} (h : ordB os n = true) (ha : a < n) (hb : b < n) : ordB (swap os a b) n = true := by
  obtain ⟨hl, h1, h2⟩ := ordB_iff.1 h
  subst hl
  refine ordB_iff.2 ⟨swap_len _ _ _, fun i hi => ?_, fun i j hi hj => ?_⟩
  · rw [swap_get os ha hb hi]; split
    · exact h1 a ha
    · split
      · exact h1 b hb
      · exact h1 i hi
  · rw [swap_get os ha hb hi, swap_get os ha hb hj]
    intro e
    by_cases i1 : i = b
    · rw [if_pos i1] at e
      by_cases j1 : j = b
      · omega
      · rw [if_neg j1] at e
        by_cases j2 : j = a
        · rw [if_pos j2] at e
          have := h2 a b ha hb e; omega
        · rw [if_neg j2] at e
          have := h2 a j ha hj e; omega
    · rw [if_neg i1] at e
      by_cases i2 : i = a
      · rw [if_pos i2] at e
        by_cases j1 : j = b
        · rw [if_pos j1] at e; have := h2 b a hb ha e; omega
        · rw [if_neg j1] at e
          by_cases j2 : j = a
          · omega
          · rw [if_neg j2] at e
            have := h2 b j hb hj e; omega
      · rw [if_neg i2] at e
        by_cases j1 : j = b
        · rw [if_pos j1] at e; have := h2 i a hi ha e; omega
        · rw [if_neg j1] at e
          by_cases j2 : j = a
          · rw [if_pos j2] at e; have := h2 i b hi hb e; omega
          · rw [if_neg j2] at e; exact h2 i j hi hj e

theorem count_set {l : List Bool} {k : Nat} (h : l.getD k true = false) : l.count false = (l.set k true).count false + 1 := by
  have hk : k < l.length := by
    by_cases hk : k < l.length
    · exact hk
    · simp [hk] at h
  have e : l[k] = false := by simpa [hk] using h
  have h1 := List.take_append_drop k l
  have h2 : l.drop k = l[k] :: l.drop (k + 1) := List.drop_eq_getElem_cons hk
  have h3 : l.set k true = l.take k ++ true :: l.drop (k + 1) := by rw [List.set_eq_take_append_cons_drop, if_pos hk]
  rw [h3]
  conv => lhs; rw [← h1, h2, e]
  simp [List.count_append]; omega
/-- From k on along the order, until one is met that was gone to. -/
def gone (xs : List Int) (l : List Bool) (k : Nat) : List Bool :=
  if _h : l.getD k true = false then gone xs (l.set k true) (nth xs k) else l
termination_by l.count false
decreasing_by
  have := count_set _h
  omega
theorem gone_stop {xs : List Int} {l : List Bool} {k : Nat} (h : l.getD k true = true) : gone xs l k = l := by
  rw [gone, dif_neg (by rw [h]; decide)]
theorem gone_step {xs : List Int} {l : List Bool} {k : Nat} (h : l.getD k true = false) : gone xs l k = gone xs (l.set k true) (nth xs k) := by
  rw [gone, dif_pos h]
/-- What was gone to, and how many rings there are, behind the first i. -/
def ringsTo (xs : List Int) (n : Nat) : Nat → List Bool × Nat
  | 0 => (List.replicate n false, 0)
  | i + 1 => let s := ringsTo xs n i; (gone xs s.1 i, if s.1.getD i true = false then s.2 + 1 else s.2)
def rings (xs : List Int) : Nat := (ringsTo xs xs.length xs.length).2
theorem gone_len (xs : List Int) : ∀ (m : Nat) (l : List Bool) (k : Nat), l.count false = m → (gone xs l k).length = l.length
  | m, l, k, hm => by
    cases h : l.getD k true
    · have := count_set h
      rw [gone_step h]
      cases m with
      | zero => omega
      | succ m => rw [gone_len xs m _ _ (by omega)]; simp
    · rw [gone_stop h]
theorem ringsTo_len (xs : List Int) (n : Nat) : ∀ i, (ringsTo xs n i).1.length = n
  | 0 => by simp [ringsTo]
  | i + 1 => by simp only [ringsTo]; rw [gone_len xs _ _ _ rfl, ringsTo_len xs n i]
theorem ringsTo_le (xs : List Int) (n : Nat) : ∀ i, (ringsTo xs n i).2 ≤ i
  | 0 => by simp [ringsTo]
  | i + 1 => by have := ringsTo_le xs n i; simp only [ringsTo]; split <;> omega
end Go.Proofs.YtlbagigghpiifabGreat.Od
namespace Go.Proofs.YtlbagigghpiifabGreat
open Go.RowKit

def bls (bs : List Bool) : List Value := bs.map fun b => .bool b
theorem bls_len (bs : List Bool) : (bls bs).length = bs.length := by simp [bls]
theorem bls_get (bs : List Bool) (j : Nat) (h : j < bs.length) (d : Bool) : (bls bs)[j]? = some (.bool (bs.getD j d)) := by simp [bls, h]
theorem bls_set (bs : List Bool) (j : Nat) (x : Bool) : (bls bs).set j (.bool x) = bls (bs.set j x) := by simp [bls, List.map_set]
theorem madeB_own (w : World) (n : Nat) (hn : n ≤ 1048576) : (w.alloc (.cells (madeCells #[.bool false] n) 4)).ownsRow w.heap.size 4 1 (.slice (some ⟨w.heap.size, 0, none⟩) n n) n (bls (List.replicate n false)) := by
  have h := World.ownsRow_lit (base := w.heap.size) (e := 4) (size := 1) w (madeCells #[.bool false] n) n (Nat.le_refl _) (by unfold maxLen; omega) (by simp [madeCells])
  rw [toList_madeCells_one] at h
  simpa [bls] using h

end Go.Proofs.YtlbagigghpiifabGreat
namespace Go.Proofs.YtlbagigghpiifabGreat
open Go.RowKit

theorem ARow.take {w : World} {a : Option Addr} {xs : List Int} (h : ARow w a xs) (k : Nat) : ARow w a (xs.take k) := by
  rcases h with h | ⟨b, off, ha, hb, hc⟩
  · exact Or.inl (by rw [h]; simp)
  · refine Or.inr ⟨b, off, ha, hb, fun i hi => ?_⟩
    rw [List.length_take] at hi
    rw [hc i (by omega)]
    simp [show i < k by omega]
end Go.Proofs.YtlbagigghpiifabGreat
namespace Go.Proofs.YtlbagigghpiifabGreat
open Go.RowKit

theorem infoI : ∃ i, Tryz.prog.info? 3 = some i ∧ i.zero = some (.int .i64 0) ∧ i.size = 1 ∧ i.bytes = 8 := by
  have h : (Tryz.prog.info? 3).map (fun i => (i.zero, i.size, i.bytes)) = some (some (.int .i64 0), 1, 8) := by kernel_rfl
  obtain ⟨i, hi, hzz⟩ := Option.map_eq_some_iff.1 h
  simp only [Prod.mk.injEq] at hzz
  exact ⟨i, hi, hzz.1, hzz.2.1, hzz.2.2⟩
/-- A slice of values of one cell each. -/
def VRow (w : World) (a : Option Addr) (vs : List Value) : Prop := vs = [] ∨ ∃ b off, a = some ⟨b, off, none⟩ ∧ b < w.heap.size ∧ ∀ j u, vs[j]? = some u → w.cell? ⟨b, off + j, none⟩ = some u
theorem VRow.below {w w' : World} {a : Option Addr} {vs : List Value} (h : VRow w a vs) (hb : Below w.heap.size w w') : VRow w' a vs := by
  rcases h with h | ⟨b, off, ha, hl, hc⟩
  · exact Or.inl h
  · exact Or.inr ⟨b, off, ha, Nat.lt_of_lt_of_le hl hb.size, fun j u hj => (hb.cell (p := ⟨b, off + j, none⟩) hl).trans (hc j u hj)⟩
theorem ARow.vrow {w : World} {a : Option Addr} {xs : List Int} (h : ARow w a xs) : VRow w a (ints xs) := by
  rcases h with h | ⟨b, off, ha, hl, hc⟩
  · exact Or.inl (by rw [h]; rfl)
  · refine Or.inr ⟨b, off, ha, hl, fun j u hj => ?_⟩
    have hjl : j < xs.length := by
      have := (List.getElem?_eq_some_iff.1 hj).1
      simpa [ints] using this
    rw [hc j hjl]
    rw [ints_get xs j hjl] at hj
    exact hj
theorem c_ints (xs : List Int) : ∀ u ∈ ints xs, u.oneCell' = true := by
  intro u hu
  simp only [ints, List.mem_map] at hu
  obtain ⟨x, _, rfl⟩ := hu; rfl
theorem add_plain' (b o j : Nat) : (⟨b, o, none⟩ : Addr).add j = ⟨b, o + j, none⟩ := by unfold Addr.add; split <;> simp_all
/-- Append of whatever list of values, onto an owned one. -/
theorem run_append_v {P : Program} (w : World) (base : Nat) (t ty e : TypeId) (i : TypeInfo) (z : Value) (bytes : Nat) (ht : P.underlying t = some (.slice e)) (hi : P.info? e = some i) (hz : i.zero = some z)
    (hsize : i.size = 1) (hby : i.bytes = bytes) (hzs : z.cells.size = 1) (v : Value) (n : Nat) (xs : List Value) (hown : w.ownsRow base e 1 v n xs)
    (a : Option Addr) (m c : Nat) (news : List Value) (hm : news.length = m) (hv : VRow w a news) (h1 : ∀ u ∈ news, u.oneCell' = true) (h63 : n + m ≤ maxLen) (hbytes : (n + m) * bytes ≤ 140737488355328) (hbase : base ≤ w.heap.size) :
    ∃ v' w', (Builtin.append_ #[t, t] ty #[v, .slice a m c]).run P w = .ok v' w' ∧ w'.ownsRow base e 1 v' (n + m) (xs ++ news) ∧ w.grownBy w' v.ownBlock := by
  cases a with
  | none =>
    have hn : news = [] := by
      rcases hv with h | ⟨b, off, h, _⟩
      · exact h
      · cases h
    subst hn
    have : m = 0 := by simpa using hm.symm
    subst this
    refine ⟨v, w, ?_, by simpa using hown, World.grownBy.refl _ _⟩
    rcases hown.2 with ⟨rfl, rfl⟩ | ⟨g, cap, cur, rfl, _, _, hnc, _⟩
    · simp [Builtin.append_, run_underlying ht, sizeOf, typeInfo, hi, Builtin.lenOf, Builtin.firstCells]
    · simp [Builtin.append_, run_underlying ht, sizeOf, typeInfo, hi, Builtin.lenOf, Builtin.firstCells, hnc, storeCells]
  | some ad =>
    obtain ⟨v', w', hr, h2, h3, _⟩ := run_append_own (P := P) w base t ty e i z 1 bytes ht hi hz hsize hby hzs (by decide) v n xs hown ad m c news (by omega) (fun j u hj => by
      rcases hv with h | ⟨b, off, h, _, hc⟩
      · rw [h] at hj; simp at hj
      · cases h; rw [add_plain']; exact hc j u hj) h1 h63 hbytes hbase
    exact ⟨v', w', hr, h2, h3⟩
theorem grown_under' {w w' : World} {base e s n k : Nat} {v : Value} {xs : List Value} (hg : w.grownBy w' v.ownBlock) (h : w.ownsRow base e s v n xs) (hk : k ≤ base) (hs : k ≤ w.heap.size) : Below k w w' :=
  ⟨hg.os, hg.tape, hg.output, hg.size, fun b hb => hg.block b (by omega) (fun he => by have := h.lt b he.symm; omega)⟩
theorem vrow_new (w : World) (u : Value) (e : TypeId) : VRow (w.alloc (.cells #[u] e)) (some ⟨w.heap.size, 0, none⟩) [u] := by
  refine Or.inr ⟨w.heap.size, 0, rfl, by simp, fun j x hj => ?_⟩
  have : j = 0 := by
    have := (List.getElem?_eq_some_iff.1 hj).1
    simpa using this
  subst this
  have : x = u := by simpa using hj.symm
  subst this
  simp
/-- One value more behind an owned list of ints. -/
theorem push_int {w : World} {base n : Nat} {v : Value} {xs : List Value} {x : Int} (hown : w.ownsRow base 3 1 v n xs) (hn : n ≤ 100000) (hb : base ≤ w.heap.size) :
    ∃ v' w', (∀ ty, (Builtin.append_ #[26, 26] ty #[v, .slice (some ⟨w.heap.size, 0, none⟩) 1 1]).run Tryz.prog (w.alloc (.cells #[.int .i64 x] 3)) = .ok v' w') ∧ w'.ownsRow base 3 1 v' (n + 1) (xs ++ [.int .i64 x]) ∧ w.grownBy w' v.ownBlock := by
  obtain ⟨i0, hi, hz0, hz1, hz2⟩ := infoI
  obtain ⟨v', w', h1, h2, h3⟩ := run_append_v (P := Tryz.prog) (w.alloc (.cells #[.int .i64 x] 3)) base 26 0 3 i0 _ 8 Tryz.underlying26 hi hz0 hz1 hz2 rfl v n xs (hown.alloc _) (some ⟨w.heap.size, 0, none⟩) 1 1 [.int .i64 x] rfl (vrow_new w _ 3) (fun u hu => by simp at hu; subst hu; rfl) (by unfold maxLen; omega) (by omega) (by simp; omega)
  refine ⟨v', w', fun _ => h1, h2, ?_⟩
  have hg := World.grownBy_alloc w (.cells #[.int .i64 x] 3) v.ownBlock
  exact ⟨h3.os.trans hg.os, h3.tape.trans hg.tape, h3.output.trans hg.output, Nat.le_trans hg.size h3.size, fun b hb hne => (h3.block b (Nat.lt_of_lt_of_le hb hg.size) hne).trans (hg.block b hb hne)⟩
/-- An owned list is nothing, or lies somewhere. -/
theorem own_form {w : World} {base e s n : Nat} {v : Value} {xs : List Value} (h : w.ownsRow base e s v n xs) : ∃ a c, v = .slice a n c := by
  rcases h.2 with ⟨rfl, rfl⟩ | ⟨g, cap, cur, rfl, _⟩
  · exact ⟨none, 0, rfl⟩
  · exact ⟨_, _, rfl⟩
end Go.Proofs.YtlbagigghpiifabGreat
namespace Go.Proofs
open Go.Shelf
def Tryz.lays189_ren : Go.Shelf.Ren := ⟨fun | 189 => 113 | 125 => 127 | 257 => 126 | 128 => 139 | 129 => 140 | 294 => 130 | 295 => 131 | 296 => 132 | 297 => 133 | 298 => 134 | 299 => 135 | 216 => 136 | 300 => 137 | 301 => 138 | 328 => 142 | 329 => 143 | 330 => 144 | 331 => 145 | 332 => 146 | 215 => 129 | 343 => 149 | n => n, fun | 28 => 26 | 3 => 3 | 46 => 135 | 0 => 0 | 51 => 146 | 53 => 148 | 4 => 4 | 183 => 139 | 182 => 138 | 131 => 143 | 5 => 5 | 9 => 9 | 218 => 150 | 222 => 154 | 228 => 158 | 229 => 159 | n => n, fun | n => n⟩
theorem Tryz.lays189 : Go.Proofs.Lays.n189 Tryz.prog Tryz.lays189_ren := {
  mixed := by kernel_rfl
  f125 := Tryz.func127.trans (congrArg some (by kernel_rfl))
  f128 := Tryz.func139.trans (congrArg some (by kernel_rfl))
  f129 := Tryz.func140.trans (congrArg some (by kernel_rfl))
  f189 := Tryz.func113.trans (congrArg some (by kernel_rfl))
  f215 := Tryz.func129.trans (congrArg some (by kernel_rfl))
  f216 := Tryz.func136.trans (congrArg some (by kernel_rfl))
  f257 := Tryz.func126.trans (congrArg some (by kernel_rfl))
  f294 := Tryz.func130.trans (congrArg some (by kernel_rfl))
  f295 := Tryz.func131.trans (congrArg some (by kernel_rfl))
  f296 := Tryz.func132.trans (congrArg some (by kernel_rfl))
  f297 := Tryz.func133.trans (congrArg some (by kernel_rfl))
  f298 := Tryz.func134.trans (congrArg some (by kernel_rfl))
  f299 := Tryz.func135.trans (congrArg some (by kernel_rfl))
  f300 := Tryz.func137.trans (congrArg some (by kernel_rfl))
  f301 := Tryz.func138.trans (congrArg some (by kernel_rfl))
  f328 := Tryz.func142.trans (congrArg some (by kernel_rfl))
  f329 := Tryz.func143.trans (congrArg some (by kernel_rfl))
  f330 := Tryz.func144.trans (congrArg some (by kernel_rfl))
  f331 := Tryz.func145.trans (congrArg some (by kernel_rfl))
  f332 := Tryz.func146.trans (congrArg some (by kernel_rfl))
  f343 := Tryz.func149.trans (congrArg some (by kernel_rfl))
  t0 := Tryz.underlying0
  a0 := Tryz.isAgg0
  z0 := Tryz.sizeOf0
  v0 := Tryz.zeroValue0
  t3 := Tryz.underlying3
  a3 := Tryz.isAgg3
  z3 := Tryz.sizeOf3
  v3 := Tryz.zeroValue3
  t4 := Tryz.underlying4
  a4 := Tryz.isAgg4
  z4 := Tryz.sizeOf4
  v4 := Tryz.zeroValue4
  t5 := Tryz.underlying5
  a5 := Tryz.isAgg5
  z5 := Tryz.sizeOf5
  v5 := Tryz.zeroValue5
  t9 := Tryz.underlying9
  a9 := Tryz.isAgg9
  z9 := Tryz.sizeOf9
  v9 := Tryz.zeroValue9
  t28 := Tryz.underlying26
  a28 := Tryz.isAgg26
  z28 := Tryz.sizeOf26
  v28 := Tryz.zeroValue26
  t46 := Tryz.underlying135
  a46 := Tryz.isAgg135
  z46 := Tryz.sizeOf135
  v46 := Tryz.zeroValue135
  t51 := Tryz.underlying146
  a51 := Tryz.isAgg146
  z51 := Tryz.sizeOf146
  v51 := Tryz.zeroValue146
  t53 := Tryz.underlying148
  a53 := Tryz.isAgg148
  z53 := Tryz.sizeOf148
  v53 := Tryz.zeroValue148
  t131 := Tryz.underlying143
  a131 := Tryz.isAgg143
  z131 := Tryz.sizeOf143
  v131 := Tryz.zeroValue143
  t182 := Tryz.underlying138
  a182 := Tryz.isAgg138
  z182 := Tryz.sizeOf138
  v182 := Tryz.zeroValue138
  t183 := Tryz.underlying139
  a183 := Tryz.isAgg139
  z183 := Tryz.sizeOf139
  v183 := Tryz.zeroValue139
  t218 := Tryz.underlying150
  a218 := Tryz.isAgg150
  z218 := Tryz.sizeOf150
  v218 := Tryz.zeroValue150
  t222 := Tryz.underlying154
  a222 := Tryz.isAgg154
  z222 := Tryz.sizeOf154
  v222 := Tryz.zeroValue154
  t228 := Tryz.underlying158
  a228 := Tryz.isAgg158
  z228 := Tryz.sizeOf158
  v228 := Tryz.zeroValue158
  t229 := Tryz.underlying159
  a229 := Tryz.isAgg159
  z229 := Tryz.sizeOf159
  v229 := Tryz.zeroValue159 }
open Go.Sort Go.RowKit in
theorem Tryz.slices_Sort_int (blk off cap : Nat) (zs : List Int) (w : World) (hH : Holds (Value.int .i64) w blk off zs.toArray) (hblk : blk < w.heap.size) (hsz : zs.length < 4611686018427387904) :
    Calls Tryz.prog 113 #[.slice (some ⟨blk, off, none⟩) zs.length cap] w fun e w' =>
      e = .returned (.tuple #[]) ∧ ∃ n os, w' = grow (putRow (Value.int .i64) (Sort.ahead w n) blk off (zs.mergeSort fun x y => decide (x ≤ y)).toArray) os := Any.slices_Sort_int Tryz.lays189 blk off cap zs w hH hblk hsz
def Tryz.lays111_ren : Go.Shelf.Ren := ⟨fun | 111 => 82 | n => n, fun | 28 => 26 | 3 => 3 | 4 => 4 | 0 => 0 | n => n, fun | n => n⟩
theorem Tryz.lays111 : Go.Proofs.Lays.n111 Tryz.prog Tryz.lays111_ren := {
  mixed := by kernel_rfl
  f111 := Tryz.func82.trans (congrArg some (by kernel_rfl))
  t0 := Tryz.underlying0
  a0 := Tryz.isAgg0
  z0 := Tryz.sizeOf0
  v0 := Tryz.zeroValue0
  t3 := Tryz.underlying3
  a3 := Tryz.isAgg3
  z3 := Tryz.sizeOf3
  v3 := Tryz.zeroValue3
  t4 := Tryz.underlying4
  a4 := Tryz.isAgg4
  z4 := Tryz.sizeOf4
  v4 := Tryz.zeroValue4
  t28 := Tryz.underlying26
  a28 := Tryz.isAgg26
  z28 := Tryz.sizeOf26
  v28 := Tryz.zeroValue26 }
open Go.RowKit Go.Lib in
theorem Tryz.slices_Equal_int (b1 o1 n c b2 o2 m d : Nat) (xs ys : List Int) (w : World) (hx : n ≤ xs.length) (hy : m ≤ ys.length) (hbig : n ≤ 9223372036854775807) (hbig2 : m ≤ 9223372036854775807) (hc1 : ∀ j, j < xs.length → w.cell? ⟨b1, o1 + j, none⟩ = some (.int .i64 (xs.getD j 0))) (hc2 : ∀ j, j < ys.length → w.cell? ⟨b2, o2 + j, none⟩ = some (.int .i64 (ys.getD j 0))) :
    Calls Tryz.prog 82 #[.slice (some ⟨b1, o1, none⟩) n c, .slice (some ⟨b2, o2, none⟩) m d] w fun e w' => e = .returned (.bool (xs.take n == ys.take m)) ∧ ∃ q, w' = w.drewN q := Any.slices_Equal_int Tryz.lays111 b1 o1 n c b2 o2 m d xs ys w hx hy hbig hbig2 hc1 hc2
def Tryz.laysNm215_ren : Go.Shelf.Ren := ⟨fun | 15 => 64 | n => n, fun | 22 => 26 | 3 => 3 | 4 => 4 | n => n, fun | n => n⟩
theorem Tryz.laysNm215 : Go.Proofs.Lays2.n15 Tryz.prog Tryz.laysNm215_ren := {
  mixed := by kernel_rfl
  f15 := Tryz.func64.trans (congrArg some (by kernel_rfl))
  t3 := Tryz.underlying3
  a3 := Tryz.isAgg3
  z3 := Tryz.sizeOf3
  v3 := Tryz.zeroValue3
  t4 := Tryz.underlying4
  a4 := Tryz.isAgg4
  z4 := Tryz.sizeOf4
  v4 := Tryz.zeroValue4
  t22 := Tryz.underlying26
  a22 := Tryz.isAgg26
  z22 := Tryz.sizeOf26
  v22 := Tryz.zeroValue26
  i3 := by kernel_rfl }
open Go.RowKit Go.Lib in
theorem Tryz.slices_Clone_int (b off n c : Nat) (zs : List Int) (w : World) (hz : n ≤ zs.length) (hbig : n * 8 ≤ 140737488355328) (hc : ∀ j, j < zs.length → w.cell? ⟨b, off + j, none⟩ = some (.int .i64 (zs.getD j 0))) :
    Calls Tryz.prog 64 #[.slice (some ⟨b, off, none⟩) n c] w fun e w' => ∃ v', e = .returned v' ∧ w'.ownsRow w.heap.size 3 1 v' n ((zs.take n).map (Value.int .i64)) ∧ v' ≠ .slice none 0 0 ∧ Below w.heap.size w w' := Any.slices_Clone_int Tryz.laysNm215 b off n c zs w hz hbig hc
open Go.RowKit Go.Sort in
theorem Tryz.slices_Sort_int_none (p : Option Addr) (cap : Nat) (w : World) :
    Calls Tryz.prog 113 #[.slice p 0 cap] w fun e w' => e = .returned (.tuple #[]) ∧ w' = w := Any.slices_Sort_int_none Tryz.lays189 p cap w
def Tryz.laysSlF20_f147_ren : Go.Shelf.Ren := ⟨fun | 20 => 147 | n => n, fun | 24 => 3 | 22 => 26 | 3 => 3 | 25 => 103 | 4 => 4 | 0 => 0 | n => n, fun | n => n⟩
theorem Tryz.laysSlF20_f147 : Go.Proofs.SlLaysF.n20 Tryz.prog Tryz.laysSlF20_f147_ren := {
  mixed := by kernel_rfl
  f20 := ⟨Tryz.f147.name, by decide, Tryz.func147.trans (congrArg some (by kernel_rfl))⟩
  t0 := Tryz.underlying0
  a0 := Tryz.isAgg0
  z0 := Tryz.sizeOf0
  v0 := Tryz.zeroValue0
  t3 := Tryz.underlying3
  a3 := Tryz.isAgg3
  z3 := Tryz.sizeOf3
  v3 := Tryz.zeroValue3
  t4 := Tryz.underlying4
  a4 := Tryz.isAgg4
  z4 := Tryz.sizeOf4
  v4 := Tryz.zeroValue4
  t22 := Tryz.underlying26
  a22 := Tryz.isAgg26
  z22 := Tryz.sizeOf26
  v22 := Tryz.zeroValue26
  a24 := Tryz.isAgg3
  z24 := Tryz.sizeOf3
  t25 := Tryz.underlying103
  a25 := Tryz.isAgg103
  z25 := Tryz.sizeOf103
  v25 := Tryz.zeroValue103 }
open Go.RowKit Go.Lib Go.Sort in
theorem Tryz.insertionSortCmpFunc_one {α : Type} [Inhabited α] (enc : α → Value) (hO : OneCell enc) (cf : α → α → Int) (g : Nat) (cb : Array Value) (blk off cap a b : Nat) (d : Array α) (w : World) (eg : ∀ args w, (callFunc g args).run Tryz.prog w = .ok (.enter g args) w) (hcmp : CmpReads Tryz.prog g cb enc cf blk off d.size w) (hH : Holds enc w blk off d) (hab : a ≤ b) (hb : b ≤ d.size) (hsz : d.size < 4611686018427387904) :
    Calls Tryz.prog 147 #[.slice (some ⟨blk, off, none⟩) d.size cap, .int .i64 a, .int .i64 b, .func (.func g) #[] cb] w fun e w' =>
      e = .returned (.tuple #[]) ∧ ∃ n, w' = (putRow enc w blk off (Sort.insertionSort (ltOf cf) d a b)).drewN n := Any.insertionSortCmpFunc_one Tryz.laysSlF20_f147 enc hO cf g cb blk off cap a b d w eg hcmp hH hab hb hsz
end Go.Proofs
namespace Go.Proofs.YtlbagigghpiifabGreat
open Go.RowKit Go.Sort

def cmpI (x y : Int) : Int := if x < y then -1 else if y < x then 1 else 0
theorem cmpI_neg (x y : Int) : decide (cmpI x y < 0) = decide (x < y) := by
  unfold cmpI; split
  · rename_i h; simp [h]
  · rename_i h; split <;> simp <;> omega

set_option maxHeartbeats 400000 in
theorem compare_any (x y : Int) (w : World) :
    Calls Tryz.prog 121 #[.int .i64 x, .int .i64 y] w fun e w' => e = .returned (.int .i64 (cmpI x y)) ∧ w' = w := by
  have hx : (x != x) = false := by simp
  have hy : (y != y) = false := by simp
  unfold cmpI
  by_cases h1 : x < y
  · rw [if_pos h1]
    go_enter Tryz.func121, Tryz.ntmps121
    go_wp2
    go_ret
    exact ⟨rfl, rfl⟩
  · rw [if_neg h1]
    by_cases h2 : y < x
    · rw [if_pos h2]
      go_enter Tryz.func121, Tryz.ntmps121
      go_wp2
      go_ret
      exact ⟨rfl, rfl⟩
    · rw [if_neg h2]
      go_enter Tryz.func121, Tryz.ntmps121
      go_wp2
      go_ret
      exact ⟨rfl, rfl⟩

/-- A number as it stands in the row that is sorted. -/
def encF (m : Nat) (x : Fin (m + 1)) : Value := .int .i64 (x.val : Int)
theorem encF_one (m : Nat) : OneCell (encF m) := fun _ => rfl

theorem sort_far {α : Type} [Inhabited α] {enc : α → Value} {w : World} {blk off m b o : Nat} {dk : Array α} {os : Array Obj} (hb : b < w.heap.size) (hne : b ≠ blk) :
    (sortWorld enc w blk off m dk os).cell? ⟨b, o, none⟩ = w.cell? ⟨b, o, none⟩ := by
  unfold sortWorld
  rw [cell?_grow _ _ _ (by simpa using hb), cell?_putRow_other _ _ _ _ _ _ (Or.inl hne)]
  rfl

/-- A comparison of numbers by their values, the greater one first, whatever is written into block g. -/
def CmpBy (f : Nat) (cb : Array Value) (vs : List Int) (g : Nat) (w : World) : Prop :=
  ∀ W : World, (∀ b o, b < w.heap.size → b ≠ g → W.cell? ⟨b, o, none⟩ = w.cell? ⟨b, o, none⟩) → ∀ i j : Nat, i < vs.length → j < vs.length →
    Calls Tryz.prog f (#[.int .i64 (i : Int), .int .i64 (j : Int)] ++ cb) W fun e w' => e = .returned (.int .i64 (cmpI (Rk.val vs j) (Rk.val vs i))) ∧ ∃ q, w' = W.drewN q
theorem CmpBy.below {f g : Nat} {cb : Array Value} {vs : List Int} {w w' : World} (h : CmpBy f cb vs g w) (hs : w.heap.size ≤ w'.heap.size) (hB : ∀ b, b < w.heap.size → w'.heap[b]? = w.heap[b]?) : CmpBy f cb vs g w' :=
  fun W hW => h W fun b o hb hne => (hW b o (Nat.lt_of_lt_of_le hb hs) hne).trans (World.cell?_of_block (w := w) (a := ⟨b, o, none⟩) (hB b hb))
theorem cmp_reads {w : World} {f g m : Nat} {cb : Array Value} {vs : List Int} (hv : vs.length = m + 1) (hc : CmpBy f cb vs g w) (size : Nat) :
    CmpReads Tryz.prog f cb (encF m) (fun x y => cmpI (Rk.val vs y.val) (Rk.val vs x.val)) g 0 size w := by
  intro q os dk _ x y
  exact hc _ (fun b o hb hne => sort_far hb hne) x.val y.val (by rw [hv]; exact x.isLt) (by rw [hv]; exact y.isLt)

theorem ltOf_eq (vs : List Int) (m : Nat) : ltOf (fun x y : Fin (m + 1) => cmpI (Rk.val vs y.val) (Rk.val vs x.val)) = Rk.lt vs m := by
  funext x y
  exact cmpI_neg _ _

/-- The numbers 0, 1, .. -/
def nats (l : List Nat) : List Int := l.map fun (x : Nat) => (x : Int)
theorem nats_len (l : List Nat) : (nats l).length = l.length := by simp [nats]

/-- Behind the sort the same slice owns the sorted list. -/
theorem put_owns {w : World} {g n base m : Nat} {d : List (Fin (m + 1))} {xs : List Int} (q : Nat) (hd : d.length = n) (h : w.ownsRow base 3 1 (.slice (some ⟨g, 0, none⟩) n n) n (ints xs)) :
    ((putRow (encF m) w g 0 d.toArray).drewN q).ownsRow base 3 1 (.slice (some ⟨g, 0, none⟩) n n) n (ints (nats (Rk.vals m d))) := by
  rcases h.2 with ⟨h0, _⟩ | ⟨g', cap, cur, hv, hb, hg, h1, h2, h3, h4⟩
  · cases h0
  · cases hv
    refine ⟨by simp [ints, nats, Rk.vals, hd], Or.inr ⟨g, n, putCells (encF m) 0 d.toArray cur, rfl, hb, ?_, h1, h2, by simp [putCells, h3], ?_⟩⟩
    · show (putRow (encF m) w g 0 d.toArray).heap[g]? = _
      simp [putRow, mapBlock, Array.getElem?_modify, hg, onCells]
    · rw [Nat.mul_one]
      apply List.ext_getElem?
      intro j
      by_cases hj : j < n
      · rw [List.getElem?_take_of_lt hj, Array.getElem?_toList]
        have hjd : j < d.length := by omega
        simp [putCells, hj, show j < cur.size by omega, ints, nats, Rk.vals, hd, encF]
      · rw [List.getElem?_take_eq_none (by omega), List.getElem?_eq_none (by simp [ints, nats, Rk.vals]; omega)]
theorem put_grown {w : World} {α : Type} [Inhabited α] {enc : α → Value} {g q : Nat} {d : Array α} : w.grownBy ((putRow enc w g 0 d).drewN q) (some g) := by
  refine ⟨rfl, rfl, rfl, by show _ ≤ (putRow enc w g 0 d).heap.size; simp, fun k hk hne => ?_⟩
  have : g ≠ k := fun e => hne (by rw [e])
  show (putRow enc w g 0 d).heap[k]? = _
  simp [putRow, mapBlock, Array.getElem?_modify, this]
theorem own_holds {w : World} {g n base m : Nat} {d : List (Fin (m + 1))} (hd : d.length = n) (h : w.ownsRow base 3 1 (.slice (some ⟨g, 0, none⟩) n n) n (ints (nats (Rk.vals m d)))) : Holds (encF m) w g 0 d.toArray := by
  intro j hj
  have hj' : j < d.length := by simpa using hj
  refine ⟨?_, by rw [Nat.zero_add]; exact h.frozenAt j⟩
  rw [Nat.zero_add, h.cellAt j (by omega)]
  simp [ints, nats, Rk.vals, encF, hj']

set_option maxHeartbeats 1000000 in
theorem stable_zero {a : Option Addr} {c g : Nat} {cb : Array Value} {w : World} :
    Calls Tryz.prog 141 #[.slice a 0 c, .int .i64 0, .func (.func g) #[] cb] w fun e w' => e = .returned (.tuple #[]) ∧ w' = w := by
  go_enter Tryz.func141, Tryz.ntmps141
  go_wp2_with fail
  go_loop [7, 8] (fun s t => s = .int .i64 0 ∧ t = .int .i64 20) (fun _ _ => 0)
  case atStart => exact ⟨rfl, rfl⟩
  case round =>
    obtain ⟨rfl, rfl⟩ := hrel
    go_wp2_with fail
    refine (show Calls Tryz.prog 147 #[.slice a 0 c, .int .i64 0, .int .i64 0, .func (.func g) #[] cb] w fun e w' => e = .returned (.tuple #[]) ∧ w' = w from ?_).mono ?_
    · go_enter Tryz.func147, Tryz.ntmps147
      go_wp2_with fail
      go_loop [8] (fun s => s = .int .i64 1) (fun _ => 0)
      case atStart => rfl
      case round =>
        subst hrel
        go_wp2_with fail
        go_end0
        exact ⟨rfl, rfl⟩
    · rintro e w1 ⟨rfl, rfl⟩
      go_wp2_with fail
      go_loop [6, 7, 8, 9] (fun s _ _ _ => s = .int .i64 20) (fun _ _ _ _ => 0)
      case atStart => rfl
      case round =>
        subst hrel
        go_wp2_with fail
        go_end0
        exact ⟨rfl, rfl⟩

set_option maxHeartbeats 1000000 in
theorem stable_any {w : World} {f m g base : Nat} {cb : Array Value} {vs : List Int} {d : List (Fin (m + 1))} (hm : m + 1 ≤ 12) (hd : d.length = m + 1) (hr : Rk.vals m d = List.range (m + 1)) (hv : vs.length = m + 1)
    (eg : ∀ args w, (callFunc f args).run Tryz.prog w = .ok (.enter f args) w) (hc : CmpBy f cb vs g w)
    (hown : w.ownsRow base 3 1 (.slice (some ⟨g, 0, none⟩) (m + 1) (m + 1)) (m + 1) (ints (nats (Rk.vals m d)))) :
    Calls Tryz.prog 141 #[.slice (some ⟨g, 0, none⟩) (m + 1 : Nat) (m + 1 : Nat), .int .i64 (m + 1 : Nat), .func (.func f) #[] cb] w fun e w' =>
      e = .returned (.tuple #[]) ∧ w'.ownsRow base 3 1 (.slice (some ⟨g, 0, none⟩) (m + 1) (m + 1)) (m + 1) (ints (nats (Rk.rank vs))) ∧ w.grownBy w' (some g) := by
  have hsort : Calls Tryz.prog 147 #[.slice (some ⟨g, 0, none⟩) (m + 1 : Nat) (m + 1 : Nat), .int .i64 (0 : Nat), .int .i64 (m + 1 : Nat), .func (.func f) #[] cb] w fun e w' =>
      e = .returned (.tuple #[]) ∧ w'.ownsRow base 3 1 (.slice (some ⟨g, 0, none⟩) (m + 1) (m + 1)) (m + 1) (ints (nats (Rk.rank vs))) ∧ w.grownBy w' (some g) := by
    have h := Tryz.insertionSortCmpFunc_one (encF m) (encF_one m) (fun x y => cmpI (Rk.val vs y.val) (Rk.val vs x.val)) f cb g 0 (m + 1) 0 (m + 1) d.toArray w eg
      (cmp_reads hv hc _) (own_holds hd hown) (Nat.zero_le _) (by simp [hd]) (by simp; omega)
    rw [show d.toArray.size = m + 1 by simpa using hd] at h
    refine h.mono ?_
    rintro e w' ⟨he, q, rfl⟩
    refine ⟨he, ?_, put_grown⟩
    obtain ⟨D, hD, hDv⟩ := Rk.sorted vs m d.toArray (by simpa using hr) hv
    rw [ltOf_eq, hD, ← hDv]
    exact put_owns q (by have := congrArg List.length hDv; rw [Rk.rank_len, hv] at this; simpa [Rk.vals] using this) hown
  have HS := hide hsort
  have h20 : ¬ (20 : Int) ≤ ((m + 1 : Nat) : Int) := by omega
  have h21 : ¬ (20 : Int) < ((m + 1 : Nat) : Int) := by omega
  clear hsort hown hc eg
  generalize m + 1 = n at HS h20 h21 ⊢
  go_enter Tryz.func141, Tryz.ntmps141
  go_wp2_with fail
  go_loop [7, 8] (fun s t => s = .int .i64 0 ∧ t = .int .i64 20) (fun _ _ => 0)
  case atStart => exact ⟨rfl, rfl⟩
  case round =>
    obtain ⟨rfl, rfl⟩ := hrel
    go_wp2_with fail
    refine HS.out.mono ?_
    rintro e w1 ⟨rfl, h1, h2⟩
    go_wp2_with fail
    go_loop [6, 7, 8, 9] (fun s _ _ _ => s = .int .i64 20) (fun _ _ _ _ => 0)
    case atStart => rfl
    case round =>
      subst hrel
      go_wp2_with fail
      go_end0
      exact ⟨rfl, h1, h2⟩
end Go.Proofs.YtlbagigghpiifabGreat
namespace Go.Proofs.YtlbagigghpiifabGreat
open Go.RowKit Go.Sort

theorem grownBy_below {w w' : World} {g k : Nat} (hg : w.grownBy w' (some g)) (h : k ≤ g) (hk : k ≤ w.heap.size) : Below k w w' :=
  ⟨hg.os, hg.tape, hg.output, hg.size, fun b hb => hg.block b (by omega) (by simp; omega)⟩
theorem owns_base {w : World} {base base' e s n : Nat} {v : Value} {xs : List Value} (h : w.ownsRow base e s v n xs) (hb : base' ≤ base) : w.ownsRow base' e s v n xs := by
  rcases h with ⟨h0, h | ⟨g, cap, cur, h1, h2, h3⟩⟩
  · exact ⟨h0, Or.inl h⟩
  · exact ⟨h0, Or.inr ⟨g, cap, cur, h1, Nat.le_trans hb h2, h3⟩⟩
theorem fill_step (ys : List Int) (k n : Nat) (hy : ys.length = n) (hk : k < n) (h : ys.take k = nats (List.range k)) : (ys.set k (k : Int)).take (k + 1) = nats (List.range (k + 1)) := by
  rw [List.take_add_one, List.take_set_of_le (Nat.le_refl _), h, List.range_succ]
  simp [nats, hy, hk]
/-- The numbers below n, as elements. -/
def fins (m : Nat) : List (Fin (m + 1)) := List.finRange (m + 1)
theorem fins_vals (m : Nat) : Rk.vals m (fins m) = List.range (m + 1) := by
  apply List.ext_getElem
  · simp [fins, Rk.vals]
  · intro j h1 h2; simp [fins, Rk.vals]
theorem fins_len (m : Nat) : (fins m).length = m + 1 := by simp [fins]

theorem sort_zero {a : Option Addr} {c g : Nat} {cb : Array Value} {w : World} :
    Calls Tryz.prog 128 #[.slice a 0 c, .func (.func g) #[] cb] w fun e w' => e = .returned (.tuple #[]) ∧ w' = w := by
  go_enter Tryz.func128, Tryz.ntmps128
  go_wp2_with fail
  refine stable_zero.mono ?_
  rintro e w1 ⟨rfl, rfl⟩
  go_wp2_with fail
  go_end0
  exact ⟨rfl, rfl⟩
theorem sort_any {w : World} {f m g base : Nat} {cb : Array Value} {vs : List Int} (hm : m + 1 ≤ 12) (hv : vs.length = m + 1)
    (eg : ∀ args w, (callFunc f args).run Tryz.prog w = .ok (.enter f args) w) (hc : CmpBy f cb vs g w)
    (hown : w.ownsRow base 3 1 (.slice (some ⟨g, 0, none⟩) (m + 1) (m + 1)) (m + 1) (ints (nats (List.range (m + 1))))) :
    Calls Tryz.prog 128 #[.slice (some ⟨g, 0, none⟩) (m + 1 : Nat) (m + 1 : Nat), .func (.func f) #[] cb] w fun e w' =>
      e = .returned (.tuple #[]) ∧ w'.ownsRow base 3 1 (.slice (some ⟨g, 0, none⟩) (m + 1) (m + 1)) (m + 1) (ints (nats (Rk.rank vs))) ∧ w.grownBy w' (some g) := by
  have HS := hide (stable_any hm (fins_len m) (fins_vals m) hv eg hc (by rw [fins_vals]; exact hown))
  clear hown hc eg
  generalize m + 1 = n at HS ⊢
  go_enter Tryz.func128, Tryz.ntmps128
  go_wp2_with fail
  refine HS.out.mono ?_
  rintro e w1 ⟨rfl, h1, h2⟩
  go_wp2_with fail
  go_end0
  exact ⟨rfl, h1, h2⟩

theorem sort_any' {w : World} {f n g base : Nat} {cb : Array Value} {vs : List Int} (hn : n ≤ 12) (hv : vs.length = n)
    (eg : ∀ args w, (callFunc f args).run Tryz.prog w = .ok (.enter f args) w) (hc : CmpBy f cb vs g w)
    (hown : w.ownsRow base 3 1 (.slice (some ⟨g, 0, none⟩) n n) n (ints (nats (List.range n)))) :
    Calls Tryz.prog 128 #[.slice (some ⟨g, 0, none⟩) n n, .func (.func f) #[] cb] w fun e w' =>
      e = .returned (.tuple #[]) ∧ w'.ownsRow base 3 1 (.slice (some ⟨g, 0, none⟩) n n) n (ints (nats (Rk.rank vs))) ∧ w.grownBy w' (some g) := by
  cases n with
  | zero =>
    refine sort_zero.mono ?_
    rintro e w1 ⟨rfl, rfl⟩
    obtain rfl := List.length_eq_zero_iff.1 hv
    exact ⟨rfl, hown, World.grownBy.refl _ _⟩
  | succ m => exact sort_any hn hv eg hc hown

set_option maxHeartbeats 2000000 in
theorem sn_any {n f : Nat} {cb : Array Value} {vs : List Int} {w : World} (hv : vs.length = n) (hn : n ≤ 12) (eg : ∀ args w, (callFunc f args).run Tryz.prog w = .ok (.enter f args) w) (hc : CmpBy f cb vs w.heap.size w) :
    Calls Tryz.prog 119 #[.int .i64 n, .func (.func f) #[] cb] w fun e w' => e = .returned (.slice (some ⟨w.heap.size, 0, none⟩) n n) ∧ Below w.heap.size w w' ∧ w'.ownsRow w.heap.size 3 1 (.slice (some ⟨w.heap.size, 0, none⟩) n n) n (ints (nats (Rk.rank vs))) := by
  have hmk := makeI_run n (by omega)
  have HV := hide hv
  have HO := hide (made_own w n (by omega))
  have HE := hide eg
  have HC := hide hc
  clear hv eg hc
  go_enter Tryz.func119, Tryz.ntmps119
  go_wp2_with fail
  go_loopw [6, 11] (fun _ s wr => ∃ (k : Nat) (ys : List Int), s = .int .i64 k ∧ k ≤ n ∧ ys.length = n ∧ Hid (ys.take k = nats (List.range k)) ∧ wr.ownsRow w.heap.size 3 1 (.slice (some ⟨w.heap.size, 0, none⟩) n n) n (ints ys) ∧ Below w.heap.size w wr) (fun _ s _ => n - (intOf s).toNat)
  case atStart => exact ⟨0, List.replicate n 0, rfl, Nat.zero_le _, by simp, hide (by simp [nats]), HO.out, (Below.refl _ _).alloc (Nat.le_refl _) _⟩
  case round =>
    obtain ⟨k, ys, rfl, hk, hy, HT, hown, hB⟩ := hrel
    by_cases hlt : k < n
    · have i0 : (0 : Int) ≤ (k : Int) := by omega
      have i1 : (k : Int) < (n : Int) := by omega
      have c0 : wr.cell? ⟨w.heap.size, k, none⟩ = some (.int .i64 (ys.getD k 0)) := by rw [hown.cellAt k (by omega), ints_get ys k (by omega)]
      have f0 := hown.frozenAt k
      obtain ⟨st1, st2⟩ := hown.stored k (.int .i64 (k : Int))
      rw [ints_set] at st1
      have HST := hide st1
      have HF := hide (fill_step ys k n hy hlt HT.out)
      clear hmk st1 hown
      go_wp2_with fail
      go_roundw
      case rel => exact ⟨k + 1, ys.set k (k : Int), by go_num, by omega, by simpa using hy, HF, HST.out, hB.setCell (Nat.le_refl _) _⟩
      case measure => simp only [intOf]; omega
    · have hke : k = n := by omega
      subst hke
      have hys : ys = nats (List.range k) := by have := HT.out; rwa [← hy, List.take_length, hy] at this
      subst hys
      have HS := hide (sort_any' hn HV.out HE.out (HC.out.below hB.size hB.block) hown)
      clear hown hmk
      go_wp2_with fail
      refine HS.out.mono ?_
      rintro e w1 ⟨rfl, h1, h2⟩
      go_wp2_with fail
      go_ret
      exact ⟨rfl, hB.trans (grownBy_below h2 (Nat.le_refl _) hB.size), h1⟩

end Go.Proofs.YtlbagigghpiifabGreat
namespace Go.Proofs.YtlbagigghpiifabGreat
open Go.RowKit Go.Sort

theorem inf3 : (Tryz.prog.info? 3).map (fun i => (i.zero, i.size, i.bytes)) = some (some (.int .i64 0), 1, 8) := by kernel_rfl
theorem int_cells (xs : List Int) : ∀ u ∈ ints xs, u.oneCell' = true := by
  intro u hu
  simp only [ints, List.mem_map] at hu
  obtain ⟨x, _, rfl⟩ := hu; rfl
theorem new_one (w : World) (x : Int) {H : Nat} (hH : w.heap.size = H) : ∀ (j : Nat) (u : Value), (ints [x])[j]? = some u → (w.alloc (.cells #[.int .i64 x] 3)).cell? ((⟨H, 0, none⟩ : Addr).add j) = some u := by
  intro j u hj
  subst hH
  match j, hj with
  | 0, hj => simp [ints] at hj; subst hj; simp [Addr.add]
theorem add_none (b o j : Nat) : (⟨b, o, none⟩ : Addr).add j = ⟨b, o + j, none⟩ := by unfold Addr.add; split <;> simp_all
/-- What stands from place o on, to be appended. -/
theorem news_at {w : World} {b o : Nat} {xs : List Int} (h : ∀ i, i < xs.length → w.cell? ⟨b, o + i, none⟩ = some (.int .i64 (xs.getD i 0))) : ∀ (j : Nat) (u : Value), (ints xs)[j]? = some u → w.cell? ((⟨b, o, none⟩ : Addr).add j) = some u := by
  intro j u hj
  have hl : j < xs.length := by
    rcases Nat.lt_or_ge j xs.length with h | h
    · exact h
    · rw [List.getElem?_eq_none (by simpa [ints] using h)] at hj; cases hj
  rw [ints_get xs j hl] at hj
  cases hj
  rw [add_none]; exact h j hl
theorem empty_row (w : World) : (w.alloc (.cells #[] 3)).ownsRow w.heap.size 3 1 (.slice (some ⟨w.heap.size, 0, none⟩) 0 0) 0 (ints []) :=
  ⟨rfl, .inr ⟨w.heap.size, 0, #[], rfl, Nat.le_refl _, heap_alloc_new w _, Nat.le_refl _, by unfold maxLen; omega, rfl, rfl⟩⟩
theorem far_block {w : World} {base e n b : Nat} {v : Value} {xs : List Value} (h : w.ownsRow base e 1 v n xs) (hb : b < base) : some b ≠ v.ownBlock := fun he => by
  have := h.lt b he.symm
  omega
theorem own_take {w : World} {b i cap base : Nat} {xs : List Int} (h : w.ownsRow base 3 1 (.slice (some ⟨b, 0, none⟩) i cap) i (ints xs)) (hx : xs.length = i) {j : Nat} (hj : j ≤ i) : ∀ t, t < (xs.take j).length → w.cell? ⟨b, 0 + t, none⟩ = some (.int .i64 ((xs.take j).getD t 0)) := by
  intro t ht
  simp at ht
  rw [Nat.zero_add, h.cellAt t (by omega), ints_get xs t (by omega)]
  simp [show t < j by omega]
theorem own_drop {w : World} {b i cap base : Nat} {xs : List Int} (h : w.ownsRow base 3 1 (.slice (some ⟨b, 0, none⟩) i cap) i (ints xs)) (hx : xs.length = i) (j : Nat) : ∀ t, t < (xs.drop j).length → w.cell? ⟨b, j + t, none⟩ = some (.int .i64 ((xs.drop j).getD t 0)) := by
  intro t ht
  simp at ht
  rw [h.cellAt (j + t) (by omega), ints_get xs (j + t) (by omega)]
  simp
theorem cells_kept {w w' : World} {b o : Nat} {xs : List Int} (hb : w'.heap[b]? = w.heap[b]?) (h : ∀ i, i < xs.length → w.cell? ⟨b, o + i, none⟩ = some (.int .i64 (xs.getD i 0))) : ∀ i, i < xs.length → w'.cell? ⟨b, o + i, none⟩ = some (.int .i64 (xs.getD i 0)) :=
  fun i hi => (World.cell?_of_block (w := w) (a := ⟨b, o + i, none⟩) hb).trans (h i hi)
end Go.Proofs.YtlbagigghpiifabGreat
namespace Go.Proofs.YtlbagigghpiifabGreat
open Go.RowKit Go.Sort

theorem nats_get (l : List Nat) (j : Nat) : (nats l).getD j 0 = ((l.getD j 0 : Nat) : Int) := by
  simp only [nats, List.getD_eq_getElem?_getD, List.getElem?_map]
  cases l[j]? <;> rfl
theorem nats_take (l : List Nat) (j : Nat) : (nats l).take j = nats (l.take j) := by simp [nats, List.map_take]
theorem nats_drop (l : List Nat) (j : Nat) : (nats l).drop j = nats (l.drop j) := by simp [nats, List.map_drop]
theorem ints_app (xs ys : List Int) : ints (xs ++ ys) = ints xs ++ ints ys := by simp [ints]
theorem nats_ins (l : List Nat) (j k : Nat) : nats (l.take j ++ k :: l.drop j) = (nats l).take j ++ [(k : Int)] ++ (nats l).drop j := by simp [nats, List.map_take, List.map_drop]

set_option maxHeartbeats 4000000 in
set_option maxRecDepth 100000 in
theorem srank_any {a : Option Addr} {n c : Nat} {vs : List Int} {w : World} (hv : vs.length = n) (hn : n ≤ 12) (ha : ARow w a vs) :
    Calls Tryz.prog 87 #[.slice a n c] w fun e w' => ∃ v, e = .returned v ∧ Below w.heap.size w w' ∧ w'.ownsRow w.heap.size 3 1 v n (ints (nats (Rk.rank vs))) := by
  obtain ⟨i0, hi, hz0, hz1, hz2⟩ := info_parts inf3
  have HA := hide ha
  have HV := hide hv
  clear ha hv
  go_enter Tryz.func87, Tryz.ntmps87
  go_wp2_with fail
  go_loopw [3, 4, 5, 6, 7, 10] (fun v _ _ _ _ s wr => ∃ (k : Nat), s = .int .i64 k ∧ k ≤ n ∧ (k = 0 → v = .slice none 0 0) ∧ wr.ownsRow w.heap.size 3 1 v k (ints (nats (Rk.upto vs k))) ∧ Below w.heap.size w wr) (fun _ _ _ _ _ s _ => n - (intOf s).toNat)
  case atStart => exact ⟨0, rfl, Nat.zero_le _, fun _ => rfl, World.ownsRow_nil w w.heap.size 3 1, Below.refl _ _⟩
  case round =>
    obtain ⟨k, rfl, hk, hnil, hown, hB⟩ := hrel
    by_cases hlt : k < n
    · have HAr := hide (HA.out.keep hB.size hB.block)
      obtain ⟨ba, oa, rfl, r1⟩ := HAr.out.at (i := k) (by rw [HV.out]; exact hlt)
      have k0 : (0 : Int) ≤ (k : Int) := by omega
      have k1 : (k : Int) < (n : Int) := by omega
      have hs := hB.size
      by_cases hk0 : k = 0
      · subst hk0
        obtain rfl := hnil rfl
        have E0 := empty_row wr
        rw [Nat.add_zero] at r1
        generalize vs.getD 0 0 = x at r1
        go_wp2_with fail
        go_loop [6] (fun s => s = .int .i64 0) (fun _ => 0)
        case atStart => rfl
        case round =>
          subst hrel
          go_wp2_with (first
            | (at_builtin; refine wpList_append_own _ rfl _ _ 26 rfl wr.heap.size 3 i0 (.int .i64 0) 1 8 Tryz.underlying26 hi hz0 hz1 hz2 rfl (by decide) _ _ _ rfl (E0.alloc _) ⟨wr.heap.size + 1, 0, none⟩ 1 1 (ints [0]) rfl rfl (new_one _ _ (by simp)) (int_cells _) (by unfold maxLen; omega) (by omega) (by simp; omega) ?_))
          intro v2 w2 own2 hg2 _
          have own2' : w2.ownsRow wr.heap.size 3 1 v2 1 (ints [0]) := own2
          go_wp2_with (first
            | (at_builtin; refine wpList_append_own_none rfl _ _ 26 rfl wr.heap.size 3 i0 1 Tryz.underlying26 hi _ _ _ rfl own2' rfl ?_))
          go_wp2_with fail
          go_roundw
          case rel => exact ⟨1, by go_num, by omega, fun h => by omega, owns_base own2' hs, (hB.alloc hs _).trans (((Below.refl _ _).alloc (by simp; omega) _).trans (grownBy_below hg2 hs (by simp; omega)))⟩
          case measure => simp only [intOf]; omega
      · obtain ⟨g, cap, rfl, hg0, hgl⟩ := hown.form (by omega)
        have E0 := hide (empty_row wr)
        have HO := hide hown
        have hul := Rk.upto_len vs k
        have hcap : k ≤ cap := by
          rcases hown.2 with ⟨h0, _⟩ | ⟨g', cap', cur, hv', _, _, h1, _⟩
          · cases h0
          · cases hv'; exact h1
        generalize hx : vs.getD k 0 = x at r1
        have HX := hide hx
        clear hown hx hnil
        go_wp2_with fail
        go_loop [6] (fun s => ∃ j : Nat, s = .int .i64 j ∧ j ≤ k ∧ Hid (∀ t, t < j → Rk.val vs ((Rk.upto vs k).getD t 0) ≥ Rk.val vs k)) (fun s => k - (intOf s).toNat)
        case atStart => exact ⟨0, rfl, Nat.zero_le _, hide fun t ht => absurd ht (Nat.not_lt_zero _)⟩
        case round =>
          obtain ⟨j, rfl, hj, HJ⟩ := hrel
          -- behind the search
          have rest : (j < k → Rk.val vs ((Rk.upto vs k).getD j 0) < Rk.val vs k) → Hid (nats (Rk.upto vs (k + 1)) = (nats (Rk.upto vs k)).take j ++ [(k : Int)] ++ (nats (Rk.upto vs k)).drop j) := fun h => by
            show nats (Rk.insL vs k (Rk.upto vs k)) = _
            rw [Rk.insL_at vs k (Rk.upto vs k) j (by rw [hul]; exact hj) HJ.out (fun h' => h (by rw [← hul]; exact h')), nats_ins]
          have REST := hide rest
          clear rest
          by_cases hjk : j < k
          · have j0 : (0 : Int) ≤ (j : Int) := by omega
            have j1 : (j : Int) < (k : Int) := by omega
            have c1 : wr.cell? ⟨g, j, none⟩ = some (.int .i64 ((nats (Rk.upto vs k)).getD j 0)) := by rw [HO.out.cellAt j (by omega), ints_get _ j (by rw [nats_len, hul]; omega)]
            rw [nats_get] at c1
            have hm : (Rk.upto vs k).getD j 0 < n := by
              have hmem : (Rk.upto vs k).getD j 0 ∈ Rk.upto vs k := by rw [Pf.getD_lt _ _ (by rw [hul]; exact hjk)]; exact List.getElem_mem _
              have := Rk.upto_mem hmem; omega
            generalize hq : (Rk.upto vs k).getD j 0 = q at c1 hm
            obtain ⟨ba', oa', hba, r2⟩ := HAr.out.at (i := q) (by rw [HV.out]; exact hm)
            cases hba
            have q0 : (0 : Int) ≤ (q : Int) := by omega
            have q1 : (q : Int) < (n : Int) := by omega
            by_cases hge : x ≤ Rk.val vs q
            · have r2' : wr.cell? ⟨ba, oa + q, none⟩ = some (.int .i64 (Rk.val vs q)) := r2
              have HJ' : Hid (∀ t, t < j + 1 → Rk.val vs ((Rk.upto vs k).getD t 0) ≥ Rk.val vs k) := hide fun t ht => by
                by_cases e : t = j
                · subst e; rw [hq]; show _ ≥ vs.getD k 0; rw [HX.out]; exact hge
                · exact HJ.out t (by omega)
              generalize Rk.val vs q = y at r2' hge
              clear hq r2
              go_wp2_with fail
              go_round
              case rel => exact ⟨j + 1, by go_num, by omega, HJ'⟩
              case measure => simp only [intOf]; omega
            · have r2' : wr.cell? ⟨ba, oa + q, none⟩ = some (.int .i64 (Rk.val vs q)) := r2
              have HR := REST.out (fun _ => by rw [hq]; show _ < vs.getD k 0; rw [HX.out]; omega)
              generalize Rk.val vs q = y at r2' hge
              have hge' : decide (x ≤ y) = false := decide_eq_false hge
              clear hq r2
              have HL : Hid ((ints ((nats (Rk.upto vs k)).take j)).length = j * 1) := by
                show _ = _
                rw [ints_len, List.length_take, nats_len, hul]; omega
              have HN1 : Hid (∀ (t : Nat) (u : Value), (ints ((nats (Rk.upto vs k)).take j))[t]? = some u → (wr.alloc (.cells #[] 3)).cell? ((⟨g, 0, none⟩ : Addr).add t) = some u) :=
                news_at (cells_kept (((Below.refl _ _).alloc (Nat.le_refl _) _).block g hgl) (own_take HO.out (by rw [nats_len, hul]) hj))
              go_wp2_with (first
                | (at_builtin; refine wpList_append_own _ rfl _ _ 26 rfl wr.heap.size 3 i0 (.int .i64 0) 1 8 Tryz.underlying26 hi hz0 hz1 hz2 rfl (by decide) _ _ _ rfl E0.out ⟨g, 0, none⟩ j cap (ints ((nats (Rk.upto vs k)).take j)) rfl HL.out HN1.out (int_cells _) (by unfold maxLen; omega) (by omega) (by simp) ?_))
              intro v1 w1 own1 hg1 _
              have own1' : w1.ownsRow wr.heap.size 3 1 v1 j (ints ((nats (Rk.upto vs k)).take j)) := by simpa [ints] using own1
              have hs1 : wr.heap.size ≤ w1.heap.size := Nat.le_trans (by simp) hg1.size
              have hgk1 := hg1.block g (by simp; omega) (far_block E0.out hgl)
              clear own1
              go_wp2_with (first
                | (at_builtin; refine wpList_append_own _ rfl _ _ 26 rfl wr.heap.size 3 i0 (.int .i64 0) 1 8 Tryz.underlying26 hi hz0 hz1 hz2 rfl (by decide) _ _ _ rfl (own1'.alloc _) ⟨w1.heap.size, 0, none⟩ 1 1 (ints [(k : Int)]) rfl rfl (new_one _ _ rfl) (int_cells _) (by unfold maxLen; omega) (by omega) (by simp; omega) ?_))
              intro v2 w2 own2 hg2 _
              have own2' : w2.ownsRow wr.heap.size 3 1 v2 (j + 1) (ints ((nats (Rk.upto vs k)).take j ++ [(k : Int)])) := by rw [ints_app]; exact own2
              have hs2 : wr.heap.size ≤ w2.heap.size := Nat.le_trans hs1 (Nat.le_trans (by simp) hg2.size)
              have hgk2 := (hg2.block g (by simp; omega) (far_block own1' hgl)).trans (((Below.refl _ _).alloc (Nat.le_refl _) _).block g (by omega))
              have HN2 : Hid (∀ (t : Nat) (u : Value), (ints ((nats (Rk.upto vs k)).drop j))[t]? = some u → w2.cell? ((⟨g, j, none⟩ : Addr).add t) = some u) :=
                news_at (cells_kept (hgk2.trans (hgk1.trans (((Below.refl _ _).alloc (Nat.le_refl _) _).block g hgl))) (own_drop HO.out (by rw [nats_len, hul]) j))
              have HL2 : Hid ((ints ((nats (Rk.upto vs k)).drop j)).length = (k - j) * 1) := by
                show _ = _
                rw [ints_len, List.length_drop, nats_len, hul]; omega
              have HB2 : Hid (Below w.heap.size w w2) := hide ((hB.alloc hs _).trans ((grownBy_below hg1 hs (by simp; omega)).trans (((Below.refl _ _).alloc (by omega) _).trans (by
                refine ⟨hg2.os, hg2.tape, hg2.output, hg2.size, fun b hb => hg2.block b (by simp; omega) (far_block own1' (by omega))⟩))))
              clear own2 hgk2 hgk1 hg1 hg2 own1'
              go_wp2_with (first
                | (at_builtin; refine wpList_append_own _ rfl _ _ 26 rfl wr.heap.size 3 i0 (.int .i64 0) 1 8 Tryz.underlying26 hi hz0 hz1 hz2 rfl (by decide) _ _ _ rfl own2' ⟨g, j, none⟩ (k - j) (cap - j) (ints ((nats (Rk.upto vs k)).drop j)) rfl HL2.out HN2.out (int_cells _) (by unfold maxLen; omega) (by omega) hs2 ?_))
              intro v3 w3 own3 hg3 _
              have own3' : w3.ownsRow wr.heap.size 3 1 v3 (k + 1) (ints (nats (Rk.upto vs (k + 1)))) := by
                rw [HR.out, ints_app]
                have e : j + 1 + (k - j) = k + 1 := by omega
                rw [e] at own3
                exact own3
              clear own3
              go_wp2_with fail
              go_roundw
              case rel => exact ⟨k + 1, by go_num, by omega, fun h => by omega, owns_base own3' hs, HB2.out.trans ⟨hg3.os, hg3.tape, hg3.output, hg3.size, fun b hb => hg3.block b (by omega) (far_block own2' (by omega))⟩⟩
              case measure => simp only [intOf]; omega
          · have HR := REST.out (fun h => by omega)
            have hjz : ¬ (j : Int) < (k : Int) := by omega
            have hjz' : decide ((j : Int) < (k : Int)) = false := decide_eq_false hjz
            by_cases hcj : cap = j
            · obtain rfl := hcj.symm
              have HL : Hid ((ints ((nats (Rk.upto vs k)).take j)).length = j * 1) := by
                show _ = _
                rw [ints_len, List.length_take, nats_len, hul]; omega
              have HN1 : Hid (∀ (t : Nat) (u : Value), (ints ((nats (Rk.upto vs k)).take j))[t]? = some u → (wr.alloc (.cells #[] 3)).cell? ((⟨g, 0, none⟩ : Addr).add t) = some u) :=
                news_at (cells_kept (((Below.refl _ _).alloc (Nat.le_refl _) _).block g hgl) (own_take HO.out (by rw [nats_len, hul]) hj))
              go_wp2_with (first
                | (at_builtin; refine wpList_append_own _ rfl _ _ 26 rfl wr.heap.size 3 i0 (.int .i64 0) 1 8 Tryz.underlying26 hi hz0 hz1 hz2 rfl (by decide) _ _ _ rfl E0.out ⟨g, 0, none⟩ j j (ints ((nats (Rk.upto vs k)).take j)) rfl HL.out HN1.out (int_cells _) (by unfold maxLen; omega) (by omega) (by simp) ?_))
              intro v1 w1 own1 hg1 _
              have own1' : w1.ownsRow wr.heap.size 3 1 v1 j (ints ((nats (Rk.upto vs k)).take j)) := by simpa [ints] using own1
              have hs1 : wr.heap.size ≤ w1.heap.size := Nat.le_trans (by simp) hg1.size
              clear own1
              go_wp2_with (first
                | (at_builtin; refine wpList_append_own _ rfl _ _ 26 rfl wr.heap.size 3 i0 (.int .i64 0) 1 8 Tryz.underlying26 hi hz0 hz1 hz2 rfl (by decide) _ _ _ rfl (own1'.alloc _) ⟨w1.heap.size, 0, none⟩ 1 1 (ints [(k : Int)]) rfl rfl (new_one _ _ rfl) (int_cells _) (by unfold maxLen; omega) (by omega) (by simp; omega) ?_))
              intro v2 w2 own2 hg2 _
              have own2' : w2.ownsRow wr.heap.size 3 1 v2 (j + 1) (ints ((nats (Rk.upto vs k)).take j ++ [(k : Int)])) := by rw [ints_app]; exact own2
              have hs2 : wr.heap.size ≤ w2.heap.size := Nat.le_trans hs1 (Nat.le_trans (by simp) hg2.size)
              have HN2 : Hid (∀ (t : Nat) (u : Value), (ints ((nats (Rk.upto vs k)).drop j))[t]? = some u → w2.cell? ((⟨g, 0, none⟩ : Addr).add t) = some u) := by
                rw [List.drop_eq_nil_of_le (by rw [nats_len, hul]; omega)]; exact fun t u h => by simp [ints] at h
              have HL2 : Hid ((ints ((nats (Rk.upto vs k)).drop j)).length = 0 * 1) := by
                show _ = _
                rw [ints_len, List.length_drop, nats_len, hul]; omega
              have HB2 : Hid (Below w.heap.size w w2) := hide ((hB.alloc hs _).trans ((grownBy_below hg1 hs (by simp; omega)).trans (((Below.refl _ _).alloc (by omega) _).trans (by
                refine ⟨hg2.os, hg2.tape, hg2.output, hg2.size, fun b hb => hg2.block b (by simp; omega) (far_block own1' (by omega))⟩))))
              clear own2 hg1 hg2 own1'
              go_wp2_with (first
                | (at_builtin; refine wpList_append_own _ rfl _ _ 26 rfl wr.heap.size 3 i0 (.int .i64 0) 1 8 Tryz.underlying26 hi hz0 hz1 hz2 rfl (by decide) _ _ _ rfl own2' ⟨g, 0, none⟩ 0 0 (ints ((nats (Rk.upto vs k)).drop j)) rfl HL2.out HN2.out (int_cells _) (by unfold maxLen; omega) (by omega) hs2 ?_))
              intro v3 w3 own3 hg3 _
              have own3' : w3.ownsRow wr.heap.size 3 1 v3 (k + 1) (ints (nats (Rk.upto vs (k + 1)))) := by
                rw [HR.out, ints_app]
                have e : j + 1 + 0 = k + 1 := by omega
                rw [e] at own3
                exact own3
              clear own3
              go_wp2_with fail
              go_roundw
              case rel => exact ⟨k + 1, by go_num, by omega, fun h => by omega, owns_base own3' hs, HB2.out.trans ⟨hg3.os, hg3.tape, hg3.output, hg3.size, fun b hb => hg3.block b (by omega) (far_block own2' (by omega))⟩⟩
              case measure => simp only [intOf]; omega
            · have hcl : j < cap := by omega
              have HL : Hid ((ints ((nats (Rk.upto vs k)).take j)).length = j * 1) := by
                show _ = _
                rw [ints_len, List.length_take, nats_len, hul]; omega
              have HN1 : Hid (∀ (t : Nat) (u : Value), (ints ((nats (Rk.upto vs k)).take j))[t]? = some u → (wr.alloc (.cells #[] 3)).cell? ((⟨g, 0, none⟩ : Addr).add t) = some u) :=
                news_at (cells_kept (((Below.refl _ _).alloc (Nat.le_refl _) _).block g hgl) (own_take HO.out (by rw [nats_len, hul]) hj))
              go_wp2_with (first
                | (at_builtin; refine wpList_append_own _ rfl _ _ 26 rfl wr.heap.size 3 i0 (.int .i64 0) 1 8 Tryz.underlying26 hi hz0 hz1 hz2 rfl (by decide) _ _ _ rfl E0.out ⟨g, 0, none⟩ j cap (ints ((nats (Rk.upto vs k)).take j)) rfl HL.out HN1.out (int_cells _) (by unfold maxLen; omega) (by omega) (by simp) ?_))
              intro v1 w1 own1 hg1 _
              have own1' : w1.ownsRow wr.heap.size 3 1 v1 j (ints ((nats (Rk.upto vs k)).take j)) := by simpa [ints] using own1
              have hs1 : wr.heap.size ≤ w1.heap.size := Nat.le_trans (by simp) hg1.size
              have hgk1 := hg1.block g (by simp; omega) (far_block E0.out hgl)
              clear own1
              go_wp2_with (first
                | (at_builtin; refine wpList_append_own _ rfl _ _ 26 rfl wr.heap.size 3 i0 (.int .i64 0) 1 8 Tryz.underlying26 hi hz0 hz1 hz2 rfl (by decide) _ _ _ rfl (own1'.alloc _) ⟨w1.heap.size, 0, none⟩ 1 1 (ints [(k : Int)]) rfl rfl (new_one _ _ rfl) (int_cells _) (by unfold maxLen; omega) (by omega) (by simp; omega) ?_))
              intro v2 w2 own2 hg2 _
              have own2' : w2.ownsRow wr.heap.size 3 1 v2 (j + 1) (ints ((nats (Rk.upto vs k)).take j ++ [(k : Int)])) := by rw [ints_app]; exact own2
              have hs2 : wr.heap.size ≤ w2.heap.size := Nat.le_trans hs1 (Nat.le_trans (by simp) hg2.size)
              have hgk2 := (hg2.block g (by simp; omega) (far_block own1' hgl)).trans (((Below.refl _ _).alloc (Nat.le_refl _) _).block g (by omega))
              have HN2 : Hid (∀ (t : Nat) (u : Value), (ints ((nats (Rk.upto vs k)).drop j))[t]? = some u → w2.cell? ((⟨g, j, none⟩ : Addr).add t) = some u) :=
                news_at (cells_kept (hgk2.trans (hgk1.trans (((Below.refl _ _).alloc (Nat.le_refl _) _).block g hgl))) (own_drop HO.out (by rw [nats_len, hul]) j))
              have HL2 : Hid ((ints ((nats (Rk.upto vs k)).drop j)).length = (k - j) * 1) := by
                show _ = _
                rw [ints_len, List.length_drop, nats_len, hul]; omega
              have HB2 : Hid (Below w.heap.size w w2) := hide ((hB.alloc hs _).trans ((grownBy_below hg1 hs (by simp; omega)).trans (((Below.refl _ _).alloc (by omega) _).trans (by
                refine ⟨hg2.os, hg2.tape, hg2.output, hg2.size, fun b hb => hg2.block b (by simp; omega) (far_block own1' (by omega))⟩))))
              clear own2 hgk2 hgk1 hg1 hg2 own1'
              go_wp2_with (first
                | (at_builtin; refine wpList_append_own _ rfl _ _ 26 rfl wr.heap.size 3 i0 (.int .i64 0) 1 8 Tryz.underlying26 hi hz0 hz1 hz2 rfl (by decide) _ _ _ rfl own2' ⟨g, j, none⟩ (k - j) (cap - j) (ints ((nats (Rk.upto vs k)).drop j)) rfl HL2.out HN2.out (int_cells _) (by unfold maxLen; omega) (by omega) hs2 ?_))
              intro v3 w3 own3 hg3 _
              have own3' : w3.ownsRow wr.heap.size 3 1 v3 (k + 1) (ints (nats (Rk.upto vs (k + 1)))) := by
                rw [HR.out, ints_app]
                have e : j + 1 + (k - j) = k + 1 := by omega
                rw [e] at own3
                exact own3
              clear own3
              go_wp2_with fail
              go_roundw
              case rel => exact ⟨k + 1, by go_num, by omega, fun h => by omega, owns_base own3' hs, HB2.out.trans ⟨hg3.os, hg3.tape, hg3.output, hg3.size, fun b hb => hg3.block b (by omega) (far_block own2' (by omega))⟩⟩
              case measure => simp only [intOf]; omega
    · have hke : k = n := by omega
      subst hke
      have hrk : Rk.upto vs k = Rk.rank vs := by unfold Rk.rank; rw [HV.out]
      rw [hrk] at hown
      go_wp2_with fail
      go_ret
      exact ⟨_, rfl, hB, hown⟩
end Go.Proofs.YtlbagigghpiifabGreat
namespace Go.Proofs.YtlbagigghpiifabGreat
open Go.RowKit Go.Sort

theorem rk_nth_lt {vs : List Int} {k : Nat} (hk : k < vs.length) : (Rk.rank vs).getD k 0 < vs.length := by
  have hl : k < (Rk.rank vs).length := by rw [Rk.rank_len]; exact hk
  rw [Pf.getD_lt _ 0 hl]
  exact Rk.rank_mem (List.getElem_mem hl)
/-- Goods put at places, one by one. -/
def putTo (gs ps : List Nat) (n : Nat) : Nat → List Int
  | 0 => List.replicate n 0
  | k + 1 => (putTo gs ps n k).set (ps.getD k 0) ((gs.getD k 0 : Nat) : Int)
theorem putTo_len (gs ps : List Nat) (n : Nat) : ∀ k, (putTo gs ps n k).length = n
  | 0 => by simp [putTo]
  | k + 1 => by simp [putTo, putTo_len gs ps n k]
theorem ints_app7 (xs ys : List Int) : ints (xs ++ ys) = ints xs ++ ints ys := by simp [ints]
def negs (ws : List Int) : List Int := ws.map fun x => -x
theorem negs_len (ws : List Int) : (negs ws).length = ws.length := by simp [negs]
theorem negs_val (ws : List Int) (i : Nat) : Rk.val (negs ws) i = - ws.getD i 0 := by
  simp only [Rk.val, negs, List.getD_eq_getElem?_getD, List.getElem?_map]
  cases ws[i]? <;> simp
/-- The order with the most used at the nearest. -/
def ofL (us ws : List Int) : List Int := putTo (Rk.rank us) (Rk.rank (negs ws)) us.length us.length
theorem ofL_len (us ws : List Int) : (ofL us ws).length = us.length := putTo_len _ _ _ _
theorem cmp_negs (ws : List Int) (i j : Nat) : cmpI (ws.getD i 0) (ws.getD j 0) = cmpI (Rk.val (negs ws) j) (Rk.val (negs ws) i) := by
  rw [negs_val, negs_val]; unfold cmpI
  simp only [Int.neg_lt_neg_iff]
theorem own_at7 {w : World} {base n g cap : Nat} {xs : List Value} (h : w.ownsRow base 3 1 (.slice (some ⟨g, 0, none⟩) n cap) n xs) : base ≤ g ∧ g < w.heap.size := by
  rcases h.2 with ⟨h0, _⟩ | ⟨g', cap', cur, hv, h2, h3, _⟩
  · cases h0
  · cases hv; exact ⟨h2, (Array.getElem?_eq_some_iff.1 h3).1⟩
theorem own_any7 {w : World} {base n : Nat} {v : Value} {xs : List Int} (hx : xs.length = n) (h : w.ownsRow base 3 1 v n (ints xs)) : ∃ a cap, v = .slice a n cap ∧ ARow w a xs := by
  rcases h.2 with ⟨rfl, hn⟩ | ⟨g, cap, cur, rfl, _⟩
  · subst hn; exact ⟨none, 0, rfl, Or.inl (List.length_eq_zero_iff.1 hx)⟩
  · exact ⟨_, _, rfl, arow_owns hx.symm h⟩
/-- A list that a call made, in a block of its own. -/
def Ow (w : World) (g n : Nat) (xs : List Int) : Prop := g < w.heap.size ∧ ∃ base, base ≤ g ∧ w.ownsRow base 3 1 (.slice (some ⟨g, 0, none⟩) n n) n (ints xs)
theorem Ow.below {w w' : World} {g n : Nat} {xs : List Int} (h : Ow w g n xs) (hb : Below w.heap.size w w') : Ow w' g n xs := by
  obtain ⟨h1, base, h2, h3⟩ := h
  exact ⟨Nat.lt_of_lt_of_le h1 hb.size, base, h2, owns_keep h3 (hb.block g h1)⟩
theorem Ow.grown {w w' : World} {g n q : Nat} {xs : List Int} (h : Ow w g n xs) (hg : w.grownBy w' (some q)) (hne : g ≠ q) : Ow w' g n xs := by
  obtain ⟨h1, base, h2, h3⟩ := h
  exact ⟨Nat.lt_of_lt_of_le h1 hg.size, base, h2, owns_keep h3 (hg.block g h1 (by simpa using hne))⟩
theorem Ow.row {w : World} {g n : Nat} {xs : List Int} (h : Ow w g n xs) (hx : xs.length = n) : ARow w (some ⟨g, 0, none⟩) xs := by
  obtain ⟨_, base, _, h3⟩ := h
  exact arow_owns hx.symm h3
theorem Ow.mk' {w : World} {base g n : Nat} {xs : List Int} (h : w.ownsRow base 3 1 (.slice (some ⟨g, 0, none⟩) n n) n (ints xs)) : Ow w g n xs ∧ base ≤ g := by
  obtain ⟨h1, h2⟩ := own_at7 h
  exact ⟨⟨h2, base, h1, h⟩, h1⟩
set_option maxHeartbeats 1000000 in
theorem near_any {W : World} {B b off c n i j : Nat} {x y : Int} (hi : i < n) (hj : j < n) (hB : W.cell? ⟨B, 0, none⟩ = some (.slice (some ⟨b, off, none⟩) n c))
    (hx : W.cell? ⟨b, off + i, none⟩ = some (.int .i64 x)) (hy : W.cell? ⟨b, off + j, none⟩ = some (.int .i64 y)) :
    Calls Tryz.prog 120 #[.int .i64 i, .int .i64 j, .pointer (some ⟨B, 0, none⟩)] W fun e w' => e = .returned (.int .i64 (cmpI x y)) ∧ ∃ q, w' = W.drewN q := by
  have i0 : (0 : Int) ≤ (i : Int) := by omega
  have i1 : (i : Int) < (n : Int) := by omega
  have j0 : (0 : Int) ≤ (j : Int) := by omega
  have j1 : (j : Int) < (n : Int) := by omega
  clear hi hj
  go_enter Tryz.func120, Tryz.ntmps120
  go_wp2_with fail
  go_quiet ((go_at_call 121; exact Calls.quiet_of_same (compare_any _ _ _)))
  go_wp2_with fail
  go_ret
  exact ⟨rfl, _, rfl⟩
theorem near_cmp {a : Option Addr} {n c : Nat} {ws : List Int} {w : World} (hv : ws.length = n) (ha : ARow w a ws) :
    CmpBy 120 #[.pointer (some ⟨w.heap.size, 0, none⟩)] (negs ws) (w.heap.size + 1) (w.alloc (.cells #[.slice a n c] 26)) := by
  intro W hW i j hi hj
  rw [negs_len] at hi hj
  obtain ⟨b, off, rfl, hb, hc⟩ : ∃ b off, a = some ⟨b, off, none⟩ ∧ b < w.heap.size ∧ ∀ i, i < ws.length → w.cell? ⟨b, off + i, none⟩ = some (.int .i64 (ws.getD i 0)) := by
    rcases ha with h | h
    · rw [h] at hi; simp at hi
    · exact h
  have hB : W.cell? ⟨w.heap.size, 0, none⟩ = some (.slice (some ⟨b, off, none⟩) n c) := (hW _ _ (by simp) (by omega)).trans (by simp)
  have hx : ∀ k, k < ws.length → W.cell? ⟨b, off + k, none⟩ = some (.int .i64 (ws.getD k 0)) := fun k hk =>
    (hW _ _ (by simp; omega) (by omega)).trans ((((Below.refl w.heap.size w).alloc (Nat.le_refl _) _).cell (p := ⟨b, off + k, none⟩) hb).trans (hc k hk))
  rw [← cmp_negs]
  exact near_any (by omega) (by omega) hB (hx i hi) (hx j hj)
set_option maxHeartbeats 2000000 in
/-- The slots from the nearest one on. -/
theorem nf_any {a : Option Addr} {n c : Nat} {ws : List Int} {w : World} (hv : ws.length = n) (hn : n ≤ 12) (ha : ARow w a ws) :
    Calls Tryz.prog 108 #[.slice a n c] w fun e w' => e = .returned (.slice (some ⟨w.heap.size + 1, 0, none⟩) n n) ∧ Below w.heap.size w w' ∧ w'.ownsRow w.heap.size 3 1 (.slice (some ⟨w.heap.size + 1, 0, none⟩) n n) n (ints (nats (Rk.rank (negs ws)))) := by
  have HS := hide (sn_any (w := w.alloc (.cells #[.slice a n c] 26)) (cb := #[.pointer (some ⟨w.heap.size, 0, none⟩)]) (vs := negs ws) (by rw [negs_len]; exact hv) hn (enters_of Tryz.func120 (by kernel_rfl) rfl) (by simpa using near_cmp (c := c) hv ha))
  have hB := (Below.refl w.heap.size w).alloc (Nat.le_refl _) (.cells #[.slice a n c] 26)
  have hsz : (w.alloc (.cells #[.slice a n c] 26)).heap.size = w.heap.size + 1 := by simp
  rw [hsz] at HS
  have HB := hide hB
  have HZ := hide hsz
  clear hv ha hB hsz
  go_enter Tryz.func108, Tryz.ntmps108
  go_wp2_with fail
  refine HS.out.mono ?_
  rintro e w1 ⟨rfl, hb1, own1⟩
  go_wp2_with fail
  go_ret
  exact ⟨rfl, HB.out.trans (hb1.mono (by omega)), owns_base own1 (by omega)⟩
theorem negs_step (ws : List Int) {k : Nat} (h : k < ws.length) : ints ((negs ws).take (k + 1)) = ints ((negs ws).take k) ++ [.int .i64 (- ws.getD k 0)] := by
  rw [List.take_add_one, ints_app7]
  congr 1
  simp [negs, h, ints]
end Go.Proofs.YtlbagigghpiifabGreat
