/-
  Bounds of roots, parts of one number; what RootBounds, sumOfRoots and squareOver answer of them.
-/
import Derived.Test.YtmhednkbpniphaaUs
import Derived.Test.YtmhednkbpniphaaUc
import Derived.Test.YtmhednkbpniphaaXb
namespace Go.Proofs.Ytmhednkbpniphaa.Fd

/-- The root of x in parts of f, down and up. -/
def lo (f : Nat) (x : Int) : Nat := (Rt.rt (x * f * f)).toNat
def hi (f : Nat) (x : Int) : Nat := if (Rt.rt (x * f * f) * Rt.rt (x * f * f) == x * f * f) = true then lo f x else lo f x + 1
theorem xff_bd {f : Nat} {x : Int} (x0 : 1 ≤ x) (x1 : x ≤ 30) (f0 : 0 < f) (f1 : f ≤ 100) : 1 ≤ x * f * f ∧ x * f * f ≤ 300000 := by
  have a1 : x * f ≤ 30 * 100 := Int.mul_le_mul x1 (by omega) (by omega) (by omega)
  have a0 : 1 * 1 ≤ x * f := Int.mul_le_mul x0 (by omega) (by omega) (by omega)
  have b1 : x * f * f ≤ 3000 * 100 := Int.mul_le_mul (by omega) (by omega) (by omega) (by omega)
  have b0 : 1 * 1 ≤ x * f * f := Int.mul_le_mul (by omega) (by omega) (by omega) (by omega)
  omega
theorem lo_facts {f : Nat} {x : Int} (x0 : 1 ≤ x) (x1 : x ≤ 30) (f0 : 0 < f) (f1 : f ≤ 100) : (lo f x : Int) = Rt.rt (x * f * f) ∧ lo f x ≤ 999 := by
  obtain ⟨h0, h1⟩ := xff_bd x0 x1 f0 f1
  obtain ⟨r0, r1, r2⟩ := Rt.rt_spec (x * f * f) (by omega)
  unfold lo
  refine ⟨by omega, ?_⟩
  generalize Rt.rt (x * f * f) = r at *
  by_cases h : r ≤ 999
  · omega
  · have := Int.mul_le_mul (show 1000 ≤ r by omega) (show 1000 ≤ r by omega) (by omega) (by omega)
    omega
theorem lo_hi (f : Nat) (x : Int) : lo f x ≤ hi f x ∧ hi f x ≤ lo f x + 1 := by unfold hi; split <;> omega
def los (f : Nat) (fs : List Int) : List Nat := fs.map (lo f)
def his (f : Nat) (fs : List Int) : List Nat := fs.map (hi f)
theorem los_len (f : Nat) (fs : List Int) : (los f fs).length = fs.length := by simp [los]
theorem his_len (f : Nat) (fs : List Int) : (his f fs).length = fs.length := by simp [his]
theorem los_at (f : Nat) (fs : List Int) {i : Nat} (hi : i < fs.length) : (los f fs).getD i 0 = lo f (fs.getD i 0) := by simp [los, hi]
theorem his_at (f : Nat) (fs : List Int) {i : Nat} (h : i < fs.length) : (his f fs).getD i 0 = hi f (fs.getD i 0) := by simp [his, h]
theorem his_le {f : Nat} {fs : List Int} (hf : Sh.flowB fs = true) (f0 : 0 < f) (f1 : f ≤ 100) : ∀ k, k < fs.length → (his f fs).getD k 0 ≤ 1000 := fun k hk => by
  rw [his_at f fs hk]
  obtain ⟨x0, x1⟩ := Sh.flowB_at hf hk
  have := (lo_facts x0 x1 f0 f1).2
  have := lo_hi f (fs.getD k 0)
  omega
theorem los_his {f : Nat} {fs : List Int} : ∀ k, k < fs.length → (los f fs).getD k 0 ≤ (his f fs).getD k 0 := fun k hk => by
  rw [his_at f fs hk, los_at f fs hk]
  exact (lo_hi f _).1
/-- A fraction squared over a room. -/
def sq (p : Int × Int) (r : Int) : Int × Int := Sh.mk (p.1 * p.1) (p.2 * p.2 * r)
def leastP (fs : List Int) (f : Nat) : Int × Int := Sh.mk ((los f fs).sum : Int) f
def leastQ (fs : List Int) (f : Nat) : Int × Int := Sh.mk ((his f fs).sum : Int) f
theorem part_facts {m f : Nat} (f0 : 0 < f) (f1 : f ≤ 100) (hm : m ≤ 8000) : 0 ≤ (Sh.mk (m : Int) f).1 ∧ (Sh.mk (m : Int) f).1 ≤ 8000 ∧ 1 ≤ (Sh.mk (m : Int) f).2 ∧ (Sh.mk (m : Int) f).2 ≤ 100 ∧ (Sh.mk (m : Int) f).1 * f = m * (Sh.mk (m : Int) f).2 := by
  obtain ⟨a, b, e, h1, h2, h3, h4, _⟩ := Lg.mk_nat (m := m) f0
  rw [e]
  exact ⟨by dsimp only; omega, by dsimp only; omega, by dsimp only; omega, by dsimp only; omega, by dsimp only; exact_mod_cast h1⟩
theorem sums_le {f : Nat} {fs : List Int} (hf : Sh.flowB fs = true) (f0 : 0 < f) (f1 : f ≤ 100) : (los f fs).sum ≤ (his f fs).sum ∧ (his f fs).sum ≤ 8000 := by
  have hl := (Sh.flowB_yes hf).2.1
  have h1 := Lg.sum_le_many (his f fs) (fun k hk => his_le hf f0 f1 k (by rwa [his_len] at hk))
  rw [his_len] at h1
  refine ⟨?_, by omega⟩
  unfold los his
  clear h1 hl hf
  induction fs with
  | nil => simp
  | cons x r ih => simp only [List.map_cons, List.sum_cons]; have := (lo_hi f x).1; omega
theorem sq_bd {p : Int × Int} {r : Int} (h0 : 0 ≤ p.1) (h1 : p.1 ≤ 8000) (h2 : 1 ≤ p.2) (h3 : p.2 ≤ 100) (r0 : 8 ≤ r) (r1 : r ≤ 1000) : (0 ≤ p.1 * p.1 ∧ p.1 * p.1 ≤ 64000000) ∧ (1 ≤ p.2 * p.2 ∧ p.2 * p.2 ≤ 10000) ∧ 1 ≤ p.2 * p.2 * r ∧ p.2 * p.2 * r ≤ 10000000 := by
  have a0 := Int.mul_nonneg h0 h0
  have a1 := Int.mul_le_mul h1 h1 h0 (by omega)
  have b0 := Int.mul_le_mul h2 h2 (by omega) (show 0 ≤ p.2 by omega)
  have b1 := Int.mul_le_mul h3 h3 (by omega) (by omega)
  have c0 : 1 * 1 ≤ p.2 * p.2 * r := Int.mul_le_mul (by omega) (by omega) (by omega) (by omega)
  have c1 : p.2 * p.2 * r ≤ 10000 * 1000 := Int.mul_le_mul (by omega) r1 (by omega) (by omega)
  omega
theorem sq_good {p : Int × Int} {r : Int} (h0 : 0 ≤ p.1) (h1 : p.1 ≤ 8000) (h2 : 1 ≤ p.2) (h3 : p.2 ≤ 100) (r0 : 8 ≤ r) (r1 : r ≤ 1000) : Sh.goodF (sq p r) = true := by
  obtain ⟨a, b, c⟩ := sq_bd h0 h1 h2 h3 r0 r1
  exact Sh.mk_good (by omega) (by omega) (by omega) (by omega)
/-- The squares stand as the parts do. -/
theorem sq_less {m n f : Nat} {r : Int} (f0 : 0 < f) (f1 : f ≤ 100) (h : m ≤ n) (hn : n ≤ 8000) (r0 : 8 ≤ r) (r1 : r ≤ 1000) : Sh.less (sq (Sh.mk (n : Int) f) r) (sq (Sh.mk (m : Int) f) r) = false := by
  obtain ⟨a0, a1, a2, a3, a4⟩ := part_facts (m := m) f0 f1 (by omega)
  obtain ⟨b0, b1, b2, b3, b4⟩ := part_facts (m := n) f0 f1 hn
  generalize Sh.mk (m : Int) f = p at *
  generalize Sh.mk (n : Int) f = q at *
  obtain ⟨_, _, c1, _⟩ := sq_bd a0 a1 a2 a3 r0 r1
  obtain ⟨_, _, d1, _⟩ := sq_bd b0 b1 b2 b3 r0 r1
  unfold sq
  rw [Sh.mk_less (by omega) (by omega)]
  simp only [decide_eq_false_iff_not, Int.not_lt]
  have hpq : p.1 * q.2 ≤ q.1 * p.2 := by
    have e1 : p.1 * q.2 * f = m * (p.2 * q.2) := by
      have : p.1 * q.2 * f = p.1 * f * q.2 := by ac_rfl
      rw [this, a4]; ac_rfl
    have e2 : q.1 * p.2 * f = n * (p.2 * q.2) := by
      have : q.1 * p.2 * f = q.1 * f * p.2 := by ac_rfl
      rw [this, b4]; ac_rfl
    have h3 : (m : Int) * (p.2 * q.2) ≤ n * (p.2 * q.2) := Int.mul_le_mul_of_nonneg_right (by omega) (Int.mul_nonneg (by omega) (by omega))
    rw [← e1, ← e2] at h3
    exact Int.le_of_mul_le_mul_right h3 (by omega)
  have h4 : p.1 * q.2 * (p.1 * q.2) ≤ q.1 * p.2 * (q.1 * p.2) := Int.mul_le_mul hpq hpq (Int.mul_nonneg (by omega) (by omega)) (Int.mul_nonneg (by omega) (by omega))
  have h5 := Int.mul_le_mul_of_nonneg_right h4 (show 0 ≤ r by omega)
  have e3 : p.1 * p.1 * (q.2 * q.2 * r) = p.1 * q.2 * (p.1 * q.2) * r := by ac_rfl
  have e4 : q.1 * q.1 * (p.2 * p.2 * r) = q.1 * p.2 * (q.1 * p.2) * r := by ac_rfl
  rw [e3, e4]; exact h5
end Go.Proofs.Ytmhednkbpniphaa.Fd
namespace Go.Proofs.Ytmhednkbpniphaa
open Go.RowKit
theorem root_sq {f : Nat} {x : Int} (x0 : 1 ≤ x) (x1 : x ≤ 30) (f0 : 0 < f) (f1 : f ≤ 100) : Rt.sqB x = true ∧ Rt.sqB (x * f * f) = true := by
  have := Fd.xff_bd x0 x1 f0 f1
  constructor <;> (unfold Rt.sqB; simp; omega)
theorem rb_parts {f : Nat} {x : Int} {w : World} (x0 : 1 ≤ x) (x1 : x ≤ 30) (f0 : 0 < f) (f1 : f ≤ 100) :
    Calls Try.prog 70 #[.int .i64 x, .int .i64 f] w fun e w' => e = .returned (.tuple #[.agg #[.int .i64 (Sh.mk (Fd.lo f x : Int) f).1, .int .i64 (Sh.mk (Fd.lo f x : Int) f).2, .int .i64 (Sh.mk (Fd.hi f x : Int) f).1, .int .i64 (Sh.mk (Fd.hi f x : Int) f).2], .bool true]) ∧ Below w.heap.size w w' := by
  obtain ⟨h1, h2⟩ := root_sq x0 x1 f0 f1
  have e := (Fd.lo_facts x0 x1 f0 f1).1
  unfold Sh.mk Fd.hi
  cases hs : (Rt.rt (x * f * f) * Rt.rt (x * f * f) == x * f * f)
  · simp only [Bool.false_eq_true, if_false, Int.natCast_add, Int.natCast_one, e]
    exact rb_far h1 (by omega) (by omega) h2 hs
  · simp only [if_true, e]
    exact rb_met h1 (by omega) (by omega) h2 hs
theorem srb_parts {f : Nat} {x : Int} {w : World} (x0 : 1 ≤ x) (x1 : x ≤ 30) (f0 : 0 < f) (f1 : f ≤ 100) :
    Calls Try.prog 54 #[.int .i64 x, .int .i64 f] w fun e w' => e = .returned (.tuple #[.agg #[.int .i64 (Sh.mk (Fd.lo f x : Int) f).1, .int .i64 (Sh.mk (Fd.lo f x : Int) f).2, .int .i64 (Sh.mk (Fd.hi f x : Int) f).1, .int .i64 (Sh.mk (Fd.hi f x : Int) f).2], .bool true]) ∧ Below w.heap.size w w' := by
  obtain ⟨h1, h2⟩ := root_sq x0 x1 f0 f1
  have e := (Fd.lo_facts x0 x1 f0 f1).1
  unfold Sh.mk Fd.hi
  cases hs : (Rt.rt (x * f * f) * Rt.rt (x * f * f) == x * f * f)
  · simp only [Bool.false_eq_true, if_false, Int.natCast_add, Int.natCast_one, e]
    exact srb_far h1 (by omega) (by omega) h2 hs
  · simp only [if_true, e]
    exact srb_met h1 (by omega) (by omega) h2 hs
theorem new_q (w : World) (a b c d : Int) (t : TypeId) {H : Nat} (hH : w.heap.size = H) : ∀ (j : Nat) (u : Value), ([.int .i64 a, .int .i64 b, .int .i64 c, .int .i64 d] : List Value)[j]? = some u → (w.alloc (.cells #[.int .i64 a, .int .i64 b, .int .i64 c, .int .i64 d] t)).cell? ((⟨H, 0, none⟩ : Addr).add j) = some u := by
  intro j u hj
  subst hH
  match j, hj with
  | 0, hj => simp at hj; subst hj; simp [Addr.add]
  | 1, hj => simp at hj; subst hj; simp [Addr.add]
  | 2, hj => simp at hj; subst hj; simp [Addr.add]
  | 3, hj => simp at hj; subst hj; simp [Addr.add]
theorem q_cells (a b c d : Int) : ∀ u ∈ ([.int .i64 a, .int .i64 b, .int .i64 c, .int .i64 d] : List Value), u.oneCell' = true := by
  intro u hu
  simp at hu
  rcases hu with rfl | rfl | rfl | rfl <;> rfl
theorem bnds_take (f : Nat) (fs : List Int) {k : Nat} (hk : k < fs.length) : qcells ((bnds f (Fd.los f fs) (Fd.his f fs)).take (k + 1)) = qcells ((bnds f (Fd.los f fs) (Fd.his f fs)).take k) ++ [.int .i64 (Sh.mk (Fd.lo f (fs.getD k 0) : Int) f).1, .int .i64 (Sh.mk (Fd.lo f (fs.getD k 0) : Int) f).2, .int .i64 (Sh.mk (Fd.hi f (fs.getD k 0) : Int) f).1, .int .i64 (Sh.mk (Fd.hi f (fs.getD k 0) : Int) f).2] := by
  have hl : k < (bnds f (Fd.los f fs) (Fd.his f fs)).length := by rw [bnds_len, Fd.los_len]; exact hk
  rw [List.take_succ_eq_append_getElem hl, ← Pf.getD_lt _ ((0, 0), (0, 0)) hl, bnds_at _ _ _ (by rw [Fd.los_len]; exact hk), qcells_snoc, Fd.los_at f fs hk, Fd.his_at f fs hk]
end Go.Proofs.Ytmhednkbpniphaa
