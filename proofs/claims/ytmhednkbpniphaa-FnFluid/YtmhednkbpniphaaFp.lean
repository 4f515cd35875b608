/-
  Plain facts: finer bounds of the least cost lie within the others; bounds that are compared.
-/
import Derived.Test.YtmhednkbpniphaaUv
import Derived.Test.YtmhednkbpniphaaUw
namespace Go.Proofs.Ytmhednkbpniphaa.Fd

theorem lo_fine {f : Nat} {x : Int} (x0 : 1 ≤ x) (x1 : x ≤ 30) (f0 : 0 < f) (f1 : 2 * f ≤ 100) : 2 * lo f x ≤ lo (2 * f) x := by
  have e1 := (lo_facts x0 x1 f0 (by omega)).1
  have e2 := (lo_facts (f := 2 * f) x0 x1 (by omega) f1).1
  have b1 := xff_bd x0 x1 f0 (show f ≤ 100 by omega)
  have b2 := xff_bd (f := 2 * f) x0 x1 (by omega) f1
  obtain ⟨r0, r1, r2⟩ := Rt.rt_spec (x * f * f) (by omega)
  obtain ⟨s0, s1, s2⟩ := Rt.rt_spec (x * (2 * f : Nat) * (2 * f : Nat)) (by omega)
  have en : x * (2 * f : Nat) * (2 * f : Nat) = 4 * (x * f * f) := by
    have : ((2 * f : Nat) : Int) = 2 * (f : Int) := by simp
    rw [this]
    have h : x * (2 * (f : Int)) * (2 * (f : Int)) = 2 * 2 * (x * f * f) := by ac_rfl
    omega
  rw [en] at e2 s0 s1 s2
  generalize Rt.rt (x * f * f) = r at *
  generalize Rt.rt (4 * (x * f * f)) = s at *
  have h4 : 2 * r * (2 * r) = 4 * (r * r) := by
    have : 2 * r * (2 * r) = 2 * 2 * (r * r) := by ac_rfl
    omega
  have := Rt.lt_of_sq (a := 2 * r) (b := s + 1) (by omega) (by omega)
  omega
theorem hi_fine {f : Nat} {x : Int} (x0 : 1 ≤ x) (x1 : x ≤ 30) (f0 : 0 < f) (f1 : 2 * f ≤ 100) : hi (2 * f) x ≤ 2 * hi f x := by
  have e1 := (lo_facts x0 x1 f0 (by omega)).1
  have e2 := (lo_facts (f := 2 * f) x0 x1 (by omega) f1).1
  have b1 := xff_bd x0 x1 f0 (show f ≤ 100 by omega)
  obtain ⟨r0, r1, r2⟩ := Rt.rt_spec (x * f * f) (by omega)
  have b2 := xff_bd (f := 2 * f) x0 x1 (by omega) f1
  obtain ⟨s0, s1, s2⟩ := Rt.rt_spec (x * (2 * f : Nat) * (2 * f : Nat)) (by omega)
  have en : x * (2 * f : Nat) * (2 * f : Nat) = 4 * (x * f * f) := by
    have : ((2 * f : Nat) : Int) = 2 * (f : Int) := by simp
    rw [this]
    have h : x * (2 * (f : Int)) * (2 * (f : Int)) = 2 * 2 * (x * f * f) := by ac_rfl
    omega
  unfold hi
  rw [en] at e2 s0 s1 s2
  rw [en]
  generalize hr : Rt.rt (x * f * f) = r at *
  generalize hs : Rt.rt (4 * (x * f * f)) = s at *
  generalize x * f * f = n at *
  obtain ⟨h, hh, hsq, heq⟩ : ∃ h : Int, (if (r * r == n) = true then (lo f x : Int) else (lo f x : Int) + 1) = h ∧ n ≤ h * h ∧ 0 ≤ h := by
    by_cases q : r * r = n
    · exact ⟨r, by simp [q, e1], by omega, r0⟩
    · exact ⟨r + 1, by simp [q, e1], by omega, by omega⟩
  have h4 : 2 * h * (2 * h) = 4 * (h * h) := by
    have : 2 * h * (2 * h) = 2 * 2 * (h * h) := by ac_rfl
    omega
  have hle : s ≤ 2 * h := by
    rcases Int.lt_or_le (2 * h) s with q | q
    · have := Rt.sq_le (a := 2 * h + 1) (b := s) (by omega) (by omega)
      have e : (2 * h + 1) * (2 * h + 1) = 2 * h * (2 * h) + 2 * (2 * h) + 1 := by
        rw [Int.add_mul, Int.mul_add, Int.one_mul, Int.mul_one]; omega
      omega
    · exact q
  have hcast : ((if (r * r == n) = true then lo f x else lo f x + 1 : Nat) : Int) = h := by rw [← hh]; split <;> simp
  by_cases q : s * s = 4 * n
  · rw [if_pos (by simp [q])]
    generalize (if (r * r == n) = true then lo f x else lo f x + 1) = Z at *
    omega
  · rw [if_neg (by simp [q])]
    have hlt : s < 2 * h := by
      rcases Int.lt_or_eq_of_le hle with q' | q'
      · exact q'
      · exfalso
        apply q
        rw [q'] at s1
        rw [q']
        omega
    generalize (if (r * r == n) = true then lo f x else lo f x + 1) = Z at *
    omega
theorem sums_fine {f : Nat} : ∀ {fs : List Int}, (∀ x ∈ fs, 1 ≤ x ∧ x ≤ 30) → 0 < f → 2 * f ≤ 100 → 2 * (los f fs).sum ≤ (los (2 * f) fs).sum ∧ (his (2 * f) fs).sum ≤ 2 * (his f fs).sum
  | [], _, _, _ => by simp [los, his]
  | x :: r, h, f0, f1 => by
    have ih := sums_fine (fs := r) (fun y hy => h y (by simp [hy])) f0 f1
    have hx := h x (by simp)
    have h1 := lo_fine hx.1 hx.2 f0 f1
    have h2 := hi_fine hx.1 hx.2 f0 f1
    simp only [los, his, List.map_cons, List.sum_cons] at *
    omega
theorem flow_mem {fs : List Int} (h : Sh.flowB fs = true) : ∀ x ∈ fs, 1 ≤ x ∧ x ≤ 30 := fun x hx => by
  obtain ⟨i, hi, rfl⟩ := List.getElem_of_mem hx
  have := Sh.flowB_at h hi
  rwa [Pf.getD_lt _ _ hi] at this
/-- The squares stand as the parts do, of whatever two numbers. -/
theorem sq_mono {m n f g : Nat} {r : Int} (f0 : 0 < f) (f1 : f ≤ 100) (g0 : 0 < g) (g1 : g ≤ 100) (h : m * g ≤ n * f) (hm : m ≤ 8000) (hn : n ≤ 8000) (r0 : 8 ≤ r) (r1 : r ≤ 1000) : Sh.less (sq (Sh.mk (n : Int) g) r) (sq (Sh.mk (m : Int) f) r) = false := by
  obtain ⟨a0, a1, a2, a3, a4⟩ := part_facts (m := m) f0 f1 hm
  obtain ⟨b0, b1, b2, b3, b4⟩ := part_facts (m := n) g0 g1 hn
  generalize Sh.mk (m : Int) f = p at *
  generalize Sh.mk (n : Int) g = q at *
  obtain ⟨_, _, c1, _⟩ := sq_bd a0 a1 a2 a3 r0 r1
  obtain ⟨_, _, d1, _⟩ := sq_bd b0 b1 b2 b3 r0 r1
  unfold sq
  rw [Sh.mk_less (by omega) (by omega)]
  simp only [decide_eq_false_iff_not, Int.not_lt]
  have hpq : p.1 * q.2 ≤ q.1 * p.2 := by
    have e1 : p.1 * q.2 * (f * g) = m * g * (p.2 * q.2) := by
      have : p.1 * q.2 * (f * g) = p.1 * f * (q.2 * g) := by ac_rfl
      rw [this, a4]; ac_rfl
    have e2 : q.1 * p.2 * (f * g) = n * f * (p.2 * q.2) := by
      have : q.1 * p.2 * (f * g) = q.1 * g * (p.2 * f) := by ac_rfl
      rw [this, b4]; ac_rfl
    have h3 : (m : Int) * g * (p.2 * q.2) ≤ n * f * (p.2 * q.2) := Int.mul_le_mul_of_nonneg_right (by exact_mod_cast h) (Int.mul_nonneg (by omega) (by omega))
    rw [← e1, ← e2] at h3
    exact Int.le_of_mul_le_mul_right h3 (Int.mul_pos (by omega) (by omega))
  have h4 : p.1 * q.2 * (p.1 * q.2) ≤ q.1 * p.2 * (q.1 * p.2) := Int.mul_le_mul hpq hpq (Int.mul_nonneg (by omega) (by omega)) (Int.mul_nonneg (by omega) (by omega))
  have h5 := Int.mul_le_mul_of_nonneg_right h4 (show 0 ≤ r by omega)
  have e3 : p.1 * p.1 * (q.2 * q.2 * r) = p.1 * q.2 * (p.1 * q.2) * r := by ac_rfl
  have e4 : q.1 * q.1 * (p.2 * p.2 * r) = q.1 * p.2 * (q.1 * p.2) * r := by ac_rfl
  rw [e3, e4]; exact h5
end Go.Proofs.Ytmhednkbpniphaa.Fd
namespace Go.Proofs.Ytmhednkbpniphaa
open Go.RowKit

theorem leastB_yes {fs : List Int} {r f : Int} (h : leastB fs r f = true) : ∃ F : Nat, f = (F : Int) ∧ 0 < F ∧ F ≤ 100 ∧ Sh.flowB fs = true ∧ 8 ≤ r ∧ r ≤ 1000 := by
  unfold leastB at h
  simp only [Bool.and_eq_true] at h
  obtain ⟨h1, h2⟩ := h
  have h3 := Pf.inB_yes h2
  obtain ⟨F, rfl⟩ := Int.eq_ofNat_of_zero_le (show 0 ≤ f by omega)
  obtain ⟨a, b, c⟩ := Fd.roomB_yes h1
  exact ⟨F, rfl, by omega, by omega, a, b, c⟩
theorem least_is {fs : List Int} {r : Int} {F : Nat} (h : leastB fs r (F : Int) = true) : leastLo fs r F = Fd.sq (Fd.leastP fs F) r ∧ leastHi fs r F = Fd.sq (Fd.leastQ fs F) r := by
  unfold leastLo leastHi
  rw [if_pos h, if_pos h]
  exact ⟨rfl, rfl⟩
theorem least_bd {fs : List Int} {r f : Int} (h : leastB fs r f = true) : goodBd (leastLo fs r f).1 (leastLo fs r f).2 (leastHi fs r f).1 (leastHi fs r f).2 = true := by
  obtain ⟨F, rfl, F0, F1, hf, r0, r1⟩ := leastB_yes h
  obtain ⟨e1, e2⟩ := least_is h
  rw [e1, e2]
  exact least_good hf F0 F1 r0 r1
theorem least_within {fs : List Int} {r f : Int} (h : leastB fs r f = true) (h2 : leastB fs r (2 * f) = true) :
    (withR (leastLo fs r (2 * f)).1 (leastLo fs r (2 * f)).2 (leastLo fs r f).1 (leastLo fs r f).2 (leastHi fs r f).1 (leastHi fs r f).2 = true ∧ withB (leastLo fs r (2 * f)).1 (leastLo fs r (2 * f)).2 (leastLo fs r f).1 (leastLo fs r f).2 (leastHi fs r f).1 (leastHi fs r f).2 = true) ∧
    (withR (leastHi fs r (2 * f)).1 (leastHi fs r (2 * f)).2 (leastLo fs r f).1 (leastLo fs r f).2 (leastHi fs r f).1 (leastHi fs r f).2 = true ∧ withB (leastHi fs r (2 * f)).1 (leastHi fs r (2 * f)).2 (leastLo fs r f).1 (leastLo fs r f).2 (leastHi fs r f).1 (leastHi fs r f).2 = true) := by
  have hb := least_bd h
  obtain ⟨F, rfl, F0, F1, hf, r0, r1⟩ := leastB_yes h
  obtain ⟨G, eG, G0, G1, _, _, _⟩ := leastB_yes h2
  obtain rfl : G = 2 * F := by omega
  have eF : (2 * (F : Int)) = ((2 * F : Nat) : Int) := by simp
  rw [eF] at h2 ⊢
  have hb2 := least_bd h2
  obtain ⟨e1, e2⟩ := least_is h
  obtain ⟨e3, e4⟩ := least_is h2
  obtain ⟨s1, s2⟩ := Fd.sums_fine (Fd.flow_mem hf) F0 G1
  obtain ⟨t1, t2⟩ := Fd.sums_le hf F0 F1
  obtain ⟨t3, t4⟩ := Fd.sums_le hf G0 G1
  have l1 : Sh.less (leastLo fs r (2 * F : Nat)) (leastLo fs r F) = false := by rw [e1, e3]; exact Fd.sq_mono F0 F1 G0 G1 (by have := Nat.mul_le_mul_right F s1; rw [Nat.mul_comm 2 (Fd.los F fs).sum, Nat.mul_assoc] at this; exact this) (Nat.le_trans t1 t2) (Nat.le_trans t3 t4) r0 r1
  have l2 : Sh.less (leastHi fs r F) (leastHi fs r (2 * F : Nat)) = false := by rw [e2, e4]; exact Fd.sq_mono G0 G1 F0 F1 (by have := Nat.mul_le_mul_right F s2; rw [Nat.mul_comm 2 (Fd.his F fs).sum, Nat.mul_assoc] at this; exact this) t4 t2 r0 r1
  have l3 : Sh.less (leastHi fs r F) (leastLo fs r (2 * F : Nat)) = false := by rw [e2, e3]; exact Fd.sq_mono G0 G1 F0 F1 (by have := Nat.mul_le_mul_right F (Nat.le_trans t3 s2); rw [Nat.mul_comm 2 (Fd.his F fs).sum, Nat.mul_assoc] at this; exact this) (Nat.le_trans t3 t4) t2 r0 r1
  have l4 : Sh.less (leastHi fs r (2 * F : Nat)) (leastLo fs r F) = false := by rw [e1, e4]; exact Fd.sq_mono F0 F1 G0 G1 (by have := Nat.mul_le_mul_right F (Nat.le_trans s1 t3); rw [Nat.mul_comm 2 (Fd.los F fs).sum, Nat.mul_assoc] at this; exact this) (Nat.le_trans t1 t2) t4 r0 r1
  unfold Sh.less at l1 l2 l3 l4
  have g2 := goodBd_both hb2
  unfold withR withB
  rw [hb, g2.1, g2.2, l1, l2, l3, l4]
  simp
theorem bounds_held : Try.prog.stoodInHeld 32 = false := by kernel_rfl
theorem bounds_guard : Try.prog.eqGuardType Try.prog.depth 32 = false := by kernel_rfl
theorem bounds_struct : Try.prog.underlying 32 = some (.struct (Try.prog.fieldsOf 32)) := by kernel_rfl
theorem bounds_neq (a b c d : Int) (w : World) : (binOp .neq 32 (.agg #[.int .i64 a, .int .i64 b, .int .i64 c, .int .i64 d]) (.agg #[.int .i64 a, .int .i64 b, .int .i64 c, .int .i64 d])).run Try.prog w = .ok (.bool false) w := by
  have u3 := Try.underlying3
  have a3 := Try.isAgg3
  have z3 := Try.sizeOf3
  have aF := Try.isAgg27
  have zF := Try.sizeOf27
  have hin : ∀ (n d : Int) (w : World), (Op.equalIn 9999 27 (.agg #[.int .i64 n, .int .i64 d]) (.agg #[.int .i64 n, .int .i64 d])).run Try.prog w = .ok true w := by
    intro n d w
    rw [show (9999 : Nat) = 9998 + 1 from rfl, run_equalIn_agg w 9998 27 _ _ frac_struct frac_held]
    simp only [Program.fieldsOf, Try.underlying27]
    go_simp
  rw [run_neq_struct, show (10000 : Nat) = 9999 + 1 from rfl, run_equalIn_agg w 9999 32 _ _ bounds_struct bounds_held]
  simp only [Program.fieldsOf, Try.underlying32]
  go_simp
theorem bounds_neqg (x y : Operand) (xs ys : Array Value) (w : World) : (eqGuard .neq 32 x y (.agg xs) (.agg ys)).run Try.prog w = .ok () w := run_eqGuard_agg w _ _ _ _ _ _ bounds_guard
end Go.Proofs.Ytmhednkbpniphaa
