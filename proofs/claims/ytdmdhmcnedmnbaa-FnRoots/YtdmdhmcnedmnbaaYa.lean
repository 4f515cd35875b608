/-
  What the small functions under CompareRoots answer, the program's and the model's, on numbers alone.
-/
import Derived.Test.YtdmdhmcnedmnbaaD
import Derived.Test.YtdmdhmcnedmnbaaSq
namespace Go.Proofs.Ytdmdhmcnedmnbaa
open Go.RowKit

set_option maxHeartbeats 400000 in
theorem nan_any (x : Int) (w : World) : Calls Try.prog 86 #[.int .i64 x] w fun e w' => e = .returned (.bool false) ∧ w' = w := by
  have hx : (x != x) = false := by simp
  go_enter Try.func86, Try.ntmps86
  go_wp2
  go_ret
  exact ⟨rfl, rfl⟩
set_option maxHeartbeats 400000 in
theorem cmpI_any (x y : Int) (w : World) : Calls Try.prog 77 #[.int .i64 x, .int .i64 y] w fun e w' => e = .returned (.int .i64 (Sq.cmp3 x y)) ∧ w' = w := by
  by_cases h1 : x < y
  · have hv : Sq.cmp3 x y = -1 := by unfold Sq.cmp3; rw [if_pos h1]
    rw [hv]; clear hv
    go_enter Try.func77, Try.ntmps77
    go_wp2_with (go_at_call 86; refine (nan_any _ _).mono ?_; rintro e w1 ⟨rfl, rfl⟩)
    go_ret
    exact ⟨rfl, rfl⟩
  · by_cases h2 : y < x
    · have hv : Sq.cmp3 x y = 1 := by unfold Sq.cmp3; rw [if_neg h1, if_pos h2]
      rw [hv]; clear hv
      go_enter Try.func77, Try.ntmps77
      go_wp2_with (go_at_call 86; refine (nan_any _ _).mono ?_; rintro e w1 ⟨rfl, rfl⟩)
      go_ret
      exact ⟨rfl, rfl⟩
    · have hv : Sq.cmp3 x y = 0 := by unfold Sq.cmp3; rw [if_neg h1, if_neg h2]
      rw [hv]; clear hv
      go_enter Try.func77, Try.ntmps77
      go_wp2_with (go_at_call 86; refine (nan_any _ _).mono ?_; rintro e w1 ⟨rfl, rfl⟩)
      go_ret
      exact ⟨rfl, rfl⟩

theorem m_bd {m : Int} (h0 : 0 ≤ m) (h1 : m ≤ 2000) : 0 ≤ m * m ∧ m * m ≤ 4000000 := ⟨Int.mul_nonneg h0 h0, Int.mul_le_mul h1 h1 h0 (by omega)⟩
theorem four_bd {m X : Int} (h0 : 0 ≤ m) (h1 : m ≤ 2000) (x0 : 0 ≤ X) (x1 : X ≤ 4000000) : wrap64 (4 * m) = 4 * m ∧ wrap64 (4 * m * m) = 4 * m * m ∧ wrap64 (4 * m * m * X) = 4 * m * m * X := by
  have a0 := m_bd h0 h1
  have e : 4 * m * m = 4 * (m * m) := Int.mul_assoc 4 m m
  have b0 : 0 ≤ 4 * m * m * X := Int.mul_nonneg (by omega) x0
  have b1 : 4 * m * m * X ≤ 16000000 * 4000000 := Int.mul_le_mul (by omega) x1 x0 (by omega)
  exact ⟨wrap_id _ (by omega) (by omega), wrap_id _ (by omega) (by omega), wrap_id _ (by omega) (by omega)⟩
theorem rest_bd {r : Int} (h0 : 0 ≤ r) (h1 : r ≤ 4000000) : wrap64 (r * r) = r * r := by
  have : r * r ≤ 4000000 * 4000000 := Int.mul_le_mul h1 h1 h0 (by omega)
  have := Int.mul_nonneg h0 h0
  exact wrap_id _ (by omega) (by omega)

set_option maxHeartbeats 1000000 in
theorem half_any (P X Q Y : Int) (w : World) (p0 : 0 ≤ P) (p1 : P ≤ 2000) (x0 : 0 ≤ X) (x1 : X ≤ 4000000) (q0 : 0 ≤ Q) (q1 : Q ≤ 2000) (y0 : 0 ≤ Y) (y1 : Y ≤ 4000000) (h : ¬ P < Q) :
    Calls Try.prog 59 #[.agg #[.int .i64 P, .int .i64 X], .agg #[.int .i64 Q, .int .i64 Y]] w fun e w' => e = .returned (.int .i64 (Sq.half P X Q Y)) ∧ Below w.heap.size w w' := by
  have H := hide (show Sq.half P X Q Y = if Y - X - (P - Q) * (P - Q) < 0 then 1 else Sq.cmp3 (4 * (P - Q) * (P - Q) * X) ((Y - X - (P - Q) * (P - Q)) * (Y - X - (P - Q) * (P - Q))) from rfl)
  obtain ⟨m0, m1⟩ := m_bd (m := P - Q) (by omega) (by omega)
  obtain ⟨f1, f2, f3⟩ := four_bd (m := P - Q) (by omega) (by omega) x0 x1
  have g1 : wrap64 ((P - Q) * (P - Q)) = (P - Q) * (P - Q) := wrap_id _ (by omega) (by omega)
  by_cases hr : Y - X - (P - Q) * (P - Q) < 0
  · rw [if_pos hr] at H
    have g2 : wrap64 (Y - X - (P - Q) * (P - Q)) = Y - X - (P - Q) * (P - Q) := wrap_id _ (by omega) (by omega)
    clear m0 m1
    go_enter Try.func59, Try.ntmps59
    go_wp2_with fail
    go_ret
    exact ⟨ret_int H.out.symm, ((Below.refl _ _).alloc (Nat.le_refl _) _).alloc (by simp) _⟩
  · rw [if_neg hr] at H
    have g2 : wrap64 (Y - X - (P - Q) * (P - Q)) = Y - X - (P - Q) * (P - Q) := wrap_id _ (by omega) (by omega)
    have g3 := rest_bd (r := Y - X - (P - Q) * (P - Q)) (by omega) (by omega)
    clear m0 m1
    go_enter Try.func59, Try.ntmps59
    go_wp2_with fail
    refine (cmpI_any _ _ _).mono ?_
    rintro e w1 ⟨rfl, rfl⟩
    go_wp2_with fail
    go_ret
    exact ⟨ret_int H.out.symm, ((Below.refl _ _).alloc (Nat.le_refl _) _).alloc (by simp) _⟩
theorem sq3_bd (x y : Int) : -1 ≤ Sq.cmp3 x y ∧ Sq.cmp3 x y ≤ 1 := by unfold Sq.cmp3; split <;> (try split) <;> omega
theorem half_bd (P X Q Y : Int) : -1 ≤ Sq.half P X Q Y ∧ Sq.half P X Q Y ≤ 1 := by
  unfold Sq.half
  split
  · omega
  · exact sq3_bd _ _
set_option maxHeartbeats 1000000 in
theorem sq_any (P X Q Y : Int) (w : World) (p0 : 0 ≤ P) (p1 : P ≤ 2000) (x0 : 0 ≤ X) (x1 : X ≤ 4000000) (q0 : 0 ≤ Q) (q1 : Q ≤ 2000) (y0 : 0 ≤ Y) (y1 : Y ≤ 4000000) :
    Calls Try.prog 59 #[.agg #[.int .i64 P, .int .i64 X], .agg #[.int .i64 Q, .int .i64 Y]] w fun e w' => e = .returned (.int .i64 (Sq.sq P X Q Y)) ∧ Below w.heap.size w w' := by
  unfold Sq.sq
  by_cases h : P < Q
  · rw [if_pos h]
    obtain ⟨b0, b1⟩ := half_bd Q Y P X
    have hc := fun w => half_any Q Y P X w q0 q1 y0 y1 p0 p1 x0 x1 (by omega)
    have HC := hide hc
    generalize Sq.half Q Y P X = v at *
    clear hc
    go_enter Try.func59, Try.ntmps59
    go_wp2_with fail
    refine (HC.out _).mono ?_
    rintro e w1 ⟨rfl, hb1⟩
    go_wp2_with fail
    go_ret
    exact ⟨ret_int (by omega), (((Below.refl _ _).alloc (Nat.le_refl _) _).alloc (by simp) _).trans (hb1.mono (by simp; omega))⟩
  · rw [if_neg h]
    exact half_any P X Q Y w p0 p1 x0 x1 q0 q1 y0 y1 h

set_option maxHeartbeats 400000 in
theorem sign_any (n : Int) (w : World) : Calls Try.prog 79 #[.int .i64 n] w fun e w' => e = .returned (.int .i64 (Sq.sign n)) ∧ w' = w := by
  by_cases h1 : 0 < n
  · have hv : Sq.sign n = 1 := by unfold Sq.sign; rw [if_pos h1]
    rw [hv]; clear hv
    go_enter Try.func79, Try.ntmps79
    go_wp2
    go_ret
    exact ⟨rfl, rfl⟩
  · by_cases h2 : n < 0
    · have hv : Sq.sign n = -1 := by unfold Sq.sign; rw [if_neg h1, if_pos h2]
      rw [hv]; clear hv
      go_enter Try.func79, Try.ntmps79
      go_wp2
      go_ret
      exact ⟨rfl, rfl⟩
    · have hv : Sq.sign n = 0 := by unfold Sq.sign; rw [if_neg h1, if_neg h2]
      rw [hv]; clear hv
      go_enter Try.func79, Try.ntmps79
      go_wp2
      go_ret
      exact ⟨rfl, rfl⟩
set_option maxHeartbeats 400000 in
theorem mixed_any (n s : Int) (w : World) (n0 : -4000000 ≤ n) (n1 : n ≤ 100000000) (s0 : 0 ≤ s) (s1 : s ≤ 64000000000000) : Calls Try.prog 80 #[.int .i64 n, .int .i64 s] w fun e w' => e = .returned (.int .i64 (Sq.mixed n s)) ∧ w' = w := by
  by_cases h1 : 0 ≤ n
  · by_cases h2 : n = 0
    · subst h2
      by_cases h3 : s = 0
      · subst h3
        go_enter Try.func80, Try.ntmps80
        go_wp2_with fail
        go_ret
        exact ⟨rfl, rfl⟩
      · have hv : Sq.mixed 0 s = 1 := by unfold Sq.mixed; simp [h3]
        have hs : (s == 0) = false := by simpa using h3
        rw [hv]; clear hv
        go_enter Try.func80, Try.ntmps80
        go_wp2_with fail
        go_ret
        exact ⟨rfl, rfl⟩
    · have hv : Sq.mixed n s = 1 := by unfold Sq.mixed; simp [h1, h2]
      have hs : (n == 0) = false := by simpa using h2
      rw [hv]; clear hv
      go_enter Try.func80, Try.ntmps80
      go_wp2_with fail
      go_ret
      exact ⟨rfl, rfl⟩
  · have hv : Sq.mixed n s = Sq.sign (s - n * n) := by unfold Sq.mixed; rw [if_neg h1]
    rw [hv]; clear hv
    have e : n * n = (-n) * (-n) := (Int.neg_mul_neg n n).symm
    have b1 : (-n) * (-n) ≤ 4000000 * 4000000 := Int.mul_le_mul (by omega) (by omega) (by omega) (by omega)
    have b0 : 0 ≤ (-n) * (-n) := Int.mul_nonneg (by omega) (by omega)
    have g1 : wrap64 (n * n) = n * n := wrap_id _ (by omega) (by omega)
    have g2 : wrap64 (s - n * n) = s - n * n := wrap_id _ (by omega) (by omega)
    clear e b0 b1
    go_enter Try.func80, Try.ntmps80
    go_wp2_with fail
    refine (sign_any _ _).mono ?_
    rintro e w1 ⟨rfl, rfl⟩
    go_wp2_with fail
    go_ret
    exact ⟨rfl, rfl⟩
end Go.Proofs.Ytdmdhmcnedmnbaa
