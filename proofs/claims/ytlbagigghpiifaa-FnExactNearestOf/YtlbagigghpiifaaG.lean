/-
  What FloorFrac, LessFrac, FracOf answer, the program's and the model's.
-/
import Derived.Test.YtlbagigghpiifaaE
namespace Go.Proofs.Ytlbagigghpiifaa
open Go.RowKit

theorem tup_ib {a b : Int} {c : Bool} (h : a = b) : Ending.returned (.tuple #[.int .i64 a, .bool c]) = .returned (.tuple #[.int .i64 b, .bool c]) := by rw [h]

set_option maxHeartbeats 400000 in
theorem cmp_same (n1 d1 : Int) (w : World) :
    Calls Try.prog 68 #[.agg #[.int .i64 n1, .int .i64 d1], .agg #[.int .i64 n1, .int .i64 d1]] w fun e w' => e = .returned (.int .i64 0) ∧ Below w.heap.size w w' := by
  have q1 := frac_eq n1 d1 n1 d1
  have q2 := fun x y => frac_eqg x y n1 d1 n1 d1
  simp at q1
  go_enter Try.func68, Try.ntmps68
  go_wp2
  go_ret
  exact ⟨rfl, ((Below.refl _ _).alloc (Nat.le_refl _) _).alloc (by simp) _⟩

set_option maxHeartbeats 400000 in
theorem cmp_lt (n1 d1 n2 d2 : Int) (w : World) (h1 : Fr.goodB n1 d1 = true) (h2 : Fr.goodB n2 d2 = true) (h : (n1 == n2 && d1 == d2) = false) (hl : n1 * d2 < n2 * d1) :
    Calls Try.prog 68 #[.agg #[.int .i64 n1, .int .i64 d1], .agg #[.int .i64 n2, .int .i64 d2]] w fun e w' => e = .returned (.int .i64 (-1)) ∧ Below w.heap.size w w' := by
  obtain ⟨a0, a1, a2, a3⟩ := Fr.good_bd n1 d1 h1
  obtain ⟨b0, b1, b2, b3⟩ := Fr.good_bd n2 d2 h2
  have m1 := wrap_mul n1 d2 (by omega) (by omega) (by omega) (by omega)
  have m2 := wrap_mul n2 d1 (by omega) (by omega) (by omega) (by omega)
  have q1 := frac_eq n1 d1 n2 d2
  have q2 := fun x y => frac_eqg x y n1 d1 n2 d2
  rw [h] at q1
  clear h1 h2 h
  go_enter Try.func68, Try.ntmps68
  go_wp2
  go_ret
  exact ⟨rfl, ((Below.refl _ _).alloc (Nat.le_refl _) _).alloc (by simp) _⟩

set_option maxHeartbeats 400000 in
theorem cmp_gt (n1 d1 n2 d2 : Int) (w : World) (h1 : Fr.goodB n1 d1 = true) (h2 : Fr.goodB n2 d2 = true) (h : (n1 == n2 && d1 == d2) = false) (hl : ¬ n1 * d2 < n2 * d1) :
    Calls Try.prog 68 #[.agg #[.int .i64 n1, .int .i64 d1], .agg #[.int .i64 n2, .int .i64 d2]] w fun e w' => e = .returned (.int .i64 1) ∧ Below w.heap.size w w' := by
  obtain ⟨a0, a1, a2, a3⟩ := Fr.good_bd n1 d1 h1
  obtain ⟨b0, b1, b2, b3⟩ := Fr.good_bd n2 d2 h2
  have m1 := wrap_mul n1 d2 (by omega) (by omega) (by omega) (by omega)
  have m2 := wrap_mul n2 d1 (by omega) (by omega) (by omega) (by omega)
  have q1 := frac_eq n1 d1 n2 d2
  have q2 := fun x y => frac_eqg x y n1 d1 n2 d2
  rw [h] at q1
  clear h1 h2 h
  go_enter Try.func68, Try.ntmps68
  go_wp2
  go_ret
  exact ⟨rfl, ((Below.refl _ _).alloc (Nat.le_refl _) _).alloc (by simp) _⟩

theorem cmp_any (n1 d1 n2 d2 : Int) (w : World) (h1 : Fr.goodB n1 d1 = true) (h2 : Fr.goodB n2 d2 = true) :
    ∃ v, (v == -1) = Fr.lessB n1 d1 n2 d2 ∧ Calls Try.prog 68 #[.agg #[.int .i64 n1, .int .i64 d1], .agg #[.int .i64 n2, .int .i64 d2]] w fun e w' => e = .returned (.int .i64 v) ∧ Below w.heap.size w w' := by
  cases h : (n1 == n2 && d1 == d2)
  · by_cases hl : n1 * d2 < n2 * d1
    · exact ⟨-1, by simp [Fr.lessB, hl], cmp_lt n1 d1 n2 d2 w h1 h2 h hl⟩
    · exact ⟨1, by simp [Fr.lessB, hl], cmp_gt n1 d1 n2 d2 w h1 h2 h hl⟩
  · simp at h
    obtain ⟨rfl, rfl⟩ := h
    exact ⟨0, by simp [Fr.lessB], cmp_same n1 d1 w⟩
end Go.Proofs.Ytlbagigghpiifaa
