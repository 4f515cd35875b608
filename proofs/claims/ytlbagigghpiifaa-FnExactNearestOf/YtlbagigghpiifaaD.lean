/-
  What the small functions of the model of chapter 1 answer: l1In, l1Abs, l1Gcd, l1Make, GoodFrac, l1Fits, l1Both.
-/
import Derived.Test.YtlbagigghpiifaaB
namespace Go.Proofs.Ytlbagigghpiifaa
open Go.RowKit

set_option maxHeartbeats 400000 in
theorem in_yes {n lo hi : Int} {w : World} (h1 : lo ≤ n) (h2 : n ≤ hi) :
    Calls Try.prog 60 #[.int .i64 n, .int .i64 lo, .int .i64 hi] w fun e w' => e = .returned (.bool true) ∧ w' = w := by
  go_enter Try.func60, Try.ntmps60
  go_wp2
  go_ret
  exact ⟨rfl, rfl⟩

set_option maxHeartbeats 400000 in
theorem in_no {n lo hi : Int} {w : World} (h : n < lo ∨ hi < n) :
    Calls Try.prog 60 #[.int .i64 n, .int .i64 lo, .int .i64 hi] w fun e w' => e = .returned (.bool false) ∧ w' = w := by
  by_cases h1 : lo ≤ n
  · have h2 : ¬ n ≤ hi := by omega
    clear h
    go_enter Try.func60, Try.ntmps60
    go_wp2
    go_ret
    exact ⟨rfl, rfl⟩
  · clear h
    go_enter Try.func60, Try.ntmps60
    go_wp2
    go_ret
    exact ⟨rfl, rfl⟩

set_option maxHeartbeats 400000 in
theorem abs_any (a : Int) (w : World) (h0 : -4000000000000000000 ≤ a) (h1 : a ≤ 4000000000000000000) :
    Calls Try.prog 69 #[.int .i64 a] w fun e w' => e = .returned (.int .i64 (a.natAbs : Int)) ∧ w' = w := by
  by_cases h : a < 0
  · go_enter Try.func69, Try.ntmps69
    go_wp2
    go_ret
    exact ⟨ret_int (by omega), rfl⟩
  · go_enter Try.func69, Try.ntmps69
    go_wp2
    go_ret
    exact ⟨ret_int (by omega), rfl⟩

set_option maxHeartbeats 400000 in
theorem sgcd_any (a b : Int) (w : World) (ha0 : -4000000000000000000 ≤ a) (ha1 : a ≤ 4000000000000000000) (hb0 : -4000000000000000000 ≤ b) (hb1 : b ≤ 4000000000000000000) :
    Calls Try.prog 54 #[.int .i64 a, .int .i64 b] w fun e w' => e = .returned (.int .i64 (Fr.g a b)) ∧ w' = w := by
  go_enter Try.func54, Try.ntmps54
  go_wp2_with fail
  refine (abs_any a _ ha0 ha1).mono ?_
  rintro e w1 ⟨rfl, rfl⟩
  go_wp2_with fail
  refine (abs_any b _ hb0 hb1).mono ?_
  rintro e w2 ⟨rfl, rfl⟩
  go_wp2_with fail
  go_loop [0, 1] (fun s t => ∃ x y : Int, s = .int .i64 x ∧ t = .int .i64 y ∧ 0 ≤ x ∧ x ≤ 4000000000000000000 ∧ 0 ≤ y ∧ y ≤ 4000000000000000000 ∧ Hid (Fr.g x y = Fr.g a b)) (fun _ t => (intOf t).natAbs)
  case atStart => exact ⟨a.natAbs, b.natAbs, rfl, rfl, by omega, by omega, by omega, by omega, hide (Fr.g_abs a b)⟩
  case round =>
    obtain ⟨x, y, rfl, rfl, hx0, hx1, hy0, hy1, hg⟩ := hrel
    by_cases h0 : 0 < y
    · have hne : (y == 0) = false := by simp; omega
      have hm := Fr.tmod_lt x y (by omega)
      have hgs := Fr.g_step x y
      have he : x.tmod y = x % y := Int.tmod_eq_emod_of_nonneg hx0
      have hn := Int.emod_nonneg x (show y ≠ 0 by omega)
      rw [he] at hm hgs
      have HG := hide (hgs.trans hg.out)
      clear hgs he hg
      go_wp2
      go_round
      case rel => exact ⟨y, x % y, rfl, rfl, hy0, hy1, hn, by omega, HG⟩
      case measure => simp only [intOf]; omega
    · have hy : y = 0 := by omega
      subst hy
      go_wp2
      go_ret
      exact ⟨ret_int (by have := hg.out; rw [Fr.g_zero] at this; omega), rfl⟩

set_option maxHeartbeats 400000 in
theorem make_neg (n d : Int) (w : World) (hn0 : -4000000000000000000 ≤ n) (hn1 : n ≤ 4000000000000000000) (hd0 : -4000000000000000000 ≤ d) (hd1 : d < 0) :
    Calls Try.prog 32 #[.int .i64 n, .int .i64 d] w fun e w' => e = .returned (.agg #[.int .i64 (Fr.mkN n d), .int .i64 (Fr.mkD n d)]) ∧ Below w.heap.size w w' := by
  have hg := Fr.g_pos (-n) (-d) (by omega)
  have hg' := Fr.g_le (-n) (-d) (by omega)
  have hne : (Fr.g (-n) (-d) == 0) = false := by simp; omega
  have e1 := mkN_neg n d hn0 hn1 hd1
  have e2 := mkD_neg n d hd0 hd1
  go_enter Try.func32, Try.ntmps32
  go_wp2_with (go_at_call 54; refine (sgcd_any _ _ _ (by omega) (by omega) (by omega) (by omega)).mono ?_; rintro e w' ⟨rfl, rfl⟩)
  go_region
  go_wp2
  exact bodyPost_ret (v := .agg #[.int .i64 (Fr.mkN n d), .int .i64 (Fr.mkD n d)]) (by simp [results, Try.results32, go_sem]) rfl ⟨rfl, ((Below.refl _ _).alloc (Nat.le_refl _) _).drew⟩

set_option maxHeartbeats 400000 in
theorem make_pos (n d : Int) (w : World) (hn0 : -4000000000000000000 ≤ n) (hn1 : n ≤ 4000000000000000000) (hd0 : 0 < d) (hd1 : d ≤ 4000000000000000000) :
    Calls Try.prog 32 #[.int .i64 n, .int .i64 d] w fun e w' => e = .returned (.agg #[.int .i64 (Fr.mkN n d), .int .i64 (Fr.mkD n d)]) ∧ Below w.heap.size w w' := by
  have hg := Fr.g_pos n d (by omega)
  have hg' := Fr.g_le n d (by omega)
  have hne : (Fr.g n d == 0) = false := by simp; omega
  have e1 := mkN_pos n d hd0
  have e2 := mkD_pos n d hd0
  have e3 := wrap_mkN n d hn0 hn1
  have hd2 : ¬ d < 0 := by omega
  go_enter Try.func32, Try.ntmps32
  go_wp2_with (go_at_call 54; refine (sgcd_any _ _ _ (by omega) (by omega) (by omega) (by omega)).mono ?_; rintro e w' ⟨rfl, rfl⟩)
  go_region
  go_wp2
  exact bodyPost_ret (v := .agg #[.int .i64 (Fr.mkN n d), .int .i64 (Fr.mkD n d)]) (by simp [results, Try.results32, go_sem]) rfl ⟨rfl, ((Below.refl _ _).alloc (Nat.le_refl _) _).drew⟩

theorem make_any (n d : Int) (w : World) (hn0 : -4000000000000000000 ≤ n) (hn1 : n ≤ 4000000000000000000) (hd0 : -4000000000000000000 ≤ d) (hd1 : d ≤ 4000000000000000000) (h : d ≠ 0) :
    Calls Try.prog 32 #[.int .i64 n, .int .i64 d] w fun e w' => e = .returned (.agg #[.int .i64 (Fr.mkN n d), .int .i64 (Fr.mkD n d)]) ∧ Below w.heap.size w w' := by
  by_cases hd : d < 0
  · exact make_neg n d w hn0 hn1 hd0 hd
  · exact make_pos n d w hn0 hn1 (by omega) hd1

set_option maxHeartbeats 400000 in
theorem sgood_n1 (n d : Int) (w : World) (h : n < -1000000000 ∨ 1000000000 < n) :
    Calls Try.prog 78 #[.agg #[.int .i64 n, .int .i64 d]] w fun e w' => e = .returned (.bool false) ∧ Below w.heap.size w w' := by
  have H := hide h
  clear h
  go_enter Try.func78, Try.ntmps78
  go_wp2_with (go_at_call 60; refine (in_no H.out).mono ?_; rintro e w' ⟨rfl, rfl⟩)
  go_ret
  exact ⟨rfl, (Below.refl _ _).alloc (Nat.le_refl _) _⟩

set_option maxHeartbeats 400000 in
theorem sgood_n2 (n d : Int) (w : World) (h0 : -1000000000 ≤ n) (h1 : n ≤ 1000000000) (h : d < 1 ∨ 1000000000 < d) :
    Calls Try.prog 78 #[.agg #[.int .i64 n, .int .i64 d]] w fun e w' => e = .returned (.bool false) ∧ Below w.heap.size w w' := by
  have H := hide h
  clear h
  go_enter Try.func78, Try.ntmps78
  go_wp2_with fail
  refine (in_yes h0 h1).mono ?_
  rintro e w' ⟨rfl, rfl⟩
  go_wp2_with fail
  refine (in_no H.out).mono ?_
  rintro e w' ⟨rfl, rfl⟩
  go_wp2_with fail
  go_ret
  exact ⟨rfl, (Below.refl _ _).alloc (Nat.le_refl _) _⟩

set_option maxHeartbeats 400000 in
theorem sgood_y (n d : Int) (w : World) (h0 : -1000000000 ≤ n) (h1 : n ≤ 1000000000) (h2 : 1 ≤ d) (h3 : d ≤ 1000000000) :
    Calls Try.prog 78 #[.agg #[.int .i64 n, .int .i64 d]] w fun e w' => e = .returned (.bool (Fr.g n d == 1)) ∧ Below w.heap.size w w' := by
  go_enter Try.func78, Try.ntmps78
  go_wp2_with fail
  refine (in_yes h0 h1).mono ?_
  rintro e w' ⟨rfl, rfl⟩
  go_wp2_with fail
  refine (in_yes h2 h3).mono ?_
  rintro e w' ⟨rfl, rfl⟩
  go_wp2_with fail
  refine (sgcd_any n d _ (by omega) (by omega) (by omega) (by omega)).mono ?_
  rintro e w' ⟨rfl, rfl⟩
  go_wp2_with fail
  go_ret
  exact ⟨rfl, (Below.refl _ _).alloc (Nat.le_refl _) _⟩

theorem sgood_any (n d : Int) (w : World) :
    Calls Try.prog 78 #[.agg #[.int .i64 n, .int .i64 d]] w fun e w' => e = .returned (.bool (Fr.goodB n d)) ∧ Below w.heap.size w w' := by
  by_cases h1 : -1000000000 ≤ n ∧ n ≤ 1000000000
  · by_cases h2 : 1 ≤ d ∧ d ≤ 1000000000
    · have e : Fr.goodB n d = (Fr.g n d == 1) := by rw [Bool.eq_iff_iff, Fr.goodB_iff]; simp; omega
      rw [e]; exact sgood_y n d w h1.1 h1.2 h2.1 h2.2
    · have e : Fr.goodB n d = false := by unfold Fr.goodB; simp; omega
      rw [e]; exact sgood_n2 n d w h1.1 h1.2 (by omega)
  · have e : Fr.goodB n d = false := by unfold Fr.goodB; simp; omega
    rw [e]; exact sgood_n1 n d w (by omega)
theorem sgood_yes {n d : Int} {w : World} (h : Fr.goodB n d = true) :
    Calls Try.prog 78 #[.agg #[.int .i64 n, .int .i64 d]] w fun e w' => e = .returned (.bool true) ∧ Below w.heap.size w w' := by have := sgood_any n d w; rwa [h] at this
theorem sgood_no {n d : Int} {w : World} (h : Fr.goodB n d = false) :
    Calls Try.prog 78 #[.agg #[.int .i64 n, .int .i64 d]] w fun e w' => e = .returned (.bool false) ∧ Below w.heap.size w w' := by have := sgood_any n d w; rwa [h] at this
end Go.Proofs.Ytlbagigghpiifaa
