/-
  What the model of chapter 1 answers: l1Fits, l1Both, l1Add, AddFrac, SubFrac, MulFrac, DivFrac, l1Less, LessFrac, FloorFrac, FracOf.
-/
import Derived.Test.YtlbagigghpiifaaC
import Derived.Test.YtlbagigghpiifaaD
namespace Go.Proofs.Ytlbagigghpiifaa
open Go.RowKit

set_option maxHeartbeats 400000 in
theorem fits_yes (n d : Int) (w : World) (h : Fr.goodB n d = true) :
    Calls Try.prog 71 #[.agg #[.int .i64 n, .int .i64 d]] w fun e w' => e = .returned (.tuple #[.agg #[.int .i64 n, .int .i64 d], .bool true]) ∧ Below w.heap.size w w' := by
  go_enter Try.func71, Try.ntmps71
  go_wp2_with (go_at_call 78; refine (sgood_yes h).mono ?_; rintro e w1 ⟨rfl, hb⟩; obtain ⟨hc, hf⟩ := bcell hb; have hz : w.heap.size + 1 < w1.heap.size := by have := hb.size; simp at this; omega)
  exact bodyPost_ret (v := .tuple #[.agg #[.int .i64 n, .int .i64 d], .bool true]) (by simp [results, Try.results71, go_sem, hc]) rfl ⟨rfl, (((((Below.refl _ _).alloc (Nat.le_refl _) _).alloc (by simp) _).trans (hb.mono (by simp; omega))).setCell (by simp) _).setCell (by simp) _⟩

set_option maxHeartbeats 400000 in
theorem fits_no (n d : Int) (w : World) (h : Fr.goodB n d = false) :
    Calls Try.prog 71 #[.agg #[.int .i64 n, .int .i64 d]] w fun e w' => e = .returned (.tuple #[.agg #[.int .i64 0, .int .i64 0], .bool false]) ∧ Below w.heap.size w w' := by
  go_enter Try.func71, Try.ntmps71
  go_wp2_with (go_at_call 78; refine (sgood_no h).mono ?_; rintro e w1 ⟨rfl, hb⟩; obtain ⟨hc, hf⟩ := bcell hb; have hz : w.heap.size + 1 < w1.heap.size := by have := hb.size; simp at this; omega)
  exact bodyPost_ret (v := .tuple #[.agg #[.int .i64 0, .int .i64 0], .bool false]) (by simp [results, Try.results71, go_sem, hc]) rfl ⟨rfl, (((((Below.refl _ _).alloc (Nat.le_refl _) _).alloc (by simp) _).trans (hb.mono (by simp; omega))).setCell (by simp) _).setCell (by simp) _⟩

theorem fits_any (n d : Int) (w : World) :
    Calls Try.prog 71 #[.agg #[.int .i64 n, .int .i64 d]] w fun e w' => e = .returned (.tuple #[.agg #[.int .i64 (Fr.fitN n d), .int .i64 (Fr.fitD n d)], .bool (Fr.goodB n d)]) ∧ Below w.heap.size w w' := by
  unfold Fr.fitN Fr.fitD
  cases h : Fr.goodB n d
  · simpa using fits_no n d w h
  · simpa using fits_yes n d w h

set_option maxHeartbeats 400000 in
theorem both_n1 (n1 d1 n2 d2 : Int) (w : World) (h1 : Fr.goodB n1 d1 = false) :
    Calls Try.prog 70 #[.agg #[.int .i64 n1, .int .i64 d1], .agg #[.int .i64 n2, .int .i64 d2]] w fun e w' => e = .returned (.bool false) ∧ Below w.heap.size w w' := by
  go_enter Try.func70, Try.ntmps70
  go_wp2_with fail
  refine (sgood_no h1).mono ?_
  rintro e w1 ⟨rfl, hb1⟩
  go_wp2_with fail
  go_ret
  exact ⟨rfl, (((Below.refl _ _).alloc (Nat.le_refl _) _).alloc (by simp) _).trans (hb1.mono (by simp; omega))⟩

set_option maxHeartbeats 400000 in
theorem both_n2 (n1 d1 n2 d2 : Int) (w : World) (h1 : Fr.goodB n1 d1 = true) :
    Calls Try.prog 70 #[.agg #[.int .i64 n1, .int .i64 d1], .agg #[.int .i64 n2, .int .i64 d2]] w fun e w' => e = .returned (.bool (Fr.goodB n2 d2)) ∧ Below w.heap.size w w' := by
  go_enter Try.func70, Try.ntmps70
  go_wp2_with fail
  refine (sgood_yes h1).mono ?_
  rintro e w1 ⟨rfl, hb1⟩
  obtain ⟨hc1, hf1⟩ := bcell hb1
  have hz1 : w.heap.size + 1 < w1.heap.size := by have := hb1.size; simp at this; omega
  go_wp2_with fail
  refine (sgood_any n2 d2 _).mono ?_
  rintro e w2 ⟨rfl, hb2⟩
  go_wp2_with fail
  go_ret
  exact ⟨rfl, ((((Below.refl _ _).alloc (Nat.le_refl _) _).alloc (by simp) _).trans (hb1.mono (by simp; omega))).trans (hb2.mono (by omega))⟩

theorem both_any (n1 d1 n2 d2 : Int) (w : World) :
    Calls Try.prog 70 #[.agg #[.int .i64 n1, .int .i64 d1], .agg #[.int .i64 n2, .int .i64 d2]] w fun e w' => e = .returned (.bool (Fr.goodB n1 d1 && Fr.goodB n2 d2)) ∧ Below w.heap.size w w' := by
  cases h : Fr.goodB n1 d1
  · simpa using both_n1 n1 d1 n2 d2 w h
  · simpa using both_n2 n1 d1 n2 d2 w h
theorem both_yes {n1 d1 n2 d2 : Int} {w : World} (h1 : Fr.goodB n1 d1 = true) (h2 : Fr.goodB n2 d2 = true) :
    Calls Try.prog 70 #[.agg #[.int .i64 n1, .int .i64 d1], .agg #[.int .i64 n2, .int .i64 d2]] w fun e w' => e = .returned (.bool true) ∧ Below w.heap.size w w' := by have := both_any n1 d1 n2 d2 w; rwa [h1, h2] at this
theorem both_no {n1 d1 n2 d2 : Int} {w : World} (h : (Fr.goodB n1 d1 && Fr.goodB n2 d2) = false) :
    Calls Try.prog 70 #[.agg #[.int .i64 n1, .int .i64 d1], .agg #[.int .i64 n2, .int .i64 d2]] w fun e w' => e = .returned (.bool false) ∧ Below w.heap.size w w' := by have := both_any n1 d1 n2 d2 w; rwa [h] at this

set_option maxHeartbeats 800000 in
theorem sadd_any (n1 d1 n2 d2 : Int) (w : World) (a0 : -1000000000 ≤ n1) (a1 : n1 ≤ 1000000000) (a2 : 1 ≤ d1) (a3 : d1 ≤ 1000000000) (b0 : -1000000000 ≤ n2) (b1 : n2 ≤ 1000000000) (b2 : 1 ≤ d2) (b3 : d2 ≤ 1000000000) :
    Calls Try.prog 72 #[.agg #[.int .i64 n1, .int .i64 d1], .agg #[.int .i64 n2, .int .i64 d2]] w fun e w' => e = .returned (.agg #[.int .i64 (Fr.mkN (n1 * d2 + n2 * d1) (d1 * d2)), .int .i64 (Fr.mkD (n1 * d2 + n2 * d1) (d1 * d2))]) ∧ Below w.heap.size w w' := by
  have m1 := wrap_mul n1 d2 (by omega) (by omega) (by omega) (by omega)
  have m2 := wrap_mul n2 d1 (by omega) (by omega) (by omega) (by omega)
  have m3 := wrap_mul d1 d2 (by omega) (by omega) (by omega) (by omega)
  have k1 := Fr.mul_bd n1 d2 (by omega) (by omega) (by omega) (by omega)
  have k2 := Fr.mul_bd n2 d1 (by omega) (by omega) (by omega) (by omega)
  have k3 := Fr.mul_bd d1 d2 (by omega) (by omega) (by omega) (by omega)
  have k4 := Fr.den_pos d1 d2 (by omega) (by omega)
  have m4 : wrap64 (n1 * d2 + n2 * d1) = n1 * d2 + n2 * d1 := wrap_id _ (by omega) (by omega)
  obtain ⟨k10, k11⟩ := k1
  obtain ⟨k20, k21⟩ := k2
  obtain ⟨k30, k31⟩ := k3
  go_enter Try.func72, Try.ntmps72
  go_wp2_with fail
  refine (make_any (n1 * d2 + n2 * d1) (d1 * d2) _ (by omega) (by omega) (by omega) (by omega) (by omega)).mono ?_
  rintro e w1 ⟨rfl, hb1⟩
  obtain ⟨hc1, hf1⟩ := bcell hb1
  have hz1 : w.heap.size + 1 + 1 < w1.heap.size := by have := hb1.size; simp at this; omega
  obtain ⟨hx1, hy1⟩ := lt3 hz1
  go_wp2_with fail
  exact bodyPost_ret (v := .agg #[.int .i64 (Fr.mkN (n1 * d2 + n2 * d1) (d1 * d2)), .int .i64 (Fr.mkD (n1 * d2 + n2 * d1) (d1 * d2))]) (by simp [results, Try.results72, go_sem, hc1]) rfl ⟨rfl, ((((((Below.refl _ _).alloc (Nat.le_refl _) _).alloc (by simp) _).alloc (by simp; omega) _).trans (hb1.mono (by simp; omega))).setCell (by simp; omega) _).setCell (by simp; omega) _⟩

set_option maxHeartbeats 400000 in
theorem sAdd_no (n1 d1 n2 d2 : Int) (w : World) (h : (Fr.goodB n1 d1 && Fr.goodB n2 d2) = false) :
    Calls Try.prog 55 #[.agg #[.int .i64 n1, .int .i64 d1], .agg #[.int .i64 n2, .int .i64 d2]] w fun e w' => e = .returned (.tuple #[.agg #[.int .i64 0, .int .i64 0], .bool false]) ∧ Below w.heap.size w w' := by
  have H := hide h
  clear h
  go_enter Try.func55, Try.ntmps55
  go_wp2_with fail
  refine (both_no H.out).mono ?_
  rintro e w1 ⟨rfl, hb1⟩
  obtain ⟨hc1, hf1⟩ := bcell hb1
  have hz1 : w.heap.size + 1 + 1 < w1.heap.size := by have := hb1.size; simp at this; omega
  obtain ⟨hx1, hy1⟩ := lt3 hz1
  go_wp2_with fail
  exact bodyPost_ret (v := .tuple #[.agg #[.int .i64 0, .int .i64 0], .bool false]) (by simp [results, Try.results55, go_sem, hc1]) rfl ⟨rfl, ((((((Below.refl _ _).alloc (Nat.le_refl _) _).alloc (by simp) _).alloc (by simp; omega) _).trans (hb1.mono (by simp; omega))).setCell (by simp; omega) _).setCell (by simp; omega) _⟩

set_option maxHeartbeats 800000 in
theorem sAdd_yes (n1 d1 n2 d2 : Int) (w : World) (h1 : Fr.goodB n1 d1 = true) (h2 : Fr.goodB n2 d2 = true) :
    Calls Try.prog 55 #[.agg #[.int .i64 n1, .int .i64 d1], .agg #[.int .i64 n2, .int .i64 d2]] w fun e w' => e = .returned (.tuple #[.agg #[.int .i64 (Fr.fitN (Fr.mkN (n1 * d2 + n2 * d1) (d1 * d2)) (Fr.mkD (n1 * d2 + n2 * d1) (d1 * d2))), .int .i64 (Fr.fitD (Fr.mkN (n1 * d2 + n2 * d1) (d1 * d2)) (Fr.mkD (n1 * d2 + n2 * d1) (d1 * d2)))], .bool (Fr.goodB (Fr.mkN (n1 * d2 + n2 * d1) (d1 * d2)) (Fr.mkD (n1 * d2 + n2 * d1) (d1 * d2)))]) ∧ Below w.heap.size w w' := by
  obtain ⟨a0, a1, a2, a3⟩ := Fr.good_bd n1 d1 h1
  obtain ⟨b0, b1, b2, b3⟩ := Fr.good_bd n2 d2 h2
  have u0 := a0
  have H1 := hide h1
  have H2 := hide h2
  clear h1 h2
  go_enter Try.func55, Try.ntmps55
  go_wp2_with fail
  refine (both_yes H1.out H2.out).mono ?_
  rintro e w1 ⟨rfl, hb1⟩
  obtain ⟨hc1, hf1⟩ := bcell hb1
  have hz1 : w.heap.size + 1 + 1 < w1.heap.size := by have := hb1.size; simp at this; omega
  obtain ⟨hx1, hy1⟩ := lt3 hz1
  go_wp2_with fail
  refine (sadd_any n1 d1 n2 d2 _ a0 a1 a2 a3 b0 b1 b2 b3).mono ?_
  rintro e w2 ⟨rfl, hb2⟩
  obtain ⟨hc2, hf2⟩ := bcell hb2
  have hz2 : w.heap.size + 1 + 1 < w2.heap.size := by have := hb2.size; omega
  obtain ⟨hx2, hy2⟩ := lt3 hz2
  go_wp2_with fail
  refine (fits_any (Fr.mkN (n1 * d2 + n2 * d1) (d1 * d2)) (Fr.mkD (n1 * d2 + n2 * d1) (d1 * d2)) _).mono ?_
  rintro e w3 ⟨rfl, hb3⟩
  obtain ⟨hc3, hf3⟩ := bcell hb3
  have hz3 : w.heap.size + 1 + 1 < w3.heap.size := by have := hb3.size; omega
  obtain ⟨hx3, hy3⟩ := lt3 hz3
  go_wp2_with fail
  exact bodyPost_ret (v := .tuple #[.agg #[.int .i64 (Fr.fitN (Fr.mkN (n1 * d2 + n2 * d1) (d1 * d2)) (Fr.mkD (n1 * d2 + n2 * d1) (d1 * d2))), .int .i64 (Fr.fitD (Fr.mkN (n1 * d2 + n2 * d1) (d1 * d2)) (Fr.mkD (n1 * d2 + n2 * d1) (d1 * d2)))], .bool (Fr.goodB (Fr.mkN (n1 * d2 + n2 * d1) (d1 * d2)) (Fr.mkD (n1 * d2 + n2 * d1) (d1 * d2)))]) (by simp [results, Try.results55, go_sem, hc1, hc2, hc3, hz1, hz2]) rfl ⟨rfl, ((((((((Below.refl _ _).alloc (Nat.le_refl _) _).alloc (by simp) _).alloc (by simp; omega) _).trans (hb1.mono (by simp; omega))).trans (hb2.mono (by omega))).trans (hb3.mono (by omega))).setCell (by simp; omega) _).setCell (by simp; omega) _⟩

theorem addF_any (n1 d1 n2 d2 : Int) (w : World) :
    Calls Try.prog 58 #[.agg #[.int .i64 n1, .int .i64 d1], .agg #[.int .i64 n2, .int .i64 d2]] w fun e w' => e = .returned (.tuple #[.agg #[.int .i64 (Fr.addN n1 d1 n2 d2), .int .i64 (Fr.addD n1 d1 n2 d2)], .bool (Fr.addB n1 d1 n2 d2)]) ∧ Below w.heap.size w w' := by
  unfold Fr.addN Fr.addD Fr.addB
  cases h1 : Fr.goodB n1 d1
  · simpa using add_no1 n1 d1 n2 d2 w h1
  · cases h2 : Fr.goodB n2 d2
    · simpa using add_no2 n1 d1 n2 d2 w h1 h2
    · simpa using add_yes n1 d1 n2 d2 w h1 h2
theorem sAddF_any (n1 d1 n2 d2 : Int) (w : World) :
    Calls Try.prog 55 #[.agg #[.int .i64 n1, .int .i64 d1], .agg #[.int .i64 n2, .int .i64 d2]] w fun e w' => e = .returned (.tuple #[.agg #[.int .i64 (Fr.addN n1 d1 n2 d2), .int .i64 (Fr.addD n1 d1 n2 d2)], .bool (Fr.addB n1 d1 n2 d2)]) ∧ Below w.heap.size w w' := by
  unfold Fr.addN Fr.addD Fr.addB
  cases h1 : Fr.goodB n1 d1
  · simpa using sAdd_no n1 d1 n2 d2 w (by rw [h1]; rfl)
  · cases h2 : Fr.goodB n2 d2
    · simpa using sAdd_no n1 d1 n2 d2 w (by rw [h1, h2]; rfl)
    · simpa using sAdd_yes n1 d1 n2 d2 w h1 h2
end Go.Proofs.Ytlbagigghpiifaa
