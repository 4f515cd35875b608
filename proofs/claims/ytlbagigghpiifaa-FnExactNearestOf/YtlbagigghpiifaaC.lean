/-
  What AddFrac, SubFrac, MulFrac, DivFrac of the program answer.
-/
import Derived.Test.YtlbagigghpiifaaB
namespace Go.Proofs.Ytlbagigghpiifaa
open Go.RowKit

theorem lt3 {a b : Nat} (h : a + 1 + 1 < b) : a < b ∧ a + 1 < b := ⟨by omega, by omega⟩
theorem fracs_no (P : Program) (f : FuncId) (args : Array Value) (w : World) (a b : Int) (c : Bool) (ha : a = 0) (hb : b = 0) (hc : c = false)
    (h : Calls P f args w fun e w' => e = .returned (.tuple #[.agg #[.int .i64 0, .int .i64 0], .bool false]) ∧ Below w.heap.size w w') :
    Calls P f args w fun e w' => e = .returned (.tuple #[.agg #[.int .i64 a, .int .i64 b], .bool c]) ∧ Below w.heap.size w w' := by
  subst ha; subst hb; subst hc; exact h

set_option maxHeartbeats 400000 in
theorem add_no1 (n1 d1 n2 d2 : Int) (w : World) (h1 : Fr.goodB n1 d1 = false) :
    Calls Try.prog 58 #[.agg #[.int .i64 n1, .int .i64 d1], .agg #[.int .i64 n2, .int .i64 d2]] w fun e w' => e = .returned (.tuple #[.agg #[.int .i64 0, .int .i64 0], .bool false]) ∧ Below w.heap.size w w' := by
  go_enter Try.func58, Try.ntmps58
  go_wp2_with fail
  refine (good_no h1).mono ?_
  rintro e w1 ⟨rfl, hb1⟩
  obtain ⟨hc1, hf1⟩ := bcell hb1
  have hz1 : w.heap.size + 1 + 1 < w1.heap.size := by have := hb1.size; simp at this; omega
  obtain ⟨hx1, hy1⟩ := lt3 hz1
  go_wp2_with fail
  exact bodyPost_ret (v := .tuple #[.agg #[.int .i64 0, .int .i64 0], .bool false]) (by simp [results, Try.results58, go_sem, hc1]) rfl ⟨rfl, ((((((Below.refl _ _).alloc (Nat.le_refl _) _).alloc (by simp) _).alloc (by simp; omega) _).trans (hb1.mono (by simp; omega))).setCell (by simp; omega) _).setCell (by simp; omega) _⟩

set_option maxHeartbeats 400000 in
theorem add_no2 (n1 d1 n2 d2 : Int) (w : World) (h1 : Fr.goodB n1 d1 = true) (h2 : Fr.goodB n2 d2 = false) :
    Calls Try.prog 58 #[.agg #[.int .i64 n1, .int .i64 d1], .agg #[.int .i64 n2, .int .i64 d2]] w fun e w' => e = .returned (.tuple #[.agg #[.int .i64 0, .int .i64 0], .bool false]) ∧ Below w.heap.size w w' := by
  go_enter Try.func58, Try.ntmps58
  go_wp2_with fail
  refine (good_yes h1).mono ?_
  rintro e w1 ⟨rfl, hb1⟩
  obtain ⟨hc1, hf1⟩ := bcell hb1
  have hz1 : w.heap.size + 1 + 1 < w1.heap.size := by have := hb1.size; simp at this; omega
  obtain ⟨hx1, hy1⟩ := lt3 hz1
  go_wp2_with fail
  refine (good_no h2).mono ?_
  rintro e w2 ⟨rfl, hb2⟩
  obtain ⟨hc2, hf2⟩ := bcell hb2
  have hz2 : w.heap.size + 1 + 1 < w2.heap.size := by have := hb2.size; omega
  obtain ⟨hx2, hy2⟩ := lt3 hz2
  go_wp2_with fail
  exact bodyPost_ret (v := .tuple #[.agg #[.int .i64 0, .int .i64 0], .bool false]) (by simp [results, Try.results58, go_sem, hc1, hc2, hz1]) rfl ⟨rfl, (((((((Below.refl _ _).alloc (Nat.le_refl _) _).alloc (by simp) _).alloc (by simp; omega) _).trans (hb1.mono (by simp; omega))).trans (hb2.mono (by omega))).setCell (by simp; omega) _).setCell (by simp; omega) _⟩

set_option maxHeartbeats 800000 in
theorem add_yes (n1 d1 n2 d2 : Int) (w : World) (h1 : Fr.goodB n1 d1 = true) (h2 : Fr.goodB n2 d2 = true) :
    Calls Try.prog 58 #[.agg #[.int .i64 n1, .int .i64 d1], .agg #[.int .i64 n2, .int .i64 d2]] w fun e w' => e = .returned (.tuple #[.agg #[.int .i64 (Fr.fitN (Fr.mkN (n1 * d2 + n2 * d1) (d1 * d2)) (Fr.mkD (n1 * d2 + n2 * d1) (d1 * d2))), .int .i64 (Fr.fitD (Fr.mkN (n1 * d2 + n2 * d1) (d1 * d2)) (Fr.mkD (n1 * d2 + n2 * d1) (d1 * d2)))], .bool (Fr.goodB (Fr.mkN (n1 * d2 + n2 * d1) (d1 * d2)) (Fr.mkD (n1 * d2 + n2 * d1) (d1 * d2)))]) ∧ Below w.heap.size w w' := by
  obtain ⟨a0, a1, a2, a3⟩ := Fr.good_bd n1 d1 h1
  obtain ⟨b0, b1, b2, b3⟩ := Fr.good_bd n2 d2 h2
  have m1 := wrap_mul n1 d2 (by omega) (by omega) (by omega) (by omega)
  have m2 := wrap_mul n2 d1 (by omega) (by omega) (by omega) (by omega)
  have m3 := wrap_mul d1 d2 (by omega) (by omega) (by omega) (by omega)
  have k1 := Fr.mul_bd n1 d2 (by omega) (by omega) (by omega) (by omega)
  have k2 := Fr.mul_bd n2 d1 (by omega) (by omega) (by omega) (by omega)
  have k3 := Fr.mul_bd d1 d2 (by omega) (by omega) (by omega) (by omega)
  have k4 := Fr.den_pos d1 d2 (by omega) (by omega)
  have m4 : wrap64 (n1 * d2 + n2 * d1) = n1 * d2 + n2 * d1 := wrap_id _ (by omega) (by omega)
  obtain ⟨k10, k11⟩ := k1
  obtain ⟨k20, k21⟩ := k2
  obtain ⟨k30, k31⟩ := k3
  have H1 := hide h1
  have H2 := hide h2
  clear h1 h2
  go_enter Try.func58, Try.ntmps58
  go_wp2_with fail
  refine (good_yes H1.out).mono ?_
  rintro e w1 ⟨rfl, hb1⟩
  obtain ⟨hc1, hf1⟩ := bcell hb1
  have hz1 : w.heap.size + 1 + 1 < w1.heap.size := by have := hb1.size; simp at this; omega
  obtain ⟨hx1, hy1⟩ := lt3 hz1
  go_wp2_with fail
  refine (good_yes H2.out).mono ?_
  rintro e w2 ⟨rfl, hb2⟩
  obtain ⟨hc2, hf2⟩ := bcell hb2
  have hz2 : w.heap.size + 1 + 1 < w2.heap.size := by have := hb2.size; omega
  obtain ⟨hx2, hy2⟩ := lt3 hz2
  go_wp2_with fail
  refine (lowest_any (n1 * d2 + n2 * d1) (d1 * d2) _ (by omega) (by omega) (by omega) (by omega) (by omega)).mono ?_
  rintro e w3 ⟨rfl, hb3⟩
  obtain ⟨hc3, hf3⟩ := bcell hb3
  have hz3 : w.heap.size + 1 + 1 < w3.heap.size := by have := hb3.size; omega
  obtain ⟨hx3, hy3⟩ := lt3 hz3
  go_wp2_with fail
  refine (only_any (Fr.mkN (n1 * d2 + n2 * d1) (d1 * d2)) (Fr.mkD (n1 * d2 + n2 * d1) (d1 * d2)) _).mono ?_
  rintro e w4 ⟨rfl, hb4⟩
  obtain ⟨hc4, hf4⟩ := bcell hb4
  have hz4 : w.heap.size + 1 + 1 < w4.heap.size := by have := hb4.size; omega
  obtain ⟨hx4, hy4⟩ := lt3 hz4
  go_wp2_with fail
  exact bodyPost_ret (v := .tuple #[.agg #[.int .i64 (Fr.fitN (Fr.mkN (n1 * d2 + n2 * d1) (d1 * d2)) (Fr.mkD (n1 * d2 + n2 * d1) (d1 * d2))), .int .i64 (Fr.fitD (Fr.mkN (n1 * d2 + n2 * d1) (d1 * d2)) (Fr.mkD (n1 * d2 + n2 * d1) (d1 * d2)))], .bool (Fr.goodB (Fr.mkN (n1 * d2 + n2 * d1) (d1 * d2)) (Fr.mkD (n1 * d2 + n2 * d1) (d1 * d2)))]) (by simp [results, Try.results58, go_sem, hc1, hc2, hc3, hc4, hz1, hz2, hz3]) rfl ⟨rfl, (((((((((Below.refl _ _).alloc (Nat.le_refl _) _).alloc (by simp) _).alloc (by simp; omega) _).trans (hb1.mono (by simp; omega))).trans (hb2.mono (by omega))).trans (hb3.mono (by omega))).trans (hb4.mono (by omega))).setCell (by simp; omega) _).setCell (by simp; omega) _⟩


end Go.Proofs.Ytlbagigghpiifaa
