/-
  What RootBounds answers, the program's and the model's.
-/
import Derived.Test.YtmhednkbpniphaaXo
namespace Go.Proofs.Ytmhednkbpniphaa
open Go.RowKit

theorem npp_bd {n p : Int} (h0 : 0 ≤ n) (h1 : n ≤ 1000000000000) (p0 : 1 ≤ p) (p1 : p ≤ 1000) : (0 ≤ n * p ∧ n * p ≤ 1000000000000000) ∧ 0 ≤ n * p * p ∧ n * p * p ≤ 1000000000000000000 := by
  have a0 : 0 ≤ n * p := Int.mul_nonneg h0 (by omega)
  have a1 : n * p ≤ 1000000000000 * 1000 := Int.mul_le_mul h1 p1 (by omega) (by omega)
  have b0 : 0 ≤ n * p * p := Int.mul_nonneg a0 (by omega)
  have b1 : n * p * p ≤ 1000000000000 * 1000 * 1000 := Int.mul_le_mul a1 p1 (by omega) (by omega)
  omega
theorem wrap_np {n p : Int} (h0 : 0 ≤ n) (h1 : n ≤ 1000000000000) (p0 : 1 ≤ p) (p1 : p ≤ 1000) : wrap64 (n * p) = n * p ∧ wrap64 (n * p * p) = n * p * p := by
  obtain ⟨⟨a, b⟩, c, d⟩ := npp_bd h0 h1 p0 p1
  exact ⟨wrap_id _ (by omega) (by omega), wrap_id _ (by omega) (by omega)⟩
theorem bel_call {B W W' : World} (h : Below B.heap.size B W) (hb : Below W.heap.size W W') : Below B.heap.size B W' := h.trans (hb.mono h.size)
theorem bel_alloc {B W : World} (h : Below B.heap.size B W) (o : Obj) : Below B.heap.size B (W.alloc o) := h.alloc h.size o
theorem kb_call {w w2 W W' : World} {a b : Int} (h : W.cell? ⟨w2.heap.size, 0, none⟩ = some (.int .i64 a) ∧ W.cell? ⟨w2.heap.size, 1, none⟩ = some (.int .i64 b) ∧ Below w.heap.size w W ∧ w2.heap.size < W.heap.size) (hb : Below W.heap.size W W') (hz : w.heap.size < w2.heap.size) :
    W'.cell? ⟨w2.heap.size, 0, none⟩ = some (.int .i64 a) ∧ W'.cell? ⟨w2.heap.size, 1, none⟩ = some (.int .i64 b) ∧ Below w.heap.size w W' ∧ w2.heap.size < W'.heap.size := by
  obtain ⟨h0, h1, h2, h3⟩ := h
  exact ⟨(hb.cell (p := ⟨w2.heap.size, 0, none⟩) h3).trans h0, (hb.cell (p := ⟨w2.heap.size, 1, none⟩) h3).trans h1, h2.trans (hb.mono (by omega)), Nat.lt_of_lt_of_le h3 hb.size⟩
theorem kb_set {w w2 W : World} {a b : Int} (h : W.cell? ⟨w2.heap.size, 0, none⟩ = some (.int .i64 a) ∧ W.cell? ⟨w2.heap.size, 1, none⟩ = some (.int .i64 b) ∧ Below w.heap.size w W ∧ w2.heap.size < W.heap.size) (hz : w.heap.size < w2.heap.size) (v : Value) (o : Nat) :
    (W.setCell ⟨w.heap.size, o, none⟩ v).cell? ⟨w2.heap.size, 0, none⟩ = some (.int .i64 a) ∧ (W.setCell ⟨w.heap.size, o, none⟩ v).cell? ⟨w2.heap.size, 1, none⟩ = some (.int .i64 b) ∧ Below w.heap.size w (W.setCell ⟨w.heap.size, o, none⟩ v) ∧ w2.heap.size < (W.setCell ⟨w.heap.size, o, none⟩ v).heap.size := by
  obtain ⟨h0, h1, h2, h3⟩ := h
  have hne : ¬ w2.heap.size = w.heap.size := by omega
  have hne' : ¬ w.heap.size = w2.heap.size := by omega
  exact ⟨by simp [go_sem, *], by simp [go_sem, *], h2.setCell (Nat.le_refl _) _, by simpa using h3⟩

set_option maxRecDepth 100000 in
set_option maxHeartbeats 400000 in
theorem rb_no1 {n p : Int} {w : World} (h : Rt.sqB n = false) :
    Calls Try.prog 70 #[.int .i64 n, .int .i64 p] w fun e w' => e = .returned (.tuple #[.agg #[.int .i64 0, .int .i64 0, .int .i64 0, .int .i64 0], .bool false]) ∧ Below w.heap.size w w' := by
  go_enter Try.func70, Try.ntmps70
  go_wp2_with fail
  refine (has_no h).mono ?_
  rintro e w1 ⟨rfl, rfl⟩
  go_wp2_with fail
  exact bodyPost_ret (v := .tuple #[.agg #[.int .i64 0, .int .i64 0, .int .i64 0, .int .i64 0], .bool false]) (by simp [results, Try.results70, go_sem]) rfl ⟨rfl, ((Below.refl _ _).alloc (Nat.le_refl _) _)⟩
set_option maxRecDepth 100000 in
set_option maxHeartbeats 400000 in
theorem rb_no2 {n p : Int} {w : World} (h : Rt.sqB n = true) (hp : p < 1) :
    Calls Try.prog 70 #[.int .i64 n, .int .i64 p] w fun e w' => e = .returned (.tuple #[.agg #[.int .i64 0, .int .i64 0, .int .i64 0, .int .i64 0], .bool false]) ∧ Below w.heap.size w w' := by
  go_enter Try.func70, Try.ntmps70
  go_wp2_with fail
  refine (has_yes h).mono ?_
  rintro e w1 ⟨rfl, rfl⟩
  go_wp2_with fail
  exact bodyPost_ret (v := .tuple #[.agg #[.int .i64 0, .int .i64 0, .int .i64 0, .int .i64 0], .bool false]) (by simp [results, Try.results70, go_sem]) rfl ⟨rfl, ((Below.refl _ _).alloc (Nat.le_refl _) _)⟩
set_option maxRecDepth 100000 in
set_option maxHeartbeats 400000 in
theorem rb_no3 {n p : Int} {w : World} (h : Rt.sqB n = true) (hp : 1000 < p) :
    Calls Try.prog 70 #[.int .i64 n, .int .i64 p] w fun e w' => e = .returned (.tuple #[.agg #[.int .i64 0, .int .i64 0, .int .i64 0, .int .i64 0], .bool false]) ∧ Below w.heap.size w w' := by
  have hp0 : ¬ p < 1 := by omega
  go_enter Try.func70, Try.ntmps70
  go_wp2_with fail
  refine (has_yes h).mono ?_
  rintro e w1 ⟨rfl, rfl⟩
  go_wp2_with fail
  exact bodyPost_ret (v := .tuple #[.agg #[.int .i64 0, .int .i64 0, .int .i64 0, .int .i64 0], .bool false]) (by simp [results, Try.results70, go_sem]) rfl ⟨rfl, ((Below.refl _ _).alloc (Nat.le_refl _) _)⟩
set_option maxRecDepth 100000 in
set_option maxHeartbeats 400000 in
theorem rb_no4 {n p : Int} {w : World} (h : Rt.sqB n = true) (p0 : 1 ≤ p) (p1 : p ≤ 1000) (hq : Rt.sqB (n * p * p) = false) :
    Calls Try.prog 70 #[.int .i64 n, .int .i64 p] w fun e w' => e = .returned (.tuple #[.agg #[.int .i64 0, .int .i64 0, .int .i64 0, .int .i64 0], .bool false]) ∧ Below w.heap.size w w' := by
  obtain ⟨m1, m2⟩ := wrap_np (sqB_bd h).1 (sqB_bd h).2 p0 p1
  have hp0 : ¬ p < 1 := by omega
  have hp1 : ¬ 1000 < p := by omega
  go_enter Try.func70, Try.ntmps70
  go_wp2_with fail
  refine (has_yes h).mono ?_
  rintro e w1 ⟨rfl, rfl⟩
  go_wp2_with fail
  refine (has_no hq).mono ?_
  rintro e w1 ⟨rfl, rfl⟩
  go_wp2_with fail
  exact bodyPost_ret (v := .tuple #[.agg #[.int .i64 0, .int .i64 0, .int .i64 0, .int .i64 0], .bool false]) (by simp [results, Try.results70, go_sem]) rfl ⟨rfl, ((Below.refl _ _).alloc (Nat.le_refl _) _)⟩
set_option maxRecDepth 100000 in
set_option maxHeartbeats 400000 in
theorem rb_met {n p : Int} {w : World} (h : Rt.sqB n = true) (p0 : 1 ≤ p) (p1 : p ≤ 1000) (hq : Rt.sqB (n * p * p) = true) (hs : (Rt.rt (n * p * p) * Rt.rt (n * p * p) == n * p * p) = true) :
    Calls Try.prog 70 #[.int .i64 n, .int .i64 p] w fun e w' => e = .returned (.tuple #[.agg #[.int .i64 (Fr.mkN (Rt.rt (n * p * p)) p), .int .i64 (Fr.mkD (Rt.rt (n * p * p)) p), .int .i64 (Fr.mkN (Rt.rt (n * p * p)) p), .int .i64 (Fr.mkD (Rt.rt (n * p * p)) p)], .bool true]) ∧ Below w.heap.size w w' := by
  obtain ⟨m1, m2⟩ := wrap_np (sqB_bd h).1 (sqB_bd h).2 p0 p1
  obtain ⟨c0, c1⟩ := sqB_bd hq
  obtain ⟨d0, d1⟩ := Rt.rt_bd c0 c1
  obtain ⟨q0, q1⟩ := Rt.sq_bd d0 d1
  generalize hr : Rt.rt (n * p * p) = r at *
  have HR := hide hr
  have HC := hide (And.intro c0 c1)
  have m3 : wrap64 (r * r) = r * r := wrap_id _ (by omega) (by omega)
  have hp0 : ¬ p < 1 := by omega
  have hp1 : ¬ 1000 < p := by omega
  clear q0 q1 hr c0 c1
  go_enter Try.func70, Try.ntmps70
  go_wp2_with fail
  refine (has_yes h).mono ?_
  rintro e w1 ⟨rfl, rfl⟩
  go_wp2_with fail
  refine (has_yes hq).mono ?_
  rintro e w1 ⟨rfl, rfl⟩
  go_wp2_with fail
  refine (whole_root _ _ HC.out.1 HC.out.2).mono ?_
  rintro e w1 ⟨rfl, rfl⟩
  rw [HR.out]
  go_wp2_with fail
  refine (lowest_pos _ _ _ (by omega) (by omega) (by omega) (by omega)).mono ?_
  rintro e w2 ⟨rfl, hb2⟩
  obtain ⟨hc2, hf2⟩ := bcell hb2
  have hz2 : w.heap.size < w2.heap.size := by have := hb2.size; simp at this; omega
  have hx2 : w.heap.size ≠ w2.heap.size := by omega
  go_wp2_with fail
  exact bodyPost_ret (v := .tuple #[.agg #[.int .i64 (Fr.mkN r p), .int .i64 (Fr.mkD r p), .int .i64 (Fr.mkN r p), .int .i64 (Fr.mkD r p)], .bool true]) (by simp [results, Try.results70, go_sem, *]) rfl ⟨rfl, ((((((((Below.refl _ _).alloc (Nat.le_refl _) _).trans (hb2.mono (by simp))).setCell (Nat.le_refl _) _).setCell (Nat.le_refl _) _).setCell (Nat.le_refl _) _).setCell (Nat.le_refl _) _).alloc (by simp; omega) _)⟩
set_option maxRecDepth 100000 in
set_option maxHeartbeats 400000 in
theorem rb_far {n p : Int} {w : World} (h : Rt.sqB n = true) (p0 : 1 ≤ p) (p1 : p ≤ 1000) (hq : Rt.sqB (n * p * p) = true) (hs : (Rt.rt (n * p * p) * Rt.rt (n * p * p) == n * p * p) = false) :
    Calls Try.prog 70 #[.int .i64 n, .int .i64 p] w fun e w' => e = .returned (.tuple #[.agg #[.int .i64 (Fr.mkN (Rt.rt (n * p * p)) p), .int .i64 (Fr.mkD (Rt.rt (n * p * p)) p), .int .i64 (Fr.mkN (Rt.rt (n * p * p) + 1) p), .int .i64 (Fr.mkD (Rt.rt (n * p * p) + 1) p)], .bool true]) ∧ Below w.heap.size w w' := by
  obtain ⟨m1, m2⟩ := wrap_np (sqB_bd h).1 (sqB_bd h).2 p0 p1
  obtain ⟨c0, c1⟩ := sqB_bd hq
  obtain ⟨d0, d1⟩ := Rt.rt_bd c0 c1
  obtain ⟨q0, q1⟩ := Rt.sq_bd d0 d1
  generalize hr : Rt.rt (n * p * p) = r at *
  have HR := hide hr
  have HC := hide (And.intro c0 c1)
  have m3 : wrap64 (r * r) = r * r := wrap_id _ (by omega) (by omega)
  have hp0 : ¬ p < 1 := by omega
  have hp1 : ¬ 1000 < p := by omega
  have m4 : IntKind.i64.wrap (r + 1) = r + 1 := by rw [IntKind.wrap_i64]; omega
  clear q0 q1 hr c0 c1
  go_enter Try.func70, Try.ntmps70
  go_wp2_with fail
  refine (has_yes h).mono ?_
  rintro e w1 ⟨rfl, rfl⟩
  go_wp2_with fail
  refine (has_yes hq).mono ?_
  rintro e w1 ⟨rfl, rfl⟩
  go_wp2_with fail
  refine (whole_root _ _ HC.out.1 HC.out.2).mono ?_
  rintro e w1 ⟨rfl, rfl⟩
  rw [HR.out]
  go_wp2_with fail
  refine (lowest_pos _ _ _ (by omega) (by omega) (by omega) (by omega)).mono ?_
  rintro e w2 ⟨rfl, hb2⟩
  obtain ⟨hc2, hf2⟩ := bcell hb2
  have hz2 : w.heap.size < w2.heap.size := by have := hb2.size; simp at this; omega
  have hx2 : w.heap.size ≠ w2.heap.size := by omega
  have hB2 : Below w.heap.size w w2 := ((Below.refl _ _).alloc (Nat.le_refl _) _).trans (hb2.mono (by simp))
  go_wp2_with fail
  go_region_held3 (fun w' => w'.cell? ⟨w2.heap.size, 0, none⟩ = some (.int .i64 (Fr.mkN r p)) ∧ w'.cell? ⟨w2.heap.size, 1, none⟩ = some (.int .i64 (Fr.mkD r p)) ∧ Below w.heap.size w w' ∧ w2.heap.size < w'.heap.size)
    (first | exact ⟨by simp, by simp, (hB2.alloc (by omega) _).drew, by simp⟩ | assumption | exact kb_call ‹_› (by assumption) hz2 | exact kb_set (kb_set (kb_set (kb_set ‹_› hz2 _ _) hz2 _ _) hz2 _ _) hz2 _ _)
    (first
    | (go_at_call 67; refine (lowest_pos _ _ _ (by omega) (by omega) (by omega) (by omega)).mono ?_; rintro e w3 ⟨rfl, hb⟩; obtain ⟨hc, hf⟩ := bcell hb))
  obtain ⟨_, _, hB, hz3⟩ := ‹_ ∧ _ ∧ _ ∧ _›
  obtain ⟨hc3, hf3⟩ := bcell (bel_call (bel_alloc hb2 _).drew hb)
  have hx3 : w.heap.size < w3.heap.size := by simpa using Nat.lt_trans hz2 hz3
  clear hc hf hc2 hf2
  go_wp2_with fail
  exact bodyPost_ret (v := .tuple #[.agg #[.int .i64 (Fr.mkN r p), .int .i64 (Fr.mkD r p), .int .i64 (Fr.mkN (r + 1) p), .int .i64 (Fr.mkD (r + 1) p)], .bool true]) (by simp [results, Try.results70, go_sem, hc3]) rfl ⟨rfl, hB⟩


set_option maxRecDepth 100000 in
set_option maxHeartbeats 400000 in
theorem srb_no1 {n p : Int} {w : World} (h : Rt.sqB n = false) :
    Calls Try.prog 54 #[.int .i64 n, .int .i64 p] w fun e w' => e = .returned (.tuple #[.agg #[.int .i64 0, .int .i64 0, .int .i64 0, .int .i64 0], .bool false]) ∧ Below w.heap.size w w' := by
  go_enter Try.func54, Try.ntmps54
  go_wp2_with fail
  refine (sq2_no h).mono ?_
  rintro e w1 ⟨rfl, rfl⟩
  go_wp2_with fail
  exact bodyPost_ret (v := .tuple #[.agg #[.int .i64 0, .int .i64 0, .int .i64 0, .int .i64 0], .bool false]) (by simp [results, Try.results54, go_sem]) rfl ⟨rfl, ((Below.refl _ _).alloc (Nat.le_refl _) _)⟩
set_option maxRecDepth 100000 in
set_option maxHeartbeats 400000 in
theorem srb_no2 {n p : Int} {w : World} (h : Rt.sqB n = true) (hp : p < 1 ∨ 1000 < p) :
    Calls Try.prog 54 #[.int .i64 n, .int .i64 p] w fun e w' => e = .returned (.tuple #[.agg #[.int .i64 0, .int .i64 0, .int .i64 0, .int .i64 0], .bool false]) ∧ Below w.heap.size w w' := by
  have HP := hide hp
  clear hp
  go_enter Try.func54, Try.ntmps54
  go_wp2_with fail
  refine (sq2_yes h).mono ?_
  rintro e w1 ⟨rfl, rfl⟩
  go_wp2_with fail
  refine (in_no HP.out).mono ?_
  rintro e w1 ⟨rfl, rfl⟩
  go_wp2_with fail
  exact bodyPost_ret (v := .tuple #[.agg #[.int .i64 0, .int .i64 0, .int .i64 0, .int .i64 0], .bool false]) (by simp [results, Try.results54, go_sem]) rfl ⟨rfl, ((Below.refl _ _).alloc (Nat.le_refl _) _)⟩
theorem pp_bd {p : Int} (p0 : 1 ≤ p) (p1 : p ≤ 1000) : 1 ≤ p * p ∧ p * p ≤ 1000000 := by
  have := Int.mul_le_mul p0 p0 (by omega) (show 0 ≤ p by omega)
  have := Rt.sq_le (show 0 ≤ p by omega) p1
  omega
theorem div_iff {n p : Int} (h0 : 0 ≤ n) (p0 : 1 ≤ p) (p1 : p ≤ 1000) : (Int.tdiv 1000000000000 (p * p) < n) ↔ Rt.sqB (n * p * p) = false := by
  obtain ⟨a, b⟩ := pp_bd p0 p1
  rw [Int.tdiv_eq_ediv_of_nonneg (by omega)]
  have h1 : n ≤ 1000000000000 / (p * p) ↔ n * (p * p) ≤ 1000000000000 := Int.le_ediv_iff_mul_le (by omega)
  have h2 : 0 ≤ n * (p * p) := Int.mul_nonneg h0 (by omega)
  rw [Int.mul_assoc]
  simp [Rt.sqB]
  omega
set_option maxRecDepth 100000 in
set_option maxHeartbeats 400000 in
theorem srb_no3 {n p : Int} {w : World} (h : Rt.sqB n = true) (p0 : 1 ≤ p) (p1 : p ≤ 1000) (hq : Rt.sqB (n * p * p) = false) :
    Calls Try.prog 54 #[.int .i64 n, .int .i64 p] w fun e w' => e = .returned (.tuple #[.agg #[.int .i64 0, .int .i64 0, .int .i64 0, .int .i64 0], .bool false]) ∧ Below w.heap.size w w' := by
  obtain ⟨a0, a1⟩ := pp_bd p0 p1
  have hlt := (div_iff (sqB_bd h).1 p0 p1).2 hq
  have hne : (p * p == 0) = false := by simp; omega
  have m1 : wrap64 (p * p) = p * p := wrap_id _ (by omega) (by omega)
  have ha := Fr.tdiv_abs 1000000000000 (p * p)
  have m2 : wrap64 (Int.tdiv 1000000000000 (p * p)) = Int.tdiv 1000000000000 (p * p) := wrap_id _ (by omega) (by omega)
  have m3 : wrap64 (1000000000000 / (p * p)) = 1000000000000 / (p * p) := by rw [← Int.tdiv_eq_ediv_of_nonneg (by omega)]; exact m2
  have hlt' : 1000000000000 / (p * p) < n := by rw [← Int.tdiv_eq_ediv_of_nonneg (by omega)]; exact hlt
  clear ha
  go_enter Try.func54, Try.ntmps54
  go_wp2_with fail
  refine (sq2_yes h).mono ?_
  rintro e w1 ⟨rfl, rfl⟩
  go_wp2_with fail
  refine (in_yes p0 p1).mono ?_
  rintro e w1 ⟨rfl, rfl⟩
  go_wp2_with fail
  exact bodyPost_ret (v := .tuple #[.agg #[.int .i64 0, .int .i64 0, .int .i64 0, .int .i64 0], .bool false]) (by simp [results, Try.results54, go_sem]) rfl ⟨rfl, ((Below.refl _ _).alloc (Nat.le_refl _) _)⟩
set_option maxRecDepth 100000 in
set_option maxHeartbeats 1000000 in
theorem srb_met {n p : Int} {w : World} (h : Rt.sqB n = true) (p0 : 1 ≤ p) (p1 : p ≤ 1000) (hq : Rt.sqB (n * p * p) = true) (hs : (Rt.rt (n * p * p) * Rt.rt (n * p * p) == n * p * p) = true) :
    Calls Try.prog 54 #[.int .i64 n, .int .i64 p] w fun e w' => e = .returned (.tuple #[.agg #[.int .i64 (Fr.mkN (Rt.rt (n * p * p)) p), .int .i64 (Fr.mkD (Rt.rt (n * p * p)) p), .int .i64 (Fr.mkN (Rt.rt (n * p * p)) p), .int .i64 (Fr.mkD (Rt.rt (n * p * p)) p)], .bool true]) ∧ Below w.heap.size w w' := by
  obtain ⟨m1, m2⟩ := wrap_np (sqB_bd h).1 (sqB_bd h).2 p0 p1
  obtain ⟨c0, c1⟩ := sqB_bd hq
  obtain ⟨d0, d1⟩ := Rt.rt_bd c0 c1
  obtain ⟨q0, q1⟩ := Rt.sq_bd d0 d1
  obtain ⟨e0, e1⟩ := pp_bd p0 p1
  have hnl : ¬ 1000000000000 / (p * p) < n := by
    rw [← Int.tdiv_eq_ediv_of_nonneg (by omega), div_iff (sqB_bd h).1 p0 p1, hq]; simp
  have hne : (p * p == 0) = false := by simp; omega
  have ha := Fr.tdiv_abs 1000000000000 (p * p)
  have k1 : wrap64 (p * p) = p * p := wrap_id _ (by omega) (by omega)
  have k2 : wrap64 (Int.tdiv 1000000000000 (p * p)) = Int.tdiv 1000000000000 (p * p) := wrap_id _ (by omega) (by omega)
  have k3 : wrap64 (1000000000000 / (p * p)) = 1000000000000 / (p * p) := by rw [← Int.tdiv_eq_ediv_of_nonneg (by omega)]; exact k2
  generalize hr : Rt.rt (n * p * p) = r at *
  have HR := hide hr
  have HC := hide (And.intro c0 c1)
  have HP := hide (And.intro p0 p1)
  have m3 : wrap64 (r * r) = r * r := wrap_id _ (by omega) (by omega)
  have m4 : IntKind.i64.wrap (r + 1) = r + 1 := by rw [IntKind.wrap_i64]; omega
  clear q0 q1 hr c0 c1 ha
  go_enter Try.func54, Try.ntmps54
  go_wp2_with fail
  refine (sq2_yes h).mono ?_
  rintro e w1 ⟨rfl, rfl⟩
  go_wp2_with fail
  refine (in_yes HP.out.1 HP.out.2).mono ?_
  rintro e w1 ⟨rfl, rfl⟩
  go_wp2_with fail
  refine (sroot_any _ _ HC.out.1 HC.out.2).mono ?_
  rintro e w1 ⟨rfl, rfl⟩
  rw [HR.out]
  go_wp2_with fail
  refine (make_pos _ _ _ (by omega) (by omega) (by omega) (by omega)).mono ?_
  rintro e w2 ⟨rfl, hb2⟩
  go_wp2_with fail
  refine (make_pos _ _ _ (by omega) (by omega) (by omega) (by omega)).mono ?_
  rintro e w3 ⟨rfl, hb3⟩
  have hbb := bel_call hb2 hb3
  obtain ⟨hc3, hf3⟩ := bcell hbb
  have hx3 : w.heap.size < w3.heap.size := by have := hbb.size; simp at this; omega
  go_wp2_with fail
  exact bodyPost_ret (v := .tuple #[.agg #[.int .i64 (Fr.mkN r p), .int .i64 (Fr.mkD r p), .int .i64 (Fr.mkN (r) p), .int .i64 (Fr.mkD (r) p)], .bool true]) (by simp [results, Try.results54, go_sem, hc3, hx3]) rfl ⟨rfl, (((((((Below.refl _ _).alloc (Nat.le_refl _) _).trans (hbb.mono (by simp))).setCell (Nat.le_refl _) _).setCell (Nat.le_refl _) _).setCell (Nat.le_refl _) _).setCell (Nat.le_refl _) _).alloc (by simp; omega) _⟩
set_option maxRecDepth 100000 in
set_option maxHeartbeats 1000000 in
theorem srb_far {n p : Int} {w : World} (h : Rt.sqB n = true) (p0 : 1 ≤ p) (p1 : p ≤ 1000) (hq : Rt.sqB (n * p * p) = true) (hs : (Rt.rt (n * p * p) * Rt.rt (n * p * p) == n * p * p) = false) :
    Calls Try.prog 54 #[.int .i64 n, .int .i64 p] w fun e w' => e = .returned (.tuple #[.agg #[.int .i64 (Fr.mkN (Rt.rt (n * p * p)) p), .int .i64 (Fr.mkD (Rt.rt (n * p * p)) p), .int .i64 (Fr.mkN (Rt.rt (n * p * p) + 1) p), .int .i64 (Fr.mkD (Rt.rt (n * p * p) + 1) p)], .bool true]) ∧ Below w.heap.size w w' := by
  obtain ⟨m1, m2⟩ := wrap_np (sqB_bd h).1 (sqB_bd h).2 p0 p1
  obtain ⟨c0, c1⟩ := sqB_bd hq
  obtain ⟨d0, d1⟩ := Rt.rt_bd c0 c1
  obtain ⟨q0, q1⟩ := Rt.sq_bd d0 d1
  obtain ⟨e0, e1⟩ := pp_bd p0 p1
  have hnl : ¬ 1000000000000 / (p * p) < n := by
    rw [← Int.tdiv_eq_ediv_of_nonneg (by omega), div_iff (sqB_bd h).1 p0 p1, hq]; simp
  have hne : (p * p == 0) = false := by simp; omega
  have ha := Fr.tdiv_abs 1000000000000 (p * p)
  have k1 : wrap64 (p * p) = p * p := wrap_id _ (by omega) (by omega)
  have k2 : wrap64 (Int.tdiv 1000000000000 (p * p)) = Int.tdiv 1000000000000 (p * p) := wrap_id _ (by omega) (by omega)
  have k3 : wrap64 (1000000000000 / (p * p)) = 1000000000000 / (p * p) := by rw [← Int.tdiv_eq_ediv_of_nonneg (by omega)]; exact k2
  generalize hr : Rt.rt (n * p * p) = r at *
  have HR := hide hr
  have HC := hide (And.intro c0 c1)
  have HP := hide (And.intro p0 p1)
  have m3 : wrap64 (r * r) = r * r := wrap_id _ (by omega) (by omega)
  have m4 : IntKind.i64.wrap (r + 1) = r + 1 := by rw [IntKind.wrap_i64]; omega
  clear q0 q1 hr c0 c1 ha
  go_enter Try.func54, Try.ntmps54
  go_wp2_with fail
  refine (sq2_yes h).mono ?_
  rintro e w1 ⟨rfl, rfl⟩
  go_wp2_with fail
  refine (in_yes HP.out.1 HP.out.2).mono ?_
  rintro e w1 ⟨rfl, rfl⟩
  go_wp2_with fail
  refine (sroot_any _ _ HC.out.1 HC.out.2).mono ?_
  rintro e w1 ⟨rfl, rfl⟩
  rw [HR.out]
  go_wp2_with fail
  refine (make_pos _ _ _ (by omega) (by omega) (by omega) (by omega)).mono ?_
  rintro e w2 ⟨rfl, hb2⟩
  go_wp2_with fail
  refine (make_pos _ _ _ (by omega) (by omega) (by omega) (by omega)).mono ?_
  rintro e w3 ⟨rfl, hb3⟩
  have hbb := bel_call hb2 hb3
  obtain ⟨hc3, hf3⟩ := bcell hbb
  have hx3 : w.heap.size < w3.heap.size := by have := hbb.size; simp at this; omega
  go_wp2_with fail
  exact bodyPost_ret (v := .tuple #[.agg #[.int .i64 (Fr.mkN r p), .int .i64 (Fr.mkD r p), .int .i64 (Fr.mkN (r + 1) p), .int .i64 (Fr.mkD (r + 1) p)], .bool true]) (by simp [results, Try.results54, go_sem, hc3, hx3]) rfl ⟨rfl, (((((((Below.refl _ _).alloc (Nat.le_refl _) _).trans (hbb.mono (by simp))).setCell (Nat.le_refl _) _).setCell (Nat.le_refl _) _).setCell (Nat.le_refl _) _).setCell (Nat.le_refl _) _).alloc (by simp; omega) _⟩

/-- Both answer the same bounds, at any two numbers. -/
theorem rb_both (n p : Int) : ∃ (a b c d : Int) (ok : Bool), (∀ w, Calls Try.prog 70 #[.int .i64 n, .int .i64 p] w fun e w' => e = .returned (.tuple #[.agg #[.int .i64 a, .int .i64 b, .int .i64 c, .int .i64 d], .bool ok]) ∧ Below w.heap.size w w') ∧
    (∀ w, Calls Try.prog 54 #[.int .i64 n, .int .i64 p] w fun e w' => e = .returned (.tuple #[.agg #[.int .i64 a, .int .i64 b, .int .i64 c, .int .i64 d], .bool ok]) ∧ Below w.heap.size w w') := by
  cases h : Rt.sqB n
  · exact ⟨0, 0, 0, 0, false, fun _ => rb_no1 h, fun _ => srb_no1 h⟩
  · by_cases p0 : 1 ≤ p
    · by_cases p1 : p ≤ 1000
      · cases hq : Rt.sqB (n * p * p)
        · exact ⟨0, 0, 0, 0, false, fun _ => rb_no4 h p0 p1 hq, fun _ => srb_no3 h p0 p1 hq⟩
        · cases hs : (Rt.rt (n * p * p) * Rt.rt (n * p * p) == n * p * p)
          · exact ⟨_, _, _, _, true, fun _ => rb_far h p0 p1 hq hs, fun _ => srb_far h p0 p1 hq hs⟩
          · exact ⟨_, _, _, _, true, fun _ => rb_met h p0 p1 hq hs, fun _ => srb_met h p0 p1 hq hs⟩
      · exact ⟨0, 0, 0, 0, false, fun _ => rb_no3 h (by omega), fun _ => srb_no2 h (Or.inr (by omega))⟩
    · exact ⟨0, 0, 0, 0, false, fun _ => rb_no2 h (by omega), fun _ => srb_no2 h (Or.inl (by omega))⟩
end Go.Proofs.Ytmhednkbpniphaa
