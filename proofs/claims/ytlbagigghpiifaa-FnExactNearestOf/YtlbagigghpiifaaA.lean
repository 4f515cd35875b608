/-
  What the small functions of chapter 1 answer (the program's and the model's): isPart, greatestDivisor, lowestTerms; l1In, l1Abs, l1Gcd, l1Make.
-/
import Derived.Test.YtlbagigghpiifaaRows
import Derived.Test.YtlbagigghpiifaaMath
import Derived.WalkKit
import Derived.WalkSpells
import Derived.WalkLawsBesides
import Derived.Deep.QuietTactic
import Derived.BigQuiet
import Derived.Laws.StructEq
namespace Go.Proofs.Ytlbagigghpiifaa
open Go.RowKit

theorem frac_held : Try.prog.stoodInHeld 30 = false := by kernel_rfl
theorem frac_guard : Try.prog.eqGuardType Try.prog.depth 30 = false := by kernel_rfl
theorem frac_struct : Try.prog.underlying 30 = some (.struct (Try.prog.fieldsOf 30)) := by kernel_rfl
theorem frac_eq (a b c d : Int) (w : World) : (binOp .eql 30 (.agg #[.int .i64 a, .int .i64 b]) (.agg #[.int .i64 c, .int .i64 d])).run Try.prog w = .ok (.bool (a == c && b == d)) w := by
  have u3 := Try.underlying3
  have a3 := Try.isAgg3
  have z3 := Try.sizeOf3
  rw [run_eql_struct, show (10000 : Nat) = 9999 + 1 from rfl, run_equalIn_agg w 9999 30 _ _ frac_struct frac_held]
  simp only [Program.fieldsOf, Try.underlying30]
  go_simp
  by_cases h1 : a = c <;> by_cases h2 : b = d <;> simp [h1, h2]
theorem frac_neq (a b c d : Int) (w : World) : (binOp .neq 30 (.agg #[.int .i64 a, .int .i64 b]) (.agg #[.int .i64 c, .int .i64 d])).run Try.prog w = .ok (.bool (!(a == c && b == d))) w := by
  have u3 := Try.underlying3
  have a3 := Try.isAgg3
  have z3 := Try.sizeOf3
  rw [run_neq_struct, show (10000 : Nat) = 9999 + 1 from rfl, run_equalIn_agg w 9999 30 _ _ frac_struct frac_held]
  simp only [Program.fieldsOf, Try.underlying30]
  go_simp
  by_cases h1 : a = c <;> by_cases h2 : b = d <;> simp [h1, h2]
theorem frac_eqg (x y : Operand) (a b c d : Int) (w : World) : (eqGuard .eql 30 x y (.agg #[.int .i64 a, .int .i64 b]) (.agg #[.int .i64 c, .int .i64 d])).run Try.prog w = .ok () w := run_eqGuard_agg w _ _ _ _ _ _ frac_guard
theorem frac_neqg (x y : Operand) (a b c d : Int) (w : World) : (eqGuard .neq 30 x y (.agg #[.int .i64 a, .int .i64 b]) (.agg #[.int .i64 c, .int .i64 d])).run Try.prog w = .ok () w := run_eqGuard_agg w _ _ _ _ _ _ frac_guard

set_option maxHeartbeats 400000 in
theorem isPart_any (n : Int) (w : World) :
    Calls Try.prog 79 #[.int .i64 n] w fun e w' => e = .returned (.bool (Fr.partB n)) ∧ w' = w := by
  by_cases h1 : -1000000000 ≤ n
  · by_cases h2 : n ≤ 1000000000
    · have hv : Fr.partB n = true := by unfold Fr.partB; simp [h1, h2]
      rw [hv]; clear hv
      go_enter Try.func79, Try.ntmps79
      go_wp2
      go_ret
      exact ⟨rfl, rfl⟩
    · have hv : Fr.partB n = false := by unfold Fr.partB; simp [h2]
      rw [hv]; clear hv
      go_enter Try.func79, Try.ntmps79
      go_wp2
      go_ret
      exact ⟨rfl, rfl⟩
  · have hv : Fr.partB n = false := by unfold Fr.partB; simp [h1]
    rw [hv]; clear hv
    go_enter Try.func79, Try.ntmps79
    go_wp2
    go_ret
    exact ⟨rfl, rfl⟩

theorem isPart_yes {n : Int} {w : World} (h : Fr.partB n = true) : Calls Try.prog 79 #[.int .i64 n] w fun e w' => e = .returned (.bool true) ∧ w' = w := by have := isPart_any n w; rwa [h] at this
theorem isPart_no {n : Int} {w : World} (h : Fr.partB n = false) : Calls Try.prog 79 #[.int .i64 n] w fun e w' => e = .returned (.bool false) ∧ w' = w := by have := isPart_any n w; rwa [h] at this

theorem World.drewN_drew (w : World) (k : Nat) : (w.drewN k).drew = w.drewN (k + 1) := rfl
theorem hide {p : Prop} (h : p) : Hid p := h
theorem ret_bool {a b : Bool} (h : a = b) : Ending.returned (.bool a) = .returned (.bool b) := by rw [h]
theorem ret_int {k : IntKind} {a b : Int} (h : a = b) : Ending.returned (.int k a) = .returned (.int k b) := by rw [h]

set_option maxHeartbeats 400000 in
theorem gcd_any (a b : Int) (w : World) (ha : a.natAbs ≤ 4000000000000000000) (hb : b.natAbs ≤ 4000000000000000000) :
    Calls Try.prog 75 #[.int .i64 a, .int .i64 b] w fun e w' => e = .returned (.int .i64 (Fr.g a b)) ∧ ∃ k, w' = w.drewN k := by
  go_enter Try.func75, Try.ntmps75
  go_wp2
  go_loopw [0, 1] (fun s t wr => ∃ x y : Int, s = .int .i64 x ∧ t = .int .i64 y ∧ -4000000000000000000 ≤ x ∧ x ≤ 4000000000000000000 ∧ -4000000000000000000 ≤ y ∧ y ≤ 4000000000000000000 ∧ Hid (Fr.g x y = Fr.g a b) ∧ ∃ k, wr = w.drewN k) (fun _ t _ => (intOf t).natAbs)
  case atStart => exact ⟨a, b, rfl, rfl, by omega, by omega, by omega, by omega, hide rfl, 0, rfl⟩
  case round =>
    obtain ⟨x, y, rfl, rfl, hx0, hx1, hy0, hy1, hg, k, rfl⟩ := hrel
    by_cases h0 : y = 0
    · subst h0
      by_cases hx : x < 0
      · go_wp2
        go_ret
        exact ⟨ret_int (by have := hg.out; rw [Fr.g_zero] at this; omega), k, rfl⟩
      · go_wp2
        go_ret
        exact ⟨ret_int (by have := hg.out; rw [Fr.g_zero] at this; omega), k, rfl⟩
    · have hne : (y == 0) = false := by simpa using h0
      have hne' : (y != 0) = true := by simpa using h0
      go_wp2
      go_region
      have hm := Fr.tmod_lt x y h0
      have hgs := Fr.g_step x y
      clear hne hne'
      go_wp2
      go_roundw
      case rel => exact ⟨y, x.tmod y, rfl, rfl, hy0, hy1, by omega, by omega, hide (hgs.trans hg.out), k + 1, rfl⟩
      case measure => simp only [intOf]; omega

theorem wrap_id (a : Int) (h0 : -9000000000000000000 ≤ a) (h1 : a ≤ 9000000000000000000) : wrap64 a = a := by unfold wrap64; omega
theorem wrap_id' (a : Int) (h0 : -9223372036854775808 ≤ a) (h1 : a ≤ 9223372036854775807) : wrap64 a = a := by unfold wrap64; omega
theorem wrap_mul (x y : Int) (hx0 : -1000000000 ≤ x) (hx1 : x ≤ 1000000000) (hy0 : -1000000000 ≤ y) (hy1 : y ≤ 1000000000) : wrap64 (x * y) = x * y := by
  have := Fr.mul_bd x y hx0 hx1 hy0 hy1
  exact wrap_id _ (by omega) (by omega)
theorem mkN_neg (n d : Int) (h0 : -4000000000000000000 ≤ n) (h1 : n ≤ 4000000000000000000) (hd : d < 0) : wrap64 (-n.tdiv (Fr.g (-n) (-d))) = Fr.mkN n d := by
  have := Fr.tdiv_abs n (Fr.g (-n) (-d))
  rw [wrap_id _ (by omega) (by omega)]
  unfold Fr.mkN; rw [if_pos hd, Fr.g_neg, Int.neg_tdiv]
theorem mkD_neg (n d : Int) (h0 : -4000000000000000000 ≤ d) (hd : d < 0) : wrap64 (-d.tdiv (Fr.g (-n) (-d))) = Fr.mkD n d := by
  have := Fr.tdiv_abs d (Fr.g (-n) (-d))
  rw [wrap_id _ (by omega) (by omega)]
  unfold Fr.mkD; rw [if_pos hd, Fr.g_neg, Int.neg_tdiv]
theorem mkN_pos (n d : Int) (hd : 0 < d) : n.tdiv (Fr.g n d) = Fr.mkN n d := by
  unfold Fr.mkN; rw [if_neg (by omega)]
theorem wrap_mkN (n d : Int) (h0 : -4000000000000000000 ≤ n) (h1 : n ≤ 4000000000000000000) : wrap64 (Fr.mkN n d) = Fr.mkN n d := by
  have := Fr.mkN_abs n d
  exact wrap_id _ (by omega) (by omega)
theorem mkD_pos (n d : Int) (hd : 0 < d) : d / Fr.g n d = Fr.mkD n d := by
  unfold Fr.mkD; rw [if_neg (by omega), Int.tdiv_eq_ediv_of_nonneg (by omega)]

set_option maxHeartbeats 400000 in
theorem lowest_neg (n d : Int) (w : World) (hn0 : -4000000000000000000 ≤ n) (hn1 : n ≤ 4000000000000000000) (hd0 : -4000000000000000000 ≤ d) (hd1 : d < 0) :
    Calls Try.prog 59 #[.int .i64 n, .int .i64 d] w fun e w' => e = .returned (.agg #[.int .i64 (Fr.mkN n d), .int .i64 (Fr.mkD n d)]) ∧ Below w.heap.size w w' := by
  have hg := Fr.g_pos (-n) (-d) (by omega)
  have hg' := Fr.g_le (-n) (-d) (by omega)
  have hne : (Fr.g (-n) (-d) == 0) = false := by simp; omega
  have e1 := mkN_neg n d hn0 hn1 hd1
  have e2 := mkD_neg n d hd0 hd1
  go_enter Try.func59, Try.ntmps59
  go_wp2_with (go_at_call 75; refine (gcd_any _ _ _ (by omega) (by omega)).mono ?_; rintro e w' ⟨rfl, k, rfl⟩)
  go_region
  go_wp2
  exact bodyPost_ret (v := .agg #[.int .i64 (Fr.mkN n d), .int .i64 (Fr.mkD n d)]) (by simp [results, Try.results59, go_sem]) rfl ⟨rfl, ((((Below.refl _ _).alloc (Nat.le_refl _) _).trans (below_drewN (Below.refl _ _) _)).setCell (by simp) _).setCell (by simp) _⟩

set_option maxHeartbeats 400000 in
theorem lowest_pos (n d : Int) (w : World) (hn0 : -4000000000000000000 ≤ n) (hn1 : n ≤ 4000000000000000000) (hd0 : 0 < d) (hd1 : d ≤ 4000000000000000000) :
    Calls Try.prog 59 #[.int .i64 n, .int .i64 d] w fun e w' => e = .returned (.agg #[.int .i64 (Fr.mkN n d), .int .i64 (Fr.mkD n d)]) ∧ Below w.heap.size w w' := by
  have hg := Fr.g_pos n d (by omega)
  have hg' := Fr.g_le n d (by omega)
  have hne : (Fr.g n d == 0) = false := by simp; omega
  have e1 := mkN_pos n d hd0
  have e2 := mkD_pos n d hd0
  have e3 := wrap_mkN n d hn0 hn1
  have hd2 : ¬ d < 0 := by omega
  go_enter Try.func59, Try.ntmps59
  go_wp2_with (go_at_call 75; refine (gcd_any _ _ _ (by omega) (by omega)).mono ?_; rintro e w' ⟨rfl, k, rfl⟩)
  go_region
  go_wp2
  exact bodyPost_ret (v := .agg #[.int .i64 (Fr.mkN n d), .int .i64 (Fr.mkD n d)]) (by simp [results, Try.results59, go_sem]) rfl ⟨rfl, ((((Below.refl _ _).alloc (Nat.le_refl _) _).trans (below_drewN (Below.refl _ _) _)).setCell (by simp) _).setCell (by simp) _⟩

theorem lowest_any (n d : Int) (w : World) (hn0 : -4000000000000000000 ≤ n) (hn1 : n ≤ 4000000000000000000) (hd0 : -4000000000000000000 ≤ d) (hd1 : d ≤ 4000000000000000000) (h : d ≠ 0) :
    Calls Try.prog 59 #[.int .i64 n, .int .i64 d] w fun e w' => e = .returned (.agg #[.int .i64 (Fr.mkN n d), .int .i64 (Fr.mkD n d)]) ∧ Below w.heap.size w w' := by
  by_cases hd : d < 0
  · exact lowest_neg n d w hn0 hn1 hd0 hd
  · exact lowest_pos n d w hn0 hn1 (by omega) hd1
end Go.Proofs.Ytlbagigghpiifaa
