/-
  What the small functions of chapter 2 answer, the program's and the model's: hasRoot, wholeRoot (by a float that is put right); l2Square, l2Root (by halving).
-/
import Derived.Test.YtmhednkbpniphaaBase
import Derived.Test.YtmhednkbpniphaaFl
import Derived.Test.YtmhednkbpniphaaRt
import Derived.Laws.FloatArith
import Derived.Laws.Externs
namespace Go.Proofs.Ytmhednkbpniphaa
open Go.RowKit

set_option maxRecDepth 100000 in
set_option maxHeartbeats 400000 in
theorem has_any (n : Int) (w : World) :
    Calls Try.prog 83 #[.int .i64 n] w fun e w' => e = .returned (.bool (Rt.sqB n)) ∧ w' = w := by
  by_cases h1 : 0 ≤ n
  · by_cases h2 : n ≤ 1000000000000
    · have hv : Rt.sqB n = true := by unfold Rt.sqB; simp [h1, h2]
      rw [hv]; clear hv
      go_enter Try.func83, Try.ntmps83
      go_wp2
      go_ret
      exact ⟨rfl, rfl⟩
    · have hv : Rt.sqB n = false := by unfold Rt.sqB; simp [h2]
      rw [hv]; clear hv
      go_enter Try.func83, Try.ntmps83
      go_wp2
      go_ret
      exact ⟨rfl, rfl⟩
  · have hv : Rt.sqB n = false := by unfold Rt.sqB; simp [h1]
    rw [hv]; clear hv
    go_enter Try.func83, Try.ntmps83
    go_wp2
    go_ret
    exact ⟨rfl, rfl⟩
theorem has_yes {n : Int} {w : World} (h : Rt.sqB n = true) : Calls Try.prog 83 #[.int .i64 n] w fun e w' => e = .returned (.bool true) ∧ w' = w := by have := has_any n w; rwa [h] at this
theorem has_no {n : Int} {w : World} (h : Rt.sqB n = false) : Calls Try.prog 83 #[.int .i64 n] w fun e w' => e = .returned (.bool false) ∧ w' = w := by have := has_any n w; rwa [h] at this

theorem sqrt_entry (args : Array Value) (w : World) : (callFunc 89 args).run Try.prog w = ((Extern.MathSqrt.sqrt args).run Try.prog w).andThen fun v w' => .ok (.value v) w' :=
  run_callFunc_extern Try.func89 (by kernel_rfl) (by kernel_rfl) (by kernel_rfl) (by kernel_rfl) args w
theorem sqrt_run {x s : Nat} (h : FloatKind.f64.format.sqrt x = some s) (w : World) : (callFunc 89 #[.float .f64 x]).run Try.prog w = .ok (.value (.float .f64 s)) w := by
  have hv : Extern.MathSqrt.sqrt #[.float .f64 x] = pure (.float .f64 s) := by
    show (match FloatKind.f64.format.sqrt x with | some r => (pure (.float .f64 r) : Sem Value) | none => do pure (.float .f64 (← choose (.nanBits .f64 x x)))) = _
    rw [h]
  rw [sqrt_entry, hv]
  simp [Result.andThen]
set_option maxRecDepth 100000 in
set_option maxHeartbeats 400000 in
theorem Sqrt_any {x s : Nat} (h : FloatKind.f64.format.sqrt x = some s) (w : World) :
    Calls Try.prog 85 #[.float .f64 x] w fun e w' => e = .returned (.float .f64 s) ∧ w' = w := by
  have q := fun w => sqrt_run h w
  clear h
  go_enter Try.func85, Try.ntmps85
  go_wp2
  go_ret
  exact ⟨rfl, rfl⟩

theorem i64_min : IntKind.i64.min = -9223372036854775808 := by decide
theorem i64_max : IntKind.i64.max = 9223372036854775807 := by decide
set_option maxRecDepth 100000 in
set_option maxHeartbeats 1000000 in
theorem whole_root (n : Int) (w : World) (h0 : 0 ≤ n) (h1 : n ≤ 1000000000000) :
    Calls Try.prog 75 #[.int .i64 n] w fun e w' => e = .returned (.int .i64 (Rt.rt n)) ∧ w' = w := by
  obtain ⟨s, r, hs, hr, hr0, hr1⟩ := Fl.root_some n h0 h1
  have HS := hide hs
  have HR := hide (show floatToIntVal .f64 s .i64 = some r by unfold floatToIntVal; rw [hr]; exact if_pos ⟨by rw [i64_min]; omega, by rw [i64_max]; omega⟩)
  clear hs hr
  have qc := fun w' => run_convert_float_int (P := Try.prog) w' 86 3 .f64 .i64 s r (by kernel_rfl) Try.underlying3 HR.out
  go_enter Try.func75, Try.ntmps75
  go_wp2_with fail
  refine (Sqrt_any HS.out _).mono ?_
  rintro e w1 ⟨rfl, hw⟩
  obtain rfl : w = w1 := hw.symm
  go_wp2_with fail
  clear qc
  go_loop [3] (fun s => ∃ x : Int, s = .int .i64 x ∧ 0 ≤ x ∧ x ≤ 16777216) (fun s => (intOf s).toNat)
  case atStart => exact ⟨r, rfl, hr0, hr1⟩
  case round =>
    obtain ⟨x, rfl, hx0, hx1⟩ := hrel
    obtain ⟨hq0, hq1⟩ := Rt.sq_bd hx0 hx1
    have m1 : wrap64 (x * x) = x * x := wrap_id _ (by omega) (by omega)
    by_cases hgt : n < x * x
    · have hx2 : 1 ≤ x := by
        by_cases hz : x = 0
        · subst hz; omega
        · omega
      clear hq0 hq1
      go_wp2_with fail
      go_round
      case rel => exact ⟨x - 1, by go_num, by omega, by omega⟩
      case measure => simp only [intOf]; omega
    · have HQ := hide (show x * x ≤ n by omega)
      clear hq0 hq1
      go_wp2_with fail
      go_loop [3] (fun s => ∃ x : Int, s = .int .i64 x ∧ 0 ≤ x ∧ x ≤ 1000000 ∧ Hid (x * x ≤ n)) (fun s => (1000001 - intOf s).toNat)
      case atStart => exact ⟨x, rfl, hx0, Rt.le_root h1 HQ.out, HQ⟩
      case round =>
        clear m1 HQ hgt hx0 hx1
        obtain ⟨x, rfl, hx0, hx1, HQ⟩ := hrel
        obtain ⟨hq0, hq1⟩ := Rt.sq_bd (r := x + 1) (b := 1000001) (by omega) (by omega)
        have m1 : wrap64 ((x + 1) * (x + 1)) = (x + 1) * (x + 1) := wrap_id _ (by omega) (by omega)
        by_cases hle : (x + 1) * (x + 1) ≤ n
        · have HL := hide (Rt.le_root h1 hle)
          have HQ' := hide hle
          clear hq0 hq1
          go_wp2_with fail
          go_round
          case rel => exact ⟨x + 1, by go_num, by omega, HL.out, HQ'⟩
          case measure => simp only [intOf]; omega
        · have HN := hide (Rt.rt_uniq hx0 HQ.out (by omega))
          clear hq0 hq1
          go_wp2_with fail
          go_ret
          exact ⟨ret_int HN.out, rfl⟩

set_option maxRecDepth 100000 in
set_option maxHeartbeats 400000 in
theorem sq2_yes {n : Int} {w : World} (h : Rt.sqB n = true) :
    Calls Try.prog 77 #[.int .i64 n] w fun e w' => e = .returned (.bool true) ∧ w' = w := by
  have h' : 0 ≤ n ∧ n ≤ 1000000000000 := by simpa [Rt.sqB] using h
  go_enter Try.func77, Try.ntmps77
  go_wp2_with fail
  refine (in_yes h'.1 h'.2).mono ?_
  rintro e w1 ⟨rfl, rfl⟩
  go_wp2_with fail
  go_ret
  exact ⟨rfl, rfl⟩
set_option maxRecDepth 100000 in
set_option maxHeartbeats 400000 in
theorem sq2_no {n : Int} {w : World} (h : Rt.sqB n = false) :
    Calls Try.prog 77 #[.int .i64 n] w fun e w' => e = .returned (.bool false) ∧ w' = w := by
  have h' : n < 0 ∨ 1000000000000 < n := by simp [Rt.sqB] at h; omega
  go_enter Try.func77, Try.ntmps77
  go_wp2_with fail
  refine (in_no h').mono ?_
  rintro e w1 ⟨rfl, rfl⟩
  go_wp2_with fail
  go_ret
  exact ⟨rfl, rfl⟩

set_option maxRecDepth 100000 in
set_option maxHeartbeats 1000000 in
theorem sroot_any (n : Int) (w : World) (h0 : 0 ≤ n) (h1 : n ≤ 1000000000000) :
    Calls Try.prog 50 #[.int .i64 n] w fun e w' => e = .returned (.int .i64 (Rt.rt n)) ∧ w' = w := by
  go_enter Try.func50, Try.ntmps50
  go_wp2_with fail
  go_loop [3, 4] (fun s t => ∃ x y : Int, s = .int .i64 x ∧ t = .int .i64 y ∧ 0 ≤ x ∧ x < y ∧ y ≤ 1000001 ∧ Hid (x * x ≤ n) ∧ Hid (n < y * y)) (fun s t => (intOf t - intOf s).toNat)
  case atStart => exact ⟨0, 1000001, rfl, rfl, by omega, by omega, by omega, hide (by omega), hide (by omega)⟩
  case round =>
    obtain ⟨x, y, rfl, rfl, hx0, hxy, hy1, HX, HY⟩ := hrel
    by_cases hgt : 1 < y - x
    · have hm0 : x < (x + y) / 2 := by omega
      have hm1 : (x + y) / 2 < y := by omega
      have hdv : (x + y).tdiv 2 = (x + y) / 2 := Int.tdiv_eq_ediv_of_nonneg (by omega)
      generalize hm : (x + y) / 2 = m at *
      obtain ⟨hq0, hq1⟩ := Rt.sq_bd (r := m) (b := 1000001) (by omega) (by omega)
      have m1 : wrap64 (m * m) = m * m := wrap_id _ (by omega) (by omega)
      by_cases hle : m * m ≤ n
      · have HL := hide hle
        clear hq0 hq1
        go_wp2_with fail
        go_round
        case rel => exact ⟨m, y, rfl, rfl, by omega, by omega, by omega, HL, HY⟩
        case measure => simp only [intOf]; omega
      · have HL := hide (show n < m * m by omega)
        clear hq0 hq1
        go_wp2_with fail
        go_round
        case rel => exact ⟨x, m, rfl, rfl, by omega, by omega, by omega, HX, HL⟩
        case measure => simp only [intOf]; omega
    · have hy : y = x + 1 := by omega
      subst hy
      have HN := hide (Rt.rt_uniq hx0 HX.out HY.out)
      go_wp2_with fail
      go_ret
      exact ⟨ret_int HN.out, rfl⟩
end Go.Proofs.Ytmhednkbpniphaa
