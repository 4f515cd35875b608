/-
  What RootOf and IsSquare answer, the program's and the model's.
-/
import Derived.Test.YtdmdhmcnedmnbaaWr
namespace Go.Proofs.Ytdmdhmcnedmnbaa
open Go.RowKit

theorem sqB_bd {n : Int} (h : Rt.sqB n = true) : 0 ≤ n ∧ n ≤ 1000000000000 := by simpa [Rt.sqB] using h

set_option maxHeartbeats 400000 in
theorem rootOf_no {n : Int} {w : World} (h : Rt.sqB n = false) :
    Calls Try.prog 18 #[.int .i64 n] w fun e w' => e = .returned (.tuple #[.int .i64 0, .bool false]) ∧ w' = w := by
  go_enter Try.func18, Try.ntmps18
  go_wp2_with fail
  refine (has_no h).mono ?_
  rintro e w1 ⟨rfl, rfl⟩
  go_wp2_with fail
  go_ret2
  exact ⟨rfl, rfl⟩
set_option maxHeartbeats 400000 in
theorem rootOf_yes {n : Int} {w : World} (h : Rt.sqB n = true) :
    Calls Try.prog 18 #[.int .i64 n] w fun e w' => e = .returned (.tuple #[.int .i64 (Rt.rt n), .bool true]) ∧ w' = w := by
  obtain ⟨b0, b1⟩ := sqB_bd h
  go_enter Try.func18, Try.ntmps18
  go_wp2_with fail
  refine (has_yes h).mono ?_
  rintro e w1 ⟨rfl, rfl⟩
  go_wp2_with fail
  refine (whole_root n _ b0 b1).mono ?_
  rintro e w1 ⟨rfl, rfl⟩
  go_wp2_with fail
  go_ret2
  exact ⟨rfl, rfl⟩

set_option maxHeartbeats 400000 in
theorem srootOf_no {n : Int} {w : World} (h : Rt.sqB n = false) :
    Calls Try.prog 19 #[.int .i64 n] w fun e w' => e = .returned (.tuple #[.int .i64 0, .bool false]) ∧ w' = w := by
  go_enter Try.func19, Try.ntmps19
  go_wp2_with fail
  refine (sq2_no h).mono ?_
  rintro e w1 ⟨rfl, rfl⟩
  go_wp2_with fail
  go_ret2
  exact ⟨rfl, rfl⟩
set_option maxHeartbeats 400000 in
theorem srootOf_yes {n : Int} {w : World} (h : Rt.sqB n = true) :
    Calls Try.prog 19 #[.int .i64 n] w fun e w' => e = .returned (.tuple #[.int .i64 (Rt.rt n), .bool true]) ∧ w' = w := by
  obtain ⟨b0, b1⟩ := sqB_bd h
  go_enter Try.func19, Try.ntmps19
  go_wp2_with fail
  refine (sq2_yes h).mono ?_
  rintro e w1 ⟨rfl, rfl⟩
  go_wp2_with fail
  refine (sroot_any n _ b0 b1).mono ?_
  rintro e w1 ⟨rfl, rfl⟩
  go_wp2_with fail
  go_ret2
  exact ⟨rfl, rfl⟩

set_option maxHeartbeats 400000 in
theorem isSq_no {n : Int} {w : World} (h : Rt.sqB n = false) :
    Calls Try.prog 20 #[.int .i64 n] w fun e w' => e = .returned (.tuple #[.bool false, .bool false]) ∧ w' = w := by
  go_enter Try.func20, Try.ntmps20
  go_wp2_with fail
  refine (has_no h).mono ?_
  rintro e w1 ⟨rfl, rfl⟩
  go_wp2_with fail
  go_ret2
  exact ⟨rfl, rfl⟩
set_option maxHeartbeats 400000 in
theorem isSq_yes {n : Int} {w : World} (h : Rt.sqB n = true) :
    Calls Try.prog 20 #[.int .i64 n] w fun e w' => e = .returned (.tuple #[.bool (Rt.rt n * Rt.rt n == n), .bool true]) ∧ w' = w := by
  obtain ⟨b0, b1⟩ := sqB_bd h
  obtain ⟨c0, c1⟩ := Rt.rt_bd b0 b1
  obtain ⟨q0, q1⟩ := Rt.sq_bd c0 c1
  have m1 : wrap64 (Rt.rt n * Rt.rt n) = Rt.rt n * Rt.rt n := wrap_id _ (by omega) (by omega)
  clear q0 q1
  go_enter Try.func20, Try.ntmps20
  go_wp2_with fail
  refine (has_yes h).mono ?_
  rintro e w1 ⟨rfl, rfl⟩
  go_wp2_with fail
  refine (whole_root n _ b0 b1).mono ?_
  rintro e w1 ⟨rfl, rfl⟩
  go_wp2_with fail
  go_ret2
  exact ⟨rfl, rfl⟩

set_option maxHeartbeats 400000 in
theorem sisSq_no {n : Int} {w : World} (h : Rt.sqB n = false) :
    Calls Try.prog 21 #[.int .i64 n] w fun e w' => e = .returned (.tuple #[.bool false, .bool false]) ∧ w' = w := by
  go_enter Try.func21, Try.ntmps21
  go_wp2_with fail
  refine (sq2_no h).mono ?_
  rintro e w1 ⟨rfl, rfl⟩
  go_wp2_with fail
  go_ret2
  exact ⟨rfl, rfl⟩
set_option maxHeartbeats 400000 in
theorem sisSq_yes {n : Int} {w : World} (h : Rt.sqB n = true) :
    Calls Try.prog 21 #[.int .i64 n] w fun e w' => e = .returned (.tuple #[.bool (Rt.rt n * Rt.rt n == n), .bool true]) ∧ w' = w := by
  obtain ⟨b0, b1⟩ := sqB_bd h
  obtain ⟨c0, c1⟩ := Rt.rt_bd b0 b1
  obtain ⟨q0, q1⟩ := Rt.sq_bd c0 c1
  have m1 : wrap64 (Rt.rt n * Rt.rt n) = Rt.rt n * Rt.rt n := wrap_id _ (by omega) (by omega)
  clear q0 q1
  go_enter Try.func21, Try.ntmps21
  go_wp2_with fail
  refine (sq2_yes h).mono ?_
  rintro e w1 ⟨rfl, rfl⟩
  go_wp2_with fail
  refine (sroot_any n _ b0 b1).mono ?_
  rintro e w1 ⟨rfl, rfl⟩
  go_wp2_with fail
  go_ret2
  exact ⟨rfl, rfl⟩
end Go.Proofs.Ytdmdhmcnedmnbaa
