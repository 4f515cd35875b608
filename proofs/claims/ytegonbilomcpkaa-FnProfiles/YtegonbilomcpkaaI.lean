/-
  What FracOf answers, the program's and the model's.
-/
import Derived.Test.YtegonbilomcpkaaBase
namespace Go.Proofs.Ytegonbilomcpkaa
open Go.RowKit

theorem part_bd {n : Int} (h : Fr.partB n = true) : -1000000000 ≤ n ∧ n ≤ 1000000000 := by simpa [Fr.partB] using h
theorem part_out {n : Int} (h : Fr.partB n = false) : n < -1000000000 ∨ 1000000000 < n := by simp [Fr.partB] at h; omega

set_option maxRecDepth 100000 in
set_option maxHeartbeats 400000 in
theorem of_n1 (n d : Int) (w : World) (h1 : Fr.partB n = false) :
    Calls Try.prog 46 #[.int .i64 n, .int .i64 d] w fun e w' => e = .returned (.tuple #[.agg #[.int .i64 0, .int .i64 0], .bool false]) ∧ Below w.heap.size w w' := by
  have H1 := hide h1
  clear h1
  go_enter Try.func46, Try.ntmps46
  go_wp2_with fail
  refine (isPart_no H1.out).mono ?_
  rintro e w' ⟨rfl, rfl⟩
  go_wp2_with fail
  exact bodyPost_ret (v := .tuple #[.agg #[.int .i64 0, .int .i64 0], .bool false]) (by simp [results, Try.results46, go_sem]) rfl ⟨rfl, (Below.refl _ _).alloc (Nat.le_refl _) _⟩

set_option maxRecDepth 100000 in
set_option maxHeartbeats 400000 in
theorem of_n2 (n d : Int) (w : World) (h1 : Fr.partB n = true) (h2 : Fr.partB d = false) :
    Calls Try.prog 46 #[.int .i64 n, .int .i64 d] w fun e w' => e = .returned (.tuple #[.agg #[.int .i64 0, .int .i64 0], .bool false]) ∧ Below w.heap.size w w' := by
  have H1 := hide h1
  have H2 := hide h2
  clear h1 h2
  go_enter Try.func46, Try.ntmps46
  go_wp2_with fail
  refine (isPart_yes H1.out).mono ?_
  rintro e w' ⟨rfl, rfl⟩
  go_wp2_with fail
  refine (isPart_no H2.out).mono ?_
  rintro e w' ⟨rfl, rfl⟩
  go_wp2_with fail
  exact bodyPost_ret (v := .tuple #[.agg #[.int .i64 0, .int .i64 0], .bool false]) (by simp [results, Try.results46, go_sem]) rfl ⟨rfl, (Below.refl _ _).alloc (Nat.le_refl _) _⟩

set_option maxRecDepth 100000 in
set_option maxHeartbeats 400000 in
theorem of_z (n : Int) (w : World) (h1 : Fr.partB n = true) (h2 : Fr.partB 0 = true) :
    Calls Try.prog 46 #[.int .i64 n, .int .i64 0] w fun e w' => e = .returned (.tuple #[.agg #[.int .i64 0, .int .i64 0], .bool false]) ∧ Below w.heap.size w w' := by
  have H1 := hide h1
  have H2 := hide h2
  clear h1 h2
  go_enter Try.func46, Try.ntmps46
  go_wp2_with fail
  refine (isPart_yes H1.out).mono ?_
  rintro e w' ⟨rfl, rfl⟩
  go_wp2_with fail
  refine (isPart_yes H2.out).mono ?_
  rintro e w' ⟨rfl, rfl⟩
  go_wp2_with fail
  exact bodyPost_ret (v := .tuple #[.agg #[.int .i64 0, .int .i64 0], .bool false]) (by simp [results, Try.results46, go_sem]) rfl ⟨rfl, (Below.refl _ _).alloc (Nat.le_refl _) _⟩

set_option maxRecDepth 100000 in
set_option maxHeartbeats 400000 in
theorem of_yes (n d : Int) (w : World) (h1 : Fr.partB n = true) (h2 : Fr.partB d = true) (h3 : d ≠ 0) :
    Calls Try.prog 46 #[.int .i64 n, .int .i64 d] w fun e w' => e = .returned (.tuple #[.agg #[.int .i64 (Fr.mkN n d), .int .i64 (Fr.mkD n d)], .bool true]) ∧ Below w.heap.size w w' := by
  obtain ⟨a0, a1⟩ := part_bd h1
  obtain ⟨b0, b1⟩ := part_bd h2
  have H1 := hide h1
  have H2 := hide h2
  have H3 := hide h3
  have hne : (d == 0) = false := by simpa using h3
  clear h1 h2 h3
  go_enter Try.func46, Try.ntmps46
  go_wp2_with fail
  refine (isPart_yes H1.out).mono ?_
  rintro e w' ⟨rfl, rfl⟩
  go_wp2_with fail
  refine (isPart_yes H2.out).mono ?_
  rintro e w' ⟨rfl, rfl⟩
  go_wp2_with fail
  refine (lowest_any n d _ (by omega) (by omega) (by omega) (by omega) H3.out).mono ?_
  rintro e w1 ⟨rfl, hb1⟩
  obtain ⟨hc1, hf1⟩ := bcell hb1
  go_wp2_with fail
  exact bodyPost_ret (v := .tuple #[.agg #[.int .i64 (Fr.mkN n d), .int .i64 (Fr.mkD n d)], .bool true]) (by simp [results, Try.results46, go_sem, hc1]) rfl ⟨rfl, ((((Below.refl _ _).alloc (Nat.le_refl _) _).trans (hb1.mono (by simp))).setCell (by simp) _).setCell (by simp) _⟩

end Go.Proofs.Ytegonbilomcpkaa
