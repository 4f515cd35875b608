/-
  What GoodFrac and onlyGood of the program answer: whether a fraction is good.
-/
import Derived.Test.YtlbagigghpiifaaA
import Derived.Deep.RegionHeld3
namespace Go.Proofs.Ytlbagigghpiifaa
open Go.RowKit

theorem bcell {W w1 : World} (hb : Below W.heap.size W w1) : (∀ b o, b < W.heap.size → w1.cell? ⟨b, o, none⟩ = W.cell? ⟨b, o, none⟩) ∧ (∀ b o, b < W.heap.size → w1.frozen? ⟨b, o, none⟩ = W.frozen? ⟨b, o, none⟩) :=
  ⟨fun b o h => hb.cell (p := ⟨b, o, none⟩) h, fun b o h => hb.frozen (p := ⟨b, o, none⟩) h⟩

set_option maxHeartbeats 400000 in
theorem good_n1 (n d : Int) (w : World) (h1 : Fr.partB n = false) :
    Calls Try.prog 73 #[.agg #[.int .i64 n, .int .i64 d]] w fun e w' => e = .returned (.bool false) ∧ Below w.heap.size w w' := by
  go_enter Try.func73, Try.ntmps73
  go_wp2
  go_quiet ((go_at_call 79; exact Calls.quiet_of_same (isPart_no h1)))
  go_wp2
  go_ret
  exact ⟨rfl, below_drewN ((Below.refl _ _).alloc (Nat.le_refl _) _) _⟩

set_option maxHeartbeats 400000 in
theorem good_n2 (n d : Int) (w : World) (h1 : Fr.partB n = true) (h2 : Fr.partB d = false) :
    Calls Try.prog 73 #[.agg #[.int .i64 n, .int .i64 d]] w fun e w' => e = .returned (.bool false) ∧ Below w.heap.size w w' := by
  go_enter Try.func73, Try.ntmps73
  go_wp2
  go_quiet ((go_at_call 79; first | exact Calls.quiet_of_same (isPart_yes h1) | exact Calls.quiet_of_same (isPart_no h2)))
  go_wp2
  go_ret
  exact ⟨rfl, below_drewN ((Below.refl _ _).alloc (Nat.le_refl _) _) _⟩

set_option maxHeartbeats 400000 in
theorem good_n3 (n d : Int) (w : World) (h1 : Fr.partB n = true) (h2 : Fr.partB d = true) (h3 : d ≤ 0) :
    Calls Try.prog 73 #[.agg #[.int .i64 n, .int .i64 d]] w fun e w' => e = .returned (.bool false) ∧ Below w.heap.size w w' := by
  have h4 : decide (0 < d) = false := by simp; omega
  clear h3
  go_enter Try.func73, Try.ntmps73
  go_wp2
  go_quiet ((go_at_call 79; first | exact Calls.quiet_of_same (isPart_yes h1) | exact Calls.quiet_of_same (isPart_yes h2)))
  go_wp2
  go_ret
  exact ⟨rfl, below_drewN ((Below.refl _ _).alloc (Nat.le_refl _) _) _⟩

set_option maxHeartbeats 400000 in
set_option maxRecDepth 100000 in
theorem good_y (n d : Int) (w : World) (h1 : Fr.partB n = true) (h2 : Fr.partB d = true) (h3 : 0 < d) :
    Calls Try.prog 73 #[.agg #[.int .i64 n, .int .i64 d]] w fun e w' => e = .returned (.bool (Fr.goodB n d)) ∧ Below w.heap.size w w' := by
  have hp : -1000000000 ≤ n ∧ n ≤ 1000000000 := by simpa [Fr.partB] using h1
  have hq : -1000000000 ≤ d ∧ d ≤ 1000000000 := by simpa [Fr.partB] using h2
  obtain ⟨hp0, hp1⟩ := hp
  obtain ⟨hq0, hq1⟩ := hq
  have H := hide (Fr.good_of_mk n d h1 h2 h3)
  have H1 := hide h1
  have H2 := hide h2
  clear h1 h2
  have q1 := frac_eq
  have q2 := frac_eqg
  go_enter Try.func73, Try.ntmps73
  go_wp2
  go_region_held3 (fun w' => w'.cell? ⟨w.heap.size, 0, none⟩ = some (.int .i64 n) ∧ w'.cell? ⟨w.heap.size, 1, none⟩ = some (.int .i64 d) ∧ Below w.heap.size w w' ∧ w.heap.size < w'.heap.size) (first | exact ⟨by simp, by simp, ((Below.refl _ _).alloc (Nat.le_refl _) _).drew, by simp⟩ | assumption | (obtain ⟨s0, s1, s2, s3⟩ := ‹_ ∧ _ ∧ _ ∧ _›; exact ⟨(hc _ _ s3).trans s0, (hc _ _ s3).trans s1, s2.trans (hb.mono (Nat.le_of_lt s3)), Nat.lt_of_lt_of_le s3 hb.size⟩))
    (first
    | (go_at_call_of 79 (Value.int IntKind.i64 n); refine (isPart_yes H1.out).mono ?_; rintro e w' ⟨rfl, rfl⟩)
    | (go_at_call_of 79 (Value.int IntKind.i64 d); refine (isPart_yes H2.out).mono ?_; rintro e w' ⟨rfl, rfl⟩)
    | (go_at_call 59; refine (lowest_any _ _ _ (by omega) (by omega) (by omega) (by omega) (by omega)).mono ?_; rintro e w' ⟨rfl, hb⟩; obtain ⟨hc, hf⟩ := bcell hb))
  obtain ⟨_, _, hB, _⟩ := ‹_ ∧ _ ∧ _ ∧ _›
  clear hb hc hf q1 q2
  go_wp2
  go_ret
  exact ⟨ret_bool H.out.symm, hB⟩

theorem good_any (n d : Int) (w : World) :
    Calls Try.prog 73 #[.agg #[.int .i64 n, .int .i64 d]] w fun e w' => e = .returned (.bool (Fr.goodB n d)) ∧ Below w.heap.size w w' := by
  cases h1 : Fr.partB n
  · rw [Fr.good_n1 n d h1]; exact good_n1 n d w h1
  · cases h2 : Fr.partB d
    · rw [Fr.good_n2 n d h2]; exact good_n2 n d w h1 h2
    · by_cases h3 : 0 < d
      · exact good_y n d w h1 h2 h3
      · rw [Fr.good_n3 n d (by omega)]; exact good_n3 n d w h1 h2 (by omega)
theorem good_yes {n d : Int} {w : World} (h : Fr.goodB n d = true) :
    Calls Try.prog 73 #[.agg #[.int .i64 n, .int .i64 d]] w fun e w' => e = .returned (.bool true) ∧ Below w.heap.size w w' := by have := good_any n d w; rwa [h] at this
theorem good_no {n d : Int} {w : World} (h : Fr.goodB n d = false) :
    Calls Try.prog 73 #[.agg #[.int .i64 n, .int .i64 d]] w fun e w' => e = .returned (.bool false) ∧ Below w.heap.size w w' := by have := good_any n d w; rwa [h] at this

set_option maxHeartbeats 400000 in
theorem only_yes (n d : Int) (w : World) (h : Fr.goodB n d = true) :
    Calls Try.prog 74 #[.agg #[.int .i64 n, .int .i64 d]] w fun e w' => e = .returned (.tuple #[.agg #[.int .i64 n, .int .i64 d], .bool true]) ∧ Below w.heap.size w w' := by
  go_enter Try.func74, Try.ntmps74
  go_wp2_with (go_at_call 73; refine (good_yes h).mono ?_; rintro e w1 ⟨rfl, hb⟩; obtain ⟨hc, hf⟩ := bcell hb; have hz : w.heap.size + 1 < w1.heap.size := by have := hb.size; simp at this; omega)
  exact bodyPost_ret (v := .tuple #[.agg #[.int .i64 n, .int .i64 d], .bool true]) (by simp [results, Try.results74, go_sem, hc]) rfl ⟨rfl, (((((Below.refl _ _).alloc (Nat.le_refl _) _).alloc (by simp) _).trans (hb.mono (by simp; omega))).setCell (by simp) _).setCell (by simp) _⟩

set_option maxHeartbeats 400000 in
theorem only_no (n d : Int) (w : World) (h : Fr.goodB n d = false) :
    Calls Try.prog 74 #[.agg #[.int .i64 n, .int .i64 d]] w fun e w' => e = .returned (.tuple #[.agg #[.int .i64 0, .int .i64 0], .bool false]) ∧ Below w.heap.size w w' := by
  go_enter Try.func74, Try.ntmps74
  go_wp2_with (go_at_call 73; refine (good_no h).mono ?_; rintro e w1 ⟨rfl, hb⟩; obtain ⟨hc, hf⟩ := bcell hb; have hz : w.heap.size + 1 < w1.heap.size := by have := hb.size; simp at this; omega)
  exact bodyPost_ret (v := .tuple #[.agg #[.int .i64 0, .int .i64 0], .bool false]) (by simp [results, Try.results74, go_sem, hc]) rfl ⟨rfl, (((((Below.refl _ _).alloc (Nat.le_refl _) _).alloc (by simp) _).trans (hb.mono (by simp; omega))).setCell (by simp) _).setCell (by simp) _⟩

theorem only_any (n d : Int) (w : World) :
    Calls Try.prog 74 #[.agg #[.int .i64 n, .int .i64 d]] w fun e w' => e = .returned (.tuple #[.agg #[.int .i64 (Fr.fitN n d), .int .i64 (Fr.fitD n d)], .bool (Fr.goodB n d)]) ∧ Below w.heap.size w w' := by
  unfold Fr.fitN Fr.fitD
  cases h : Fr.goodB n d
  · simpa using only_no n d w h
  · simpa using only_yes n d w h
set_option maxHeartbeats 400000 in
theorem whole_any (n : Int) (w : World) :
    Calls Try.prog 57 #[.int .i64 n] w fun e w' => e = .returned (.agg #[.int .i64 n, .int .i64 1]) ∧ Below w.heap.size w w' := by
  go_enter Try.func57, Try.ntmps57
  go_wp2
  exact bodyPost_ret (v := .agg #[.int .i64 n, .int .i64 1]) (by simp [results, Try.results57, go_sem]) rfl ⟨rfl, (Below.refl _ _).alloc (Nat.le_refl _) _⟩
end Go.Proofs.Ytlbagigghpiifaa
