/-
  What GoodBounds answers, the program's and the model's.
-/
import Derived.Test.YtmhednkbpniphaaG
namespace Go.Proofs.Ytmhednkbpniphaa
open Go.RowKit

def goodBd (a b c d : Int) : Bool := Fr.goodB a b && Fr.goodB c d && decide (0 ≤ a) && !Fr.lessB c d a b
theorem belc {B W W' : World} (h : Below B.heap.size B W) (hb : Below W.heap.size W W') : Below B.heap.size B W' := h.trans (hb.mono h.size)
theorem lt_one {B W : World} {o : Obj} (h : Below (B.alloc o).heap.size (B.alloc o) W) : B.heap.size < W.heap.size := by have := h.size; simp at this; omega
theorem bel_one {B W : World} {o : Obj} (h : Below (B.alloc o).heap.size (B.alloc o) W) : Below B.heap.size B W := ((Below.refl _ _).alloc (Nat.le_refl _) _).trans (h.mono (by simp))

set_option maxRecDepth 100000 in
set_option maxHeartbeats 1000000 in
theorem gb_n1 (a b c d : Int) (w : World) (h1 : Fr.goodB a b = false) :
    Calls Try.prog 22 #[.agg #[.int .i64 a, .int .i64 b, .int .i64 c, .int .i64 d]] w fun e w' => e = .returned (.bool false) ∧ Below w.heap.size w w' := by
  go_enter Try.func22, Try.ntmps22
  go_wp2_with fail
  refine (good_no h1).mono ?_
  rintro e w1 ⟨rfl, hb1⟩
  have B1 := hb1
  obtain ⟨hc1, hf1⟩ := bcell B1
  have hz1 := lt_one B1
  go_wp2_with fail
  go_ret
  exact ⟨rfl, bel_one B1⟩

set_option maxRecDepth 100000 in
set_option maxHeartbeats 1000000 in
theorem gb_n2 (a b c d : Int) (w : World) (h1 : Fr.goodB a b = true) (h2 : Fr.goodB c d = false) :
    Calls Try.prog 22 #[.agg #[.int .i64 a, .int .i64 b, .int .i64 c, .int .i64 d]] w fun e w' => e = .returned (.bool false) ∧ Below w.heap.size w w' := by
  go_enter Try.func22, Try.ntmps22
  go_wp2_with fail
  refine (good_yes h1).mono ?_
  rintro e w1 ⟨rfl, hb1⟩
  have B1 := hb1
  obtain ⟨hc1, hf1⟩ := bcell B1
  have hz1 := lt_one B1
  go_wp2_with fail
  refine (good_no h2).mono ?_
  rintro e w2 ⟨rfl, hb2⟩
  have B2 := belc B1 hb2
  obtain ⟨hc2, hf2⟩ := bcell B2
  have hz2 := lt_one B2
  clear hc1 hf1 hz1
  go_wp2_with fail
  go_ret
  exact ⟨rfl, bel_one B2⟩

set_option maxRecDepth 100000 in
set_option maxHeartbeats 1000000 in
theorem gb_n3 (a b c d : Int) (w : World) (h1 : Fr.goodB a b = true) (h2 : Fr.goodB c d = true) (h3 : a < 0) :
    Calls Try.prog 22 #[.agg #[.int .i64 a, .int .i64 b, .int .i64 c, .int .i64 d]] w fun e w' => e = .returned (.bool false) ∧ Below w.heap.size w w' := by
  go_enter Try.func22, Try.ntmps22
  go_wp2_with fail
  refine (good_yes h1).mono ?_
  rintro e w1 ⟨rfl, hb1⟩
  have B1 := hb1
  obtain ⟨hc1, hf1⟩ := bcell B1
  have hz1 := lt_one B1
  go_wp2_with fail
  refine (good_yes h2).mono ?_
  rintro e w2 ⟨rfl, hb2⟩
  have B2 := belc B1 hb2
  obtain ⟨hc2, hf2⟩ := bcell B2
  have hz2 := lt_one B2
  clear hc1 hf1 hz1
  go_wp2_with fail
  go_ret
  exact ⟨rfl, bel_one B2⟩

set_option maxRecDepth 100000 in
set_option maxHeartbeats 1000000 in
theorem gb_y (a b c d : Int) (w : World) (h1 : Fr.goodB a b = true) (h2 : Fr.goodB c d = true) (h3 : 0 ≤ a) :
    Calls Try.prog 22 #[.agg #[.int .i64 a, .int .i64 b, .int .i64 c, .int .i64 d]] w fun e w' => e = .returned (.bool (!Fr.lessB c d a b)) ∧ Below w.heap.size w w' := by
  have hcmp : ∃ v : Int, (v != 1) = (!Fr.lessB c d a b) ∧ ∀ w, Calls Try.prog 45 #[.agg #[.int .i64 a, .int .i64 b], .agg #[.int .i64 c, .int .i64 d]] w fun e w' => e = .returned (.int .i64 v) ∧ Below w.heap.size w w' := by
    cases h : (a == c && b == d)
    · by_cases hl : a * d < c * b
      · exact ⟨-1, by simp [Fr.lessB]; omega, fun w => cmp_lt a b c d w h1 h2 h hl⟩
      · refine ⟨1, ?_, fun w => cmp_gt a b c d w h1 h2 h hl⟩
        have hk : Fr.lessB c d a b = true := by
          rcases Fr.less_cases a b c d h1 h2 with ⟨k, _⟩ | ⟨_, k⟩ | ⟨_, _, e1, e2⟩
          · simp [Fr.lessB] at k; omega
          · exact k
          · rw [e1, e2] at h; simp at h
        rw [hk]; rfl
    · simp at h
      obtain ⟨rfl, rfl⟩ := h
      exact ⟨0, by simp [Fr.lessB], fun w => cmp_same a b w⟩
  obtain ⟨v, hv, hcall⟩ := hcmp
  have HV := hide hv
  have HC := hide hcall
  have H1 := hide h1
  have H2 := hide h2
  clear hv hcall h1 h2
  go_enter Try.func22, Try.ntmps22
  go_wp2_with fail
  refine (good_yes H1.out).mono ?_
  rintro e w1 ⟨rfl, hb1⟩
  have B1 := hb1
  obtain ⟨hc1, hf1⟩ := bcell B1
  have hz1 := lt_one B1
  go_wp2_with fail
  refine (good_yes H2.out).mono ?_
  rintro e w2 ⟨rfl, hb2⟩
  have B2 := belc B1 hb2
  obtain ⟨hc2, hf2⟩ := bcell B2
  have hz2 := lt_one B2
  clear hc1 hf1 hz1
  go_wp2_with fail
  refine (HC.out _).mono ?_
  rintro e w3 ⟨rfl, hb3⟩
  have B3 := belc B2 hb3
  obtain ⟨hc3, hf3⟩ := bcell B3
  have hz3 := lt_one B3
  clear hc2 hf2 hz2
  go_wp2_with fail
  go_ret
  exact ⟨by rw [← HV.out]; rfl, bel_one B3⟩

theorem gb_any (a b c d : Int) (w : World) :
    Calls Try.prog 22 #[.agg #[.int .i64 a, .int .i64 b, .int .i64 c, .int .i64 d]] w fun e w' => e = .returned (.bool (goodBd a b c d)) ∧ Below w.heap.size w w' := by
  unfold goodBd
  cases h1 : Fr.goodB a b
  · simpa using gb_n1 a b c d w h1
  · cases h2 : Fr.goodB c d
    · simpa using gb_n2 a b c d w h1 h2
    · by_cases h3 : 0 ≤ a
      · simpa [h3] using gb_y a b c d w h1 h2 h3
      · simpa [h3] using gb_n3 a b c d w h1 h2 (by omega)

set_option maxRecDepth 100000 in
set_option maxHeartbeats 1000000 in
theorem sgb_n1 (a b c d : Int) (w : World) (h : (Fr.goodB a b && Fr.goodB c d) = false) :
    Calls Try.prog 57 #[.agg #[.int .i64 a, .int .i64 b, .int .i64 c, .int .i64 d]] w fun e w' => e = .returned (.bool false) ∧ Below w.heap.size w w' := by
  have H := hide h
  clear h
  go_enter Try.func57, Try.ntmps57
  go_wp2_with fail
  refine (both_no H.out).mono ?_
  rintro e w1 ⟨rfl, hb1⟩
  have B1 := hb1
  obtain ⟨hc1, hf1⟩ := bcell B1
  have hz1 := lt_one B1
  go_wp2_with fail
  go_ret
  exact ⟨rfl, bel_one B1⟩

set_option maxRecDepth 100000 in
set_option maxHeartbeats 1000000 in
theorem sgb_n3 (a b c d : Int) (w : World) (h1 : Fr.goodB a b = true) (h2 : Fr.goodB c d = true) (h3 : a < 0) :
    Calls Try.prog 57 #[.agg #[.int .i64 a, .int .i64 b, .int .i64 c, .int .i64 d]] w fun e w' => e = .returned (.bool false) ∧ Below w.heap.size w w' := by
  go_enter Try.func57, Try.ntmps57
  go_wp2_with fail
  refine (both_yes h1 h2).mono ?_
  rintro e w1 ⟨rfl, hb1⟩
  have B1 := hb1
  obtain ⟨hc1, hf1⟩ := bcell B1
  have hz1 := lt_one B1
  go_wp2_with fail
  go_ret
  exact ⟨rfl, bel_one B1⟩

set_option maxRecDepth 100000 in
set_option maxHeartbeats 1000000 in
theorem sgb_y (a b c d : Int) (w : World) (h1 : Fr.goodB a b = true) (h2 : Fr.goodB c d = true) (h3 : 0 ≤ a) :
    Calls Try.prog 57 #[.agg #[.int .i64 a, .int .i64 b, .int .i64 c, .int .i64 d]] w fun e w' => e = .returned (.bool (!Fr.lessB c d a b)) ∧ Below w.heap.size w w' := by
  have H1 := hide h1
  have H2 := hide h2
  clear h1 h2
  go_enter Try.func57, Try.ntmps57
  go_wp2_with fail
  refine (both_yes H1.out H2.out).mono ?_
  rintro e w1 ⟨rfl, hb1⟩
  have B1 := hb1
  obtain ⟨hc1, hf1⟩ := bcell B1
  have hz1 := lt_one B1
  go_wp2_with fail
  refine (sless_raw c d a b _ H2.out H1.out).mono ?_
  rintro e w2 ⟨rfl, hb2⟩
  have B2 := belc B1 hb2
  obtain ⟨hc2, hf2⟩ := bcell B2
  have hz2 := lt_one B2
  clear hc1 hf1 hz1
  go_wp2_with fail
  go_ret
  exact ⟨rfl, bel_one B2⟩

theorem sgb_any (a b c d : Int) (w : World) :
    Calls Try.prog 57 #[.agg #[.int .i64 a, .int .i64 b, .int .i64 c, .int .i64 d]] w fun e w' => e = .returned (.bool (goodBd a b c d)) ∧ Below w.heap.size w w' := by
  unfold goodBd
  cases h1 : Fr.goodB a b
  · simpa using sgb_n1 a b c d w (by simp [h1])
  · cases h2 : Fr.goodB c d
    · simpa using sgb_n1 a b c d w (by simp [h2])
    · by_cases h3 : 0 ≤ a
      · simpa [h3] using sgb_y a b c d w h1 h2 h3
      · simpa [h3] using sgb_n3 a b c d w h1 h2 (by omega)
end Go.Proofs.Ytmhednkbpniphaa
