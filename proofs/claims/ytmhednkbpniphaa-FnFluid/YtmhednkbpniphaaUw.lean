/-
  What IsWithin answers, the program's and the model's.
-/
import Derived.Test.YtmhednkbpniphaaSb
import Derived.Test.YtmhednkbpniphaaXg
import Derived.Test.YtmhednkbpniphaaBase
namespace Go.Proofs.Ytmhednkbpniphaa
open Go.RowKit

/-- A fraction and bounds, each in a variable of the call's own. -/
def Six (w W : World) (p q a b c d : Int) : Prop := W.cell? ⟨w.heap.size, 0, none⟩ = some (.int .i64 p) ∧ W.cell? ⟨w.heap.size, 1, none⟩ = some (.int .i64 q) ∧ W.cell? ⟨w.heap.size + 1, 0, none⟩ = some (.int .i64 a) ∧ W.cell? ⟨w.heap.size + 1, 1, none⟩ = some (.int .i64 b) ∧ W.cell? ⟨w.heap.size + 1, 2, none⟩ = some (.int .i64 c) ∧ W.cell? ⟨w.heap.size + 1, 3, none⟩ = some (.int .i64 d) ∧ Below w.heap.size w W ∧ w.heap.size + 1 < W.heap.size
theorem Six.start (w : World) (p q a b c d : Int) (t u : TypeId) : Six w ((w.alloc (.cells #[.int .i64 p, .int .i64 q] t)).alloc (.cells #[.int .i64 a, .int .i64 b, .int .i64 c, .int .i64 d] u)) p q a b c d :=
  ⟨by simp, by simp, by simp, by simp, by simp, by simp, ((Below.refl _ _).alloc (Nat.le_refl _) _).alloc (by simp) _, by simp⟩
theorem Six.below {w W W' : World} {p q a b c d : Int} (s : Six w W p q a b c d) (hb : Below W.heap.size W W') : Six w W' p q a b c d := by
  obtain ⟨s0, s1, s2, s3, s4, s5, s6, s7⟩ := s
  obtain ⟨hc, _⟩ := bcell hb
  exact ⟨(hc _ _ (by omega)).trans s0, (hc _ _ (by omega)).trans s1, (hc _ _ s7).trans s2, (hc _ _ s7).trans s3, (hc _ _ s7).trans s4, (hc _ _ s7).trans s5, s6.trans (hb.mono (by omega)), Nat.lt_of_lt_of_le s7 hb.size⟩
def withB (p q a b c d : Int) : Bool := Fr.goodB p q && goodBd a b c d
def withR (p q a b c d : Int) : Bool := withB p q a b c d && (!Fr.lessB p q a b && !Fr.lessB c d p q)
theorem goodBd_both {a b c d : Int} (h : goodBd a b c d = true) : Fr.goodB a b = true ∧ Fr.goodB c d = true := by
  simp only [goodBd, Bool.and_eq_true] at h
  exact ⟨h.1.1.1, h.1.1.2⟩
theorem gb_eq {a b c d : Int} {r : Bool} {w : World} (h : goodBd a b c d = r) :
    Calls Try.prog 22 #[.agg #[.int .i64 a, .int .i64 b, .int .i64 c, .int .i64 d]] w fun e w' => e = .returned (.bool r) ∧ Below w.heap.size w w' := h ▸ gb_any a b c d w
theorem sgb_eq {a b c d : Int} {r : Bool} {w : World} (h : goodBd a b c d = r) :
    Calls Try.prog 57 #[.agg #[.int .i64 a, .int .i64 b, .int .i64 c, .int .i64 d]] w fun e w' => e = .returned (.bool r) ∧ Below w.heap.size w w' := h ▸ sgb_any a b c d w

set_option maxRecDepth 100000 in
set_option maxHeartbeats 1000000 in
theorem iw_n1 {p q a b c d : Int} {w : World} (h : Hid (Fr.goodB p q = false)) :
    Calls Try.prog 23 #[.agg #[.int .i64 p, .int .i64 q], .agg #[.int .i64 a, .int .i64 b, .int .i64 c, .int .i64 d]] w fun e w' => e = .returned (.tuple #[.bool false, .bool false]) ∧ Below w.heap.size w w' := by
  have S0 := hide (Six.start w p q a b c d 27 32)
  go_enter Try.func23, Try.ntmps23
  go_wp2_with (go_at_call 44; refine (good_no h.out).mono ?_; rintro e w1 ⟨rfl, hb1⟩)
  go_ret2
  exact ⟨rfl, (S0.out.below hb1).2.2.2.2.2.2.1⟩
set_option maxRecDepth 100000 in
set_option maxHeartbeats 1000000 in
theorem iw_n2 {p q a b c d : Int} {w : World} (h : Hid (Fr.goodB p q = true)) (h2 : Hid (goodBd a b c d = false)) :
    Calls Try.prog 23 #[.agg #[.int .i64 p, .int .i64 q], .agg #[.int .i64 a, .int .i64 b, .int .i64 c, .int .i64 d]] w fun e w' => e = .returned (.tuple #[.bool false, .bool false]) ∧ Below w.heap.size w w' := by
  have S0 := hide (Six.start w p q a b c d 27 32)
  go_enter Try.func23, Try.ntmps23
  go_wp2_with fail
  refine (good_yes h.out).mono ?_
  rintro e w1 ⟨rfl, hb1⟩
  have S1 := hide (S0.out.below hb1)
  obtain ⟨s0, s1, s2, s3, s4, s5, s6, s7⟩ := S1.out
  clear hb1
  go_wp2_with fail
  refine (gb_eq h2.out).mono ?_
  rintro e w2 ⟨rfl, hb2⟩
  go_wp2_with fail
  go_ret2
  exact ⟨rfl, (S1.out.below hb2).2.2.2.2.2.2.1⟩
set_option maxRecDepth 100000 in
set_option maxHeartbeats 1000000 in
theorem iw_y {p q a b c d : Int} {w : World} (h : Hid (Fr.goodB p q = true)) (h2 : Hid (goodBd a b c d = true)) :
    Calls Try.prog 23 #[.agg #[.int .i64 p, .int .i64 q], .agg #[.int .i64 a, .int .i64 b, .int .i64 c, .int .i64 d]] w fun e w' => e = .returned (.tuple #[.bool (!Fr.lessB p q a b && !Fr.lessB c d p q), .bool true]) ∧ Below w.heap.size w w' := by
  have S0 := hide (Six.start w p q a b c d 27 32)
  have H1 := hide (fun w => less_any (p := (p, q)) (q := (a, b)) (w := w) h.out (goodBd_both h2.out).1)
  have H2 := hide (fun w => more_any (p := (p, q)) (q := (c, d)) (w := w) h.out (goodBd_both h2.out).2)
  have E1 : Sh.less (p, q) (a, b) = Fr.lessB p q a b := rfl
  have E2 : Sh.more (p, q) (c, d) = Fr.lessB c d p q := rfl
  simp only [E1, E2] at H1 H2
  clear E1 E2
  cases r1 : Fr.lessB p q a b
  · rw [r1] at H1
    generalize Fr.lessB c d p q = R at *
    clear r1
    go_enter Try.func23, Try.ntmps23
    go_wp2_with fail
    refine (good_yes h.out).mono ?_
    rintro e w1 ⟨rfl, hb1⟩
    have S1 := hide (S0.out.below hb1)
    obtain ⟨s0, s1, s2, s3, s4, s5, s6, s7⟩ := S1.out
    clear hb1
    go_wp2_with fail
    refine (gb_eq h2.out).mono ?_
    rintro e w2 ⟨rfl, hb2⟩
    have S2 := hide (S1.out.below hb2)
    clear s0 s1 s2 s3 s4 s5 s6 s7 hb2
    obtain ⟨s0, s1, s2, s3, s4, s5, s6, s7⟩ := S2.out
    go_wp2_with fail
    refine (H1.out _).mono ?_
    rintro e w3 ⟨rfl, hb3⟩
    have S3 := hide (S2.out.below hb3)
    clear s0 s1 s2 s3 s4 s5 s6 s7 hb3
    obtain ⟨s0, s1, s2, s3, s4, s5, s6, s7⟩ := S3.out
    go_wp2_with fail
    refine (H2.out _).mono ?_
    rintro e w4 ⟨rfl, hb4⟩
    go_wp2_with fail
    go_ret2
    exact ⟨rfl, (S3.out.below hb4).2.2.2.2.2.2.1⟩
  · rw [r1] at H1
    generalize Fr.lessB c d p q = R at *
    clear r1 H2
    go_enter Try.func23, Try.ntmps23
    go_wp2_with fail
    refine (good_yes h.out).mono ?_
    rintro e w1 ⟨rfl, hb1⟩
    have S1 := hide (S0.out.below hb1)
    obtain ⟨s0, s1, s2, s3, s4, s5, s6, s7⟩ := S1.out
    clear hb1
    go_wp2_with fail
    refine (gb_eq h2.out).mono ?_
    rintro e w2 ⟨rfl, hb2⟩
    have S2 := hide (S1.out.below hb2)
    clear s0 s1 s2 s3 s4 s5 s6 s7 hb2
    obtain ⟨s0, s1, s2, s3, s4, s5, s6, s7⟩ := S2.out
    go_wp2_with fail
    refine (H1.out _).mono ?_
    rintro e w3 ⟨rfl, hb3⟩
    go_wp2_with fail
    go_ret2
    exact ⟨rfl, (S2.out.below hb3).2.2.2.2.2.2.1⟩
theorem iw_any (p q a b c d : Int) (w : World) :
    Calls Try.prog 23 #[.agg #[.int .i64 p, .int .i64 q], .agg #[.int .i64 a, .int .i64 b, .int .i64 c, .int .i64 d]] w fun e w' => e = .returned (.tuple #[.bool (withR p q a b c d), .bool (withB p q a b c d)]) ∧ Below w.heap.size w w' := by
  unfold withR withB
  cases h1 : Fr.goodB p q
  · exact iw_n1 (hide h1)
  · cases h2 : goodBd a b c d
    · exact iw_n2 (hide h1) (hide h2)
    · exact iw_y (hide h1) (hide h2)

set_option maxRecDepth 100000 in
set_option maxHeartbeats 1000000 in
theorem siw_n1 {p q a b c d : Int} {w : World} (h : Hid (Fr.goodB p q = false)) :
    Calls Try.prog 25 #[.agg #[.int .i64 p, .int .i64 q], .agg #[.int .i64 a, .int .i64 b, .int .i64 c, .int .i64 d]] w fun e w' => e = .returned (.tuple #[.bool false, .bool false]) ∧ Below w.heap.size w w' := by
  have S0 := hide (Six.start w p q a b c d 27 32)
  go_enter Try.func25, Try.ntmps25
  go_wp2_with (go_at_call 62; refine (sgood_no h.out).mono ?_; rintro e w1 ⟨rfl, hb1⟩)
  go_ret2
  exact ⟨rfl, (S0.out.below hb1).2.2.2.2.2.2.1⟩
set_option maxRecDepth 100000 in
set_option maxHeartbeats 1000000 in
theorem siw_n2 {p q a b c d : Int} {w : World} (h : Hid (Fr.goodB p q = true)) (h2 : Hid (goodBd a b c d = false)) :
    Calls Try.prog 25 #[.agg #[.int .i64 p, .int .i64 q], .agg #[.int .i64 a, .int .i64 b, .int .i64 c, .int .i64 d]] w fun e w' => e = .returned (.tuple #[.bool false, .bool false]) ∧ Below w.heap.size w w' := by
  have S0 := hide (Six.start w p q a b c d 27 32)
  go_enter Try.func25, Try.ntmps25
  go_wp2_with fail
  refine (sgood_yes h.out).mono ?_
  rintro e w1 ⟨rfl, hb1⟩
  have S1 := hide (S0.out.below hb1)
  obtain ⟨s0, s1, s2, s3, s4, s5, s6, s7⟩ := S1.out
  clear hb1
  go_wp2_with fail
  refine (sgb_eq h2.out).mono ?_
  rintro e w2 ⟨rfl, hb2⟩
  go_wp2_with fail
  go_ret2
  exact ⟨rfl, (S1.out.below hb2).2.2.2.2.2.2.1⟩
set_option maxRecDepth 100000 in
set_option maxHeartbeats 1000000 in
theorem siw_y {p q a b c d : Int} {w : World} (h : Hid (Fr.goodB p q = true)) (h2 : Hid (goodBd a b c d = true)) :
    Calls Try.prog 25 #[.agg #[.int .i64 p, .int .i64 q], .agg #[.int .i64 a, .int .i64 b, .int .i64 c, .int .i64 d]] w fun e w' => e = .returned (.tuple #[.bool (!Fr.lessB p q a b && !Fr.lessB c d p q), .bool true]) ∧ Below w.heap.size w w' := by
  have S0 := hide (Six.start w p q a b c d 27 32)
  have H1 := hide (fun w => sless_any (p := (p, q)) (q := (a, b)) (w := w) h.out (goodBd_both h2.out).1)
  have H2 := hide (fun w => sless_any (p := (c, d)) (q := (p, q)) (w := w) (goodBd_both h2.out).2 h.out)
  have E1 : Sh.less (p, q) (a, b) = Fr.lessB p q a b := rfl
  have E2 : Sh.less (c, d) (p, q) = Fr.lessB c d p q := rfl
  simp only [E1, E2] at H1 H2
  clear E1 E2
  cases r1 : Fr.lessB p q a b
  · rw [r1] at H1
    generalize Fr.lessB c d p q = R at *
    clear r1
    go_enter Try.func25, Try.ntmps25
    go_wp2_with fail
    refine (sgood_yes h.out).mono ?_
    rintro e w1 ⟨rfl, hb1⟩
    have S1 := hide (S0.out.below hb1)
    obtain ⟨s0, s1, s2, s3, s4, s5, s6, s7⟩ := S1.out
    clear hb1
    go_wp2_with fail
    refine (sgb_eq h2.out).mono ?_
    rintro e w2 ⟨rfl, hb2⟩
    have S2 := hide (S1.out.below hb2)
    clear s0 s1 s2 s3 s4 s5 s6 s7 hb2
    obtain ⟨s0, s1, s2, s3, s4, s5, s6, s7⟩ := S2.out
    go_wp2_with fail
    refine (H1.out _).mono ?_
    rintro e w3 ⟨rfl, hb3⟩
    have S3 := hide (S2.out.below hb3)
    clear s0 s1 s2 s3 s4 s5 s6 s7 hb3
    obtain ⟨s0, s1, s2, s3, s4, s5, s6, s7⟩ := S3.out
    go_wp2_with fail
    refine (H2.out _).mono ?_
    rintro e w4 ⟨rfl, hb4⟩
    go_wp2_with fail
    go_ret2
    exact ⟨rfl, (S3.out.below hb4).2.2.2.2.2.2.1⟩
  · rw [r1] at H1
    generalize Fr.lessB c d p q = R at *
    clear r1 H2
    go_enter Try.func25, Try.ntmps25
    go_wp2_with fail
    refine (sgood_yes h.out).mono ?_
    rintro e w1 ⟨rfl, hb1⟩
    have S1 := hide (S0.out.below hb1)
    obtain ⟨s0, s1, s2, s3, s4, s5, s6, s7⟩ := S1.out
    clear hb1
    go_wp2_with fail
    refine (sgb_eq h2.out).mono ?_
    rintro e w2 ⟨rfl, hb2⟩
    have S2 := hide (S1.out.below hb2)
    clear s0 s1 s2 s3 s4 s5 s6 s7 hb2
    obtain ⟨s0, s1, s2, s3, s4, s5, s6, s7⟩ := S2.out
    go_wp2_with fail
    refine (H1.out _).mono ?_
    rintro e w3 ⟨rfl, hb3⟩
    go_wp2_with fail
    go_ret2
    exact ⟨rfl, (S2.out.below hb3).2.2.2.2.2.2.1⟩
theorem siw_any (p q a b c d : Int) (w : World) :
    Calls Try.prog 25 #[.agg #[.int .i64 p, .int .i64 q], .agg #[.int .i64 a, .int .i64 b, .int .i64 c, .int .i64 d]] w fun e w' => e = .returned (.tuple #[.bool (withR p q a b c d), .bool (withB p q a b c d)]) ∧ Below w.heap.size w w' := by
  unfold withR withB
  cases h1 : Fr.goodB p q
  · exact siw_n1 (hide h1)
  · cases h2 : goodBd a b c d
    · exact siw_n2 (hide h1) (hide h2)
    · exact siw_y (hide h1) (hide h2)
end Go.Proofs.Ytmhednkbpniphaa
