/-
  What DivFrac of the program answers.
-/
import Derived.Test.YtdmdhmcnedmnbaaDoorC
import Derived.Deep.RegionHeld3
namespace Go.Proofs.YtdmdhmcnedmnbaaDoor
open Go.RowKit

theorem held4 {W0 w1 w2 : World} {b c : Nat} {v0 v1 v2 v3 : Value} (hb0 : b < W0.heap.size) (hc0 : c < W0.heap.size)
    (s : w1.cell? ⟨b, 0, none⟩ = some v0 ∧ w1.cell? ⟨b, 1, none⟩ = some v1 ∧ w1.cell? ⟨c, 0, none⟩ = some v2 ∧ w1.cell? ⟨c, 1, none⟩ = some v3 ∧ Below W0.heap.size W0 w1)
    (hb : Below w1.heap.size w1 w2) :
    w2.cell? ⟨b, 0, none⟩ = some v0 ∧ w2.cell? ⟨b, 1, none⟩ = some v1 ∧ w2.cell? ⟨c, 0, none⟩ = some v2 ∧ w2.cell? ⟨c, 1, none⟩ = some v3 ∧ Below W0.heap.size W0 w2 := by
  obtain ⟨s0, s1, s2, s3, s4⟩ := s
  obtain ⟨h, _⟩ := bcell hb
  have hz := s4.size
  exact ⟨(h _ _ (by omega)).trans s0, (h _ _ (by omega)).trans s1, (h _ _ (by omega)).trans s2, (h _ _ (by omega)).trans s3, s4.trans (hb.mono hz)⟩

theorem lt31 (w : World) (a b c : Obj) : w.heap.size < (((w.alloc a).alloc b).alloc c).heap.size := by simp; omega
theorem lt32 (w : World) (a b c : Obj) : w.heap.size + 1 < (((w.alloc a).alloc b).alloc c).heap.size := by simp
theorem start4 (w : World) (n1 d1 n2 d2 : Int) (t : TypeId) :
    (((w.alloc (Obj.cells #[Value.int IntKind.i64 n1, Value.int IntKind.i64 d1] t)).alloc (Obj.cells #[Value.int IntKind.i64 n2, Value.int IntKind.i64 d2] t)).alloc (Obj.cells #[Value.int IntKind.i64 0, Value.int IntKind.i64 0] t)).drew.cell? ⟨w.heap.size, 0, none⟩ = some (.int .i64 n1) ∧ (((w.alloc (Obj.cells #[Value.int IntKind.i64 n1, Value.int IntKind.i64 d1] t)).alloc (Obj.cells #[Value.int IntKind.i64 n2, Value.int IntKind.i64 d2] t)).alloc (Obj.cells #[Value.int IntKind.i64 0, Value.int IntKind.i64 0] t)).drew.cell? ⟨w.heap.size, 1, none⟩ = some (.int .i64 d1) ∧ (((w.alloc (Obj.cells #[Value.int IntKind.i64 n1, Value.int IntKind.i64 d1] t)).alloc (Obj.cells #[Value.int IntKind.i64 n2, Value.int IntKind.i64 d2] t)).alloc (Obj.cells #[Value.int IntKind.i64 0, Value.int IntKind.i64 0] t)).drew.cell? ⟨w.heap.size + 1, 0, none⟩ = some (.int .i64 n2) ∧ (((w.alloc (Obj.cells #[Value.int IntKind.i64 n1, Value.int IntKind.i64 d1] t)).alloc (Obj.cells #[Value.int IntKind.i64 n2, Value.int IntKind.i64 d2] t)).alloc (Obj.cells #[Value.int IntKind.i64 0, Value.int IntKind.i64 0] t)).drew.cell? ⟨w.heap.size + 1, 1, none⟩ = some (.int .i64 d2) ∧ Below (((w.alloc (Obj.cells #[Value.int IntKind.i64 n1, Value.int IntKind.i64 d1] t)).alloc (Obj.cells #[Value.int IntKind.i64 n2, Value.int IntKind.i64 d2] t)).alloc (Obj.cells #[Value.int IntKind.i64 0, Value.int IntKind.i64 0] t)).heap.size (((w.alloc (Obj.cells #[Value.int IntKind.i64 n1, Value.int IntKind.i64 d1] t)).alloc (Obj.cells #[Value.int IntKind.i64 n2, Value.int IntKind.i64 d2] t)).alloc (Obj.cells #[Value.int IntKind.i64 0, Value.int IntKind.i64 0] t)) (((w.alloc (Obj.cells #[Value.int IntKind.i64 n1, Value.int IntKind.i64 d1] t)).alloc (Obj.cells #[Value.int IntKind.i64 n2, Value.int IntKind.i64 d2] t)).alloc (Obj.cells #[Value.int IntKind.i64 0, Value.int IntKind.i64 0] t)).drew := by
  refine ⟨?_, ?_, ?_, ?_, (Below.refl _ _).drew⟩ <;> simp [go_sem]

set_option maxHeartbeats 1000000 in
theorem div_no1 (n1 d1 n2 d2 : Int) (w : World) (h1 : Fr.goodB n1 d1 = false) :
    Calls Tryd.prog 11 #[.agg #[.int .i64 n1, .int .i64 d1], .agg #[.int .i64 n2, .int .i64 d2]] w fun e w' => e = .returned (.tuple #[.agg #[.int .i64 0, .int .i64 0], .bool false]) ∧ Below w.heap.size w w' := by
  have H1 := hide h1
  clear h1
  go_enter Tryd.func11, Tryd.ntmps11
  go_wp2_with fail
  go_region_with (first
    | (go_at_call 13; refine (good_no H1.out).mono ?_; rintro e w1 ⟨rfl, hB⟩; obtain ⟨hc, hf⟩ := bcell hB))
  all_goals go_wp2_with fail
  all_goals exact bodyPost_ret (v := .tuple #[.agg #[.int .i64 0, .int .i64 0], .bool false]) (by simp [results, Tryd.results11, go_sem, hc]) rfl ⟨rfl, (((((((Below.refl _ _).alloc (Nat.le_refl _) _).alloc (by simp) _).alloc (by simp; omega) _).drew).trans (hB.mono (by simp; omega))).setCell (by simp; omega) _).setCell (by simp; omega) _⟩

set_option maxHeartbeats 1000000 in
theorem div_no2 (n1 d1 n2 d2 : Int) (w : World) (h1 : Fr.goodB n1 d1 = true) (h2 : Fr.goodB n2 d2 = false) :
    Calls Tryd.prog 11 #[.agg #[.int .i64 n1, .int .i64 d1], .agg #[.int .i64 n2, .int .i64 d2]] w fun e w' => e = .returned (.tuple #[.agg #[.int .i64 0, .int .i64 0], .bool false]) ∧ Below w.heap.size w w' := by
  have H1 := hide h1
  have H2 := hide h2
  clear h1 h2
  have t1 : True := trivial
  go_enter Tryd.func11, Tryd.ntmps11
  go_wp2_with fail
  go_region_with (first
    | (go_at_call 13; have _t := t1; refine (good_yes H1.out).mono ?_; rintro e w1 ⟨rfl, hb1⟩; obtain ⟨hc1, hf1⟩ := bcell hb1; have hz1 : w.heap.size + 1 + 1 < w1.heap.size := (by have := hb1.size; simp at this; omega); obtain ⟨hx1, hy1⟩ := lt3 hz1; clear _t t1)
    | (go_at_call 13; refine (good_no H2.out).mono ?_; rintro e w2 ⟨rfl, hb2⟩; obtain ⟨hc2, hf2⟩ := bcell hb2; have hz2 : w.heap.size + 1 + 1 < w2.heap.size := (by have := hb2.size; omega); obtain ⟨hx2, hy2⟩ := lt3 hz2))
  all_goals go_wp2_with fail
  all_goals exact bodyPost_ret (v := .tuple #[.agg #[.int .i64 0, .int .i64 0], .bool false]) (by simp [results, Tryd.results11, go_sem, hc1, hc2, hz1]) rfl ⟨rfl, ((((((((Below.refl _ _).alloc (Nat.le_refl _) _).alloc (by simp) _).alloc (by simp; omega) _).drew).trans (hb1.mono (by simp; omega))).trans (hb2.mono (by omega))).setCell (by simp; omega) _).setCell (by simp; omega) _⟩

set_option maxHeartbeats 1000000 in
theorem div_zero (n1 d1 : Int) (w : World) (h1 : Fr.goodB n1 d1 = true) (h2 : Fr.goodB 0 1 = true) :
    Calls Tryd.prog 11 #[.agg #[.int .i64 n1, .int .i64 d1], .agg #[.int .i64 0, .int .i64 1]] w fun e w' => e = .returned (.tuple #[.agg #[.int .i64 0, .int .i64 0], .bool false]) ∧ Below w.heap.size w w' := by
  have H1 := hide h1
  have H2 := hide h2
  clear h1 h2
  have t1 : True := trivial
  have q1 := frac_eq
  have q2 := frac_eqg
  go_enter Tryd.func11, Tryd.ntmps11
  go_wp2_with fail
  go_region_held3 (fun w' => w'.cell? ⟨w.heap.size, 0, none⟩ = some (.int .i64 n1) ∧ w'.cell? ⟨w.heap.size, 1, none⟩ = some (.int .i64 d1) ∧ w'.cell? ⟨w.heap.size + 1, 0, none⟩ = some (.int .i64 0) ∧ w'.cell? ⟨w.heap.size + 1, 1, none⟩ = some (.int .i64 1) ∧ Below (((w.alloc (Obj.cells #[Value.int IntKind.i64 n1, Value.int IntKind.i64 d1] 24)).alloc (Obj.cells #[Value.int IntKind.i64 0, Value.int IntKind.i64 1] 24)).alloc (Obj.cells #[Value.int IntKind.i64 0, Value.int IntKind.i64 0] 24)).heap.size (((w.alloc (Obj.cells #[Value.int IntKind.i64 n1, Value.int IntKind.i64 d1] 24)).alloc (Obj.cells #[Value.int IntKind.i64 0, Value.int IntKind.i64 1] 24)).alloc (Obj.cells #[Value.int IntKind.i64 0, Value.int IntKind.i64 0] 24)) w') (first | exact start4 _ _ _ _ _ _ | assumption | exact held4 (lt31 _ _ _ _) (lt32 _ _ _ _) ‹_› (by assumption))
    (first
    | (go_at_call 13; have _t := t1; refine (good_yes H1.out).mono ?_; rintro e w1 ⟨rfl, hb⟩; clear _t t1)
    | (go_at_call 13; refine (good_yes H2.out).mono ?_; rintro e w1 ⟨rfl, hb⟩)
    | (go_at_call 29; refine (whole_any _ _).mono ?_; rintro e w1 ⟨rfl, hb⟩))
  obtain ⟨p0, p1, p2, p3, hB⟩ := ‹_ ∧ _ ∧ _ ∧ _ ∧ _›
  obtain ⟨hc, hf⟩ := bcell hB
  have hz0 : w.heap.size + 1 + 1 < w1.heap.size := by have := hB.size; simp only [World.size_alloc] at this; omega
  obtain ⟨hx0, hy0⟩ := lt3 hz0
  go_wp2_with fail
  exact bodyPost_ret (v := .tuple #[.agg #[.int .i64 0, .int .i64 0], .bool false]) (by simp [results, Tryd.results11, go_sem, hc]) rfl ⟨rfl, ((((((Below.refl _ _).alloc (Nat.le_refl _) _).alloc (by simp) _).alloc (by simp; omega) _).trans (hB.mono (by simp; omega))).setCell (by simp; omega) _).setCell (by simp; omega) _⟩

set_option maxHeartbeats 2000000 in
theorem div_yes (n1 d1 n2 d2 : Int) (w : World) (h1 : Fr.goodB n1 d1 = true) (h2 : Fr.goodB n2 d2 = true) (h3 : n2 ≠ 0) :
    Calls Tryd.prog 11 #[.agg #[.int .i64 n1, .int .i64 d1], .agg #[.int .i64 n2, .int .i64 d2]] w fun e w' => e = .returned (.tuple #[.agg #[.int .i64 (Fr.fitN (Fr.mkN (n1 * d2) (d1 * n2)) (Fr.mkD (n1 * d2) (d1 * n2))), .int .i64 (Fr.fitD (Fr.mkN (n1 * d2) (d1 * n2)) (Fr.mkD (n1 * d2) (d1 * n2)))], .bool (Fr.goodB (Fr.mkN (n1 * d2) (d1 * n2)) (Fr.mkD (n1 * d2) (d1 * n2)))]) ∧ Below w.heap.size w w' := by
  obtain ⟨a0, a1, a2, a3⟩ := Fr.good_bd n1 d1 h1
  obtain ⟨b0, b1, b2, b3⟩ := Fr.good_bd n2 d2 h2
  have m1 := wrap_mul n1 d2 (by omega) (by omega) (by omega) (by omega)
  have m3 := wrap_mul d1 n2 (by omega) (by omega) (by omega) (by omega)
  have k1 := Fr.mul_bd n1 d2 (by omega) (by omega) (by omega) (by omega)
  have k3 := Fr.mul_bd d1 n2 (by omega) (by omega) (by omega) (by omega)
  have K4 := hide (show d1 * n2 ≠ 0 from Int.mul_ne_zero (by omega) h3)
  obtain ⟨k10, k11⟩ := k1
  obtain ⟨k30, k31⟩ := k3
  have H1 := hide h1
  have H2 := hide h2
  have hne : (n2 == 0) = false := by simpa using h3
  have t1 : True := trivial
  have q1 : ∀ w, (binOp .eql 24 (.agg #[.int .i64 n2, .int .i64 d2]) (.agg #[.int .i64 0, .int .i64 1])).run Tryd.prog w = .ok (.bool false) w := fun w => by rw [frac_eq, hne]; rfl
  have q2 := frac_eqg
  clear h1 h2 h3
  go_enter Tryd.func11, Tryd.ntmps11
  go_wp2_with fail
  go_region_held3 (fun w' => w'.cell? ⟨w.heap.size, 0, none⟩ = some (.int .i64 n1) ∧ w'.cell? ⟨w.heap.size, 1, none⟩ = some (.int .i64 d1) ∧ w'.cell? ⟨w.heap.size + 1, 0, none⟩ = some (.int .i64 n2) ∧ w'.cell? ⟨w.heap.size + 1, 1, none⟩ = some (.int .i64 d2) ∧ Below (((w.alloc (Obj.cells #[Value.int IntKind.i64 n1, Value.int IntKind.i64 d1] 24)).alloc (Obj.cells #[Value.int IntKind.i64 n2, Value.int IntKind.i64 d2] 24)).alloc (Obj.cells #[Value.int IntKind.i64 0, Value.int IntKind.i64 0] 24)).heap.size (((w.alloc (Obj.cells #[Value.int IntKind.i64 n1, Value.int IntKind.i64 d1] 24)).alloc (Obj.cells #[Value.int IntKind.i64 n2, Value.int IntKind.i64 d2] 24)).alloc (Obj.cells #[Value.int IntKind.i64 0, Value.int IntKind.i64 0] 24)) w') (first | exact start4 _ _ _ _ _ _ | assumption | exact held4 (lt31 _ _ _ _) (lt32 _ _ _ _) ‹_› (by assumption))
    (first
    | (go_at_call 13; have _t := t1; refine (good_yes H1.out).mono ?_; rintro e w1 ⟨rfl, hb⟩; clear _t t1)
    | (go_at_call 13; refine (good_yes H2.out).mono ?_; rintro e w1 ⟨rfl, hb⟩)
    | (go_at_call 29; refine (whole_any _ _).mono ?_; rintro e w1 ⟨rfl, hb⟩))
  obtain ⟨p0, p1, p2, p3, hB⟩ := ‹_ ∧ _ ∧ _ ∧ _ ∧ _›
  obtain ⟨hc, hf⟩ := bcell hB
  have hz0 : w.heap.size + 1 + 1 < w1.heap.size := by have := hB.size; simp only [World.size_alloc] at this; omega
  obtain ⟨hx0, hy0⟩ := lt3 hz0
  go_wp2_with fail
  refine (lowest_any (n1 * d2) (d1 * n2) _ (by omega) (by omega) (by omega) (by omega) K4.out).mono ?_
  rintro e w3 ⟨rfl, hb3⟩
  obtain ⟨hc3, hf3⟩ := bcell hb3
  have hz3 : w.heap.size + 1 + 1 < w3.heap.size := by have := hb3.size; omega
  obtain ⟨hx3, hy3⟩ := lt3 hz3
  go_wp2_with fail
  refine (only_any (Fr.mkN (n1 * d2) (d1 * n2)) (Fr.mkD (n1 * d2) (d1 * n2)) _).mono ?_
  rintro e w4 ⟨rfl, hb4⟩
  obtain ⟨hc4, hf4⟩ := bcell hb4
  have hz4 : w.heap.size + 1 + 1 < w4.heap.size := by have := hb4.size; omega
  obtain ⟨hx4, hy4⟩ := lt3 hz4
  go_wp2_with fail
  exact bodyPost_ret (v := .tuple #[.agg #[.int .i64 (Fr.fitN (Fr.mkN (n1 * d2) (d1 * n2)) (Fr.mkD (n1 * d2) (d1 * n2))), .int .i64 (Fr.fitD (Fr.mkN (n1 * d2) (d1 * n2)) (Fr.mkD (n1 * d2) (d1 * n2)))], .bool (Fr.goodB (Fr.mkN (n1 * d2) (d1 * n2)) (Fr.mkD (n1 * d2) (d1 * n2)))]) (by simp [results, Tryd.results11, go_sem, hc, hc3, hc4, hz0, hz3]) rfl ⟨rfl, ((((((((Below.refl _ _).alloc (Nat.le_refl _) _).alloc (by simp) _).alloc (by simp; omega) _).trans (hB.mono (by simp; omega))).trans (hb3.mono (by omega))).trans (hb4.mono (by omega))).setCell (by simp; omega) _).setCell (by simp; omega) _⟩
end Go.Proofs.YtdmdhmcnedmnbaaDoor
