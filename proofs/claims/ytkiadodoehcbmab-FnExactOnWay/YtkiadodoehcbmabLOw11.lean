/-
  At any three spots OnWay answers as the model does: the law's own walk.
-/
import Derived.Test.YtkiadodoehcbmabRf11
namespace Go.Proofs.Ytkiadodoehcbmab
open Go.RowKit

set_option maxHeartbeats 8000000 in
theorem lOw11_core (x y u v p q : Int) (R RB : Bool) (w : World)
    (Hs : Hid (∀ w, Calls Try.prog 4 #[.agg #[.int .i64 x, .int .i64 y], .agg #[.int .i64 u, .int .i64 v], .agg #[.int .i64 p, .int .i64 q]] w fun e w' => e = .returned (.tuple #[.bool R, .bool RB]) ∧ Below w.heap.size w w'))
    (Hi : Hid (∀ w, Calls Try.prog 6 #[.agg #[.int .i64 x, .int .i64 y], .agg #[.int .i64 u, .int .i64 v], .agg #[.int .i64 p, .int .i64 q]] w fun e w' => e = .returned (.tuple #[.bool R, .bool RB]) ∧ Below w.heap.size w w')) :
    Calls Try.prog 3 #[.agg #[.int .i64 x, .int .i64 y], .agg #[.int .i64 u, .int .i64 v], .agg #[.int .i64 p, .int .i64 q]] w fun e w' => e = .returned (.bool true) ∧ Below w.heap.size w w' := by
  have hne : (R != R) = false := by simp
  have hnb : (RB != RB) = false := by simp
  have hbx := w3_bx w (x, y) (u, v) (p, q) 23
  obtain ⟨W, hW⟩ : ∃ W, w3 w (x, y) (u, v) (p, q) 23 = W := ⟨_, rfl⟩
  rw [hW] at hbx
  unfold w3 at hW
  simp only at hW hbx
  have HW := hide hW
  obtain ⟨c0, c1, c2, c3, c4, c5, hB⟩ := hbx
  clear hW
  go_enter Try.func3, Try.ntmps3
  go_upto_region 1 with fail
  rw [HW.out]
  clear HW
  go_region_held3 (fun V => V.cell? ⟨w.heap.size, 0, none⟩ = some (.int .i64 x) ∧ V.cell? ⟨w.heap.size, 1, none⟩ = some (.int .i64 y) ∧ V.cell? ⟨w.heap.size + 1, 0, none⟩ = some (.int .i64 u) ∧ V.cell? ⟨w.heap.size + 1, 1, none⟩ = some (.int .i64 v) ∧ V.cell? ⟨w.heap.size + 2, 0, none⟩ = some (.int .i64 p) ∧ V.cell? ⟨w.heap.size + 2, 1, none⟩ = some (.int .i64 q) ∧ Below w.heap.size w V) (first | exact bx3_drew ⟨c0, c1, c2, c3, c4, c5, hB⟩ | assumption | exact bx3_below ‹_› (by assumption))
    (first
    | (go_at_call 5; refine (toFam_any _ _ _).mono ?_; rintro e w1 ⟨rfl, hb⟩)
    | (go_at_call 4; refine (Hs.out _).mono ?_; rintro e w1 ⟨rfl, hb⟩))
  clear c0 c1 c2 c3 c4 c5 hB
  go_wp2_with fail
  go_region_held3 (fun V => V.cell? ⟨w.heap.size, 0, none⟩ = some (.int .i64 x) ∧ V.cell? ⟨w.heap.size, 1, none⟩ = some (.int .i64 y) ∧ V.cell? ⟨w.heap.size + 1, 0, none⟩ = some (.int .i64 u) ∧ V.cell? ⟨w.heap.size + 1, 1, none⟩ = some (.int .i64 v) ∧ V.cell? ⟨w.heap.size + 2, 0, none⟩ = some (.int .i64 p) ∧ V.cell? ⟨w.heap.size + 2, 1, none⟩ = some (.int .i64 q) ∧ Below w.heap.size w V) (first | assumption | exact bx3_drew ‹_› | exact bx3_below ‹_› (by assumption))
    (first
    | (go_at_call 5; refine (toFam_any _ _ _).mono ?_; rintro e w1 ⟨rfl, hb⟩)
    | (go_at_call 6; refine (Hi.out _).mono ?_; rintro e w1 ⟨rfl, hb⟩))
  go_wp2_with fail
  obtain ⟨_, _, _, _, _, _, hB⟩ := ‹_ ∧ _ ∧ _ ∧ _ ∧ _ ∧ _ ∧ Below w.heap.size w _›
  go_ret
  exact ⟨rfl, hB⟩
theorem lOw11_walk (n0 b0 n1 b1 n2 b2 : Int) (w : World) :
    Calls Try.prog 3 #[.agg #[.int .i64 n0, .int .i64 b0], .agg #[.int .i64 n1, .int .i64 b1], .agg #[.int .i64 n2, .int .i64 b2]] w fun e w' => e = .returned (.bool true) ∧ Below w.heap.size w w' :=
  lOw11_core n0 b0 n1 b1 n2 b2 _ _ w (hide fun w => sow_w (n0, b0) (n1, b1) (n2, b2) w) (hide fun w => ow_w (n0, b0) (n1, b1) (n2, b2) w)
end Go.Proofs.Ytkiadodoehcbmab
