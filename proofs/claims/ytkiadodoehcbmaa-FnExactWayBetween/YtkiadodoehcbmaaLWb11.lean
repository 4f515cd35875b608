/-
  At any two spots WayBetween answers as the model does: the law's own walk.
-/
import Derived.Test.YtkiadodoehcbmaaRd11
import Derived.Deep.RegionHeld3
namespace Go.Proofs.Ytkiadodoehcbmaa
open Go.RowKit

set_option maxHeartbeats 4000000 in
theorem lWb11_core (n1 d1 n2 d2 : Int) (R : Int) (RB : Bool) (w : World)
    (Hs : Hid (∀ w, Calls Try.prog 14 #[.agg #[.int .i64 n1, .int .i64 d1], .agg #[.int .i64 n2, .int .i64 d2]] w fun e w' => e = .returned (.tuple #[.int .i64 R, .bool RB]) ∧ Below w.heap.size w w'))
    (Hi : Hid (∀ w, Calls Try.prog 16 #[.agg #[.int .i64 n1, .int .i64 d1], .agg #[.int .i64 n2, .int .i64 d2]] w fun e w' => e = .returned (.tuple #[.int .i64 R, .bool RB]) ∧ Below w.heap.size w w')) :
    Calls Try.prog 4 #[.agg #[.int .i64 n1, .int .i64 d1], .agg #[.int .i64 n2, .int .i64 d2]] w fun e w' => e = .returned (.bool true) ∧ Below w.heap.size w w' := by
  have hne : (R != R) = false := by simp
  have hnb : (RB != RB) = false := by simp
  go_enter Try.func4, Try.ntmps4
  go_wp2_with fail
  go_region_held3 (fun w' => w'.cell? ⟨w.heap.size, 0, none⟩ = some (.int .i64 n1) ∧ w'.cell? ⟨w.heap.size, 1, none⟩ = some (.int .i64 d1) ∧ w'.cell? ⟨w.heap.size + 1, 0, none⟩ = some (.int .i64 n2) ∧ w'.cell? ⟨w.heap.size + 1, 1, none⟩ = some (.int .i64 d2) ∧ Below w.heap.size w w' ∧ w.heap.size + 1 < w'.heap.size) (first | exact ⟨by simp, by simp, by simp, by simp, ((((Below.refl _ _).alloc (Nat.le_refl _) _).alloc (by simp) _)).drew, by simp⟩ | assumption | exact held_below ‹_› (by assumption))
    (first
    | (go_at_call 15; refine (toFam_any _ _ _).mono ?_; rintro e w1 ⟨rfl, hb⟩)
    | (go_at_call 14; refine (Hs.out _).mono ?_; rintro e w1 ⟨rfl, hb⟩))
  go_wp2_with fail
  go_region_held3 (fun w' => w'.cell? ⟨w.heap.size, 0, none⟩ = some (.int .i64 n1) ∧ w'.cell? ⟨w.heap.size, 1, none⟩ = some (.int .i64 d1) ∧ w'.cell? ⟨w.heap.size + 1, 0, none⟩ = some (.int .i64 n2) ∧ w'.cell? ⟨w.heap.size + 1, 1, none⟩ = some (.int .i64 d2) ∧ Below w.heap.size w w' ∧ w.heap.size + 1 < w'.heap.size) (first | assumption | exact held_drew ‹_› | exact held_below ‹_› (by assumption))
    (first
    | (go_at_call 15; refine (toFam_any _ _ _).mono ?_; rintro e w1 ⟨rfl, hb⟩)
    | (go_at_call 16; refine (Hi.out _).mono ?_; rintro e w1 ⟨rfl, hb⟩))
  go_wp2_with fail
  obtain ⟨_, _, _, _, hB, _⟩ := ‹_ ∧ _ ∧ _ ∧ _ ∧ _ ∧ _›
  go_ret
  exact ⟨rfl, hB⟩

theorem lWb11_walk (n1 d1 n2 d2 : Int) (w : World) :
    Calls Try.prog 4 #[.agg #[.int .i64 n1, .int .i64 d1], .agg #[.int .i64 n2, .int .i64 d2]] w fun e w' => e = .returned (.bool true) ∧ Below w.heap.size w w' :=
  lWb11_core n1 d1 n2 d2 _ _ w (hide fun w => swb_w (n1, d1) (n2, d2) w) (hide fun w => wb_w (n1, d1) (n2, d2) w)
end Go.Proofs.Ytkiadodoehcbmaa
