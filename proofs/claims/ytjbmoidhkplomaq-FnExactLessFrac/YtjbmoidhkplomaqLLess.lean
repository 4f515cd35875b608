/-
  At any two fractions LessFrac answers as the model does: the law's own walk, out of what the two functions answer.
-/
import Derived.Test.YtjbmoidhkplomaqF
import Derived.Test.YtjbmoidhkplomaqG
namespace Go.Proofs.Ytjbmoidhkplomaq
open Go.RowKit

set_option maxHeartbeats 4000000 in
theorem lLess_core (n1 d1 n2 d2 : Int) (R RB : Bool) (w : World)
    (Hs : Hid (∀ w, Calls Try.prog 19 #[.agg #[.int .i64 n1, .int .i64 d1], .agg #[.int .i64 n2, .int .i64 d2]] w fun e w' => e = .returned (.tuple #[.bool R, .bool RB]) ∧ Below w.heap.size w w'))
    (Hi : Hid (∀ w, Calls Try.prog 20 #[.agg #[.int .i64 n1, .int .i64 d1], .agg #[.int .i64 n2, .int .i64 d2]] w fun e w' => e = .returned (.tuple #[.bool R, .bool RB]) ∧ Below w.heap.size w w')) :
    Calls Try.prog 7 #[.agg #[.int .i64 n1, .int .i64 d1], .agg #[.int .i64 n2, .int .i64 d2]] w fun e w' => e = .returned (.bool true) ∧ Below w.heap.size w w' := by
  have hne : (R != R) = false := by simp
  have hnb : (RB != RB) = false := by simp
  go_enter Try.func7, Try.ntmps7
  go_wp2_with fail
  go_region_held3 (fun w' => w'.cell? ⟨w.heap.size, 0, none⟩ = some (.int .i64 n1) ∧ w'.cell? ⟨w.heap.size, 1, none⟩ = some (.int .i64 d1) ∧ w'.cell? ⟨w.heap.size + 1, 0, none⟩ = some (.int .i64 n2) ∧ w'.cell? ⟨w.heap.size + 1, 1, none⟩ = some (.int .i64 d2) ∧ Below w.heap.size w w' ∧ w.heap.size + 1 < w'.heap.size) (first | exact ⟨by simp, by simp, by simp, by simp, ((((Below.refl _ _).alloc (Nat.le_refl _) _).alloc (by simp) _)).drew, by simp⟩ | assumption | exact held_below ‹_› (by assumption))
    (first
    | (go_at_call 10; refine (toFrac_any _ _ _).mono ?_; rintro e w1 ⟨rfl, hb⟩)
    | (go_at_call 19; refine (Hs.out _).mono ?_; rintro e w1 ⟨rfl, hb⟩))
  go_wp2_with fail
  go_region_held3 (fun w' => w'.cell? ⟨w.heap.size, 0, none⟩ = some (.int .i64 n1) ∧ w'.cell? ⟨w.heap.size, 1, none⟩ = some (.int .i64 d1) ∧ w'.cell? ⟨w.heap.size + 1, 0, none⟩ = some (.int .i64 n2) ∧ w'.cell? ⟨w.heap.size + 1, 1, none⟩ = some (.int .i64 d2) ∧ Below w.heap.size w w' ∧ w.heap.size + 1 < w'.heap.size) (first | assumption | exact held_drew ‹_› | exact held_below ‹_› (by assumption))
    (first
    | (go_at_call 10; refine (toFrac_any _ _ _).mono ?_; rintro e w1 ⟨rfl, hb⟩)
    | (go_at_call 20; refine (Hi.out _).mono ?_; rintro e w1 ⟨rfl, hb⟩))
  go_wp2_with fail
  obtain ⟨_, _, _, _, hB, _⟩ := ‹_ ∧ _ ∧ _ ∧ _ ∧ _ ∧ _›
  go_ret
  exact ⟨rfl, hB⟩

theorem lLess_walk (n1 d1 n2 d2 : Int) (w : World) :
    Calls Try.prog 7 #[.agg #[.int .i64 n1, .int .i64 d1], .agg #[.int .i64 n2, .int .i64 d2]] w fun e w' => e = .returned (.bool true) ∧ Below w.heap.size w w' := by
  cases h1 : Fr.goodB n1 d1
  · exact lLess_core n1 d1 n2 d2 false false w (hide fun w => sLess_no n1 d1 n2 d2 w (by rw [h1]; rfl)) (hide fun w => less_no1 n1 d1 n2 d2 w h1)
  · cases h2 : Fr.goodB n2 d2
    · exact lLess_core n1 d1 n2 d2 false false w (hide fun w => sLess_no n1 d1 n2 d2 w (by rw [h1, h2]; rfl)) (hide fun w => less_no2 n1 d1 n2 d2 w h1 h2)
    · exact lLess_core n1 d1 n2 d2 _ _ w (hide fun w => sLess_yes n1 d1 n2 d2 w h1 h2) (hide fun w => less_yes n1 d1 n2 d2 w h1 h2)
end Go.Proofs.Ytjbmoidhkplomaq
