/-
  At any number IsSquare answers as the model does: the law's own walk.
-/
import Derived.Test.YtdmdhmcnedmnbarXo
namespace Go.Proofs.Ytdmdhmcnedmnbar
open Go.RowKit

set_option maxHeartbeats 1000000 in
theorem lIsSquare_core (n : Int) (R RB : Bool) (w : World)
    (Hs : Hid (∀ w, Calls Try.prog 24 #[.int .i64 n] w fun e w' => e = .returned (.tuple #[.bool R, .bool RB]) ∧ w' = w))
    (Hi : Hid (∀ w, Calls Try.prog 25 #[.int .i64 n] w fun e w' => e = .returned (.tuple #[.bool R, .bool RB]) ∧ w' = w)) :
    Calls Try.prog 7 #[.int .i64 n] w fun e w' => e = .returned (.bool true) ∧ Below w.heap.size w w' := by
  have hne : (R != R) = false := by simp
  have hnb : (RB != RB) = false := by simp
  go_enter Try.func7, Try.ntmps7
  go_wp2_with fail
  refine (Hs.out _).mono ?_
  rintro e w1 ⟨rfl, rfl⟩
  go_wp2_with fail
  refine (Hi.out _).mono ?_
  rintro e w2 ⟨rfl, rfl⟩
  go_wp2_with fail
  go_ret
  exact ⟨rfl, Below.refl _ _⟩

theorem lIsSquare_walk (n : Int) (w : World) :
    Calls Try.prog 7 #[.int .i64 n] w fun e w' => e = .returned (.bool true) ∧ Below w.heap.size w w' := by
  cases h : Rt.sqB n
  · exact lIsSquare_core n false false w (hide fun _ => sisSq_no h) (hide fun _ => isSq_no h)
  · exact lIsSquare_core n _ true w (hide fun _ => sisSq_yes h) (hide fun _ => isSq_yes h)
end Go.Proofs.Ytdmdhmcnedmnbar
