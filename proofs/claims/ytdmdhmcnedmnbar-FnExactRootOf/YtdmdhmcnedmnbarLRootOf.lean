/-
  At any number RootOf answers as the model does: the law's own walk.
-/
import Derived.Test.YtdmdhmcnedmnbarXo
namespace Go.Proofs.Ytdmdhmcnedmnbar
open Go.RowKit

set_option maxHeartbeats 1000000 in
theorem lRootOf_core (n R : Int) (RB : Bool) (w : World)
    (Hs : Hid (∀ w, Calls Try.prog 14 #[.int .i64 n] w fun e w' => e = .returned (.tuple #[.int .i64 R, .bool RB]) ∧ w' = w))
    (Hi : Hid (∀ w, Calls Try.prog 15 #[.int .i64 n] w fun e w' => e = .returned (.tuple #[.int .i64 R, .bool RB]) ∧ w' = w)) :
    Calls Try.prog 4 #[.int .i64 n] w fun e w' => e = .returned (.bool true) ∧ Below w.heap.size w w' := by
  have hne : (R != R) = false := by simp
  have hnb : (RB != RB) = false := by simp
  go_enter Try.func4, Try.ntmps4
  go_wp2_with fail
  refine (Hs.out _).mono ?_
  rintro e w1 ⟨rfl, rfl⟩
  go_wp2_with fail
  refine (Hi.out _).mono ?_
  rintro e w2 ⟨rfl, rfl⟩
  go_wp2_with fail
  go_ret
  exact ⟨rfl, Below.refl _ _⟩

theorem lRootOf_walk (n : Int) (w : World) :
    Calls Try.prog 4 #[.int .i64 n] w fun e w' => e = .returned (.bool true) ∧ Below w.heap.size w w' := by
  cases h : Rt.sqB n
  · exact lRootOf_core n 0 false w (hide fun _ => srootOf_no h) (hide fun _ => rootOf_no h)
  · exact lRootOf_core n _ true w (hide fun _ => srootOf_yes h) (hide fun _ => rootOf_yes h)
end Go.Proofs.Ytdmdhmcnedmnbar
