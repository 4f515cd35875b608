/-
  At any fraction GoodFrac answers as the model does: the law's own walk, out of what the two functions answer.
-/
import Derived.Test.YtjbmoidhkplomapF
import Derived.Test.YtjbmoidhkplomapG
namespace Go.Proofs.Ytjbmoidhkplomap
open Go.RowKit

set_option maxHeartbeats 1000000 in
theorem lGood_core (n d : Int) (RB : Bool) (w : World)
    (Hs : Hid (∀ w, Calls Try.prog 21 #[.agg #[.int .i64 n, .int .i64 d]] w fun e w' => e = .returned (.bool RB) ∧ Below w.heap.size w w'))
    (Hi : Hid (∀ w, Calls Try.prog 23 #[.agg #[.int .i64 n, .int .i64 d]] w fun e w' => e = .returned (.bool RB) ∧ Below w.heap.size w w')) :
    Calls Try.prog 5 #[.agg #[.int .i64 n, .int .i64 d]] w fun e w' => e = .returned (.bool true) ∧ Below w.heap.size w w' := by
  have hnb : (RB != RB) = false := by simp
  go_enter Try.func5, Try.ntmps5
  go_wp2_with fail
  refine (toFrac_any n d _).mono ?_
  rintro e w1 ⟨rfl, hb1⟩
  obtain ⟨hc1, hf1⟩ := bcell hb1
  have hz1 : w.heap.size < w1.heap.size := by have := hb1.size; simp at this; omega
  go_wp2_with fail
  refine (Hs.out _).mono ?_
  rintro e w2 ⟨rfl, hb2⟩
  obtain ⟨hc2, hf2⟩ := bcell hb2
  have hz2 : w.heap.size < w2.heap.size := by have := hb2.size; omega
  go_wp2_with fail
  refine (toFrac_any n d _).mono ?_
  rintro e w3 ⟨rfl, hb3⟩
  have hz3 : w.heap.size < w3.heap.size := by have := hb3.size; omega
  go_wp2_with fail
  refine (Hi.out _).mono ?_
  rintro e w4 ⟨rfl, hb4⟩
  go_wp2_with fail
  go_ret
  exact ⟨rfl, (((((Below.refl _ _).alloc (Nat.le_refl _) _).trans (hb1.mono (by simp))).trans (hb2.mono (by omega))).trans (hb3.mono (by omega))).trans (hb4.mono (by omega))⟩

theorem lGood_walk (n d : Int) (w : World) :
    Calls Try.prog 5 #[.agg #[.int .i64 n, .int .i64 d]] w fun e w' => e = .returned (.bool true) ∧ Below w.heap.size w w' := by
  exact lGood_core n d _ w (hide fun w => sgood_any n d w) (hide fun w => good_any n d w)
end Go.Proofs.Ytjbmoidhkplomap
