/-
  At any two numbers FracOf answers as the model does, every field: the law's own walk, out of what the two functions answer.
-/
import Derived.Test.YtjbmoidhkplomapI
namespace Go.Proofs.Ytjbmoidhkplomap
open Go.RowKit

set_option maxHeartbeats 400000 in
theorem eqFrac_same0 (n d : Int) (w : World) :
    Calls Try.prog 13 #[.agg #[.int .i64 n, .int .i64 d], .agg #[.int .i64 n, .int .i64 d]] w fun e w' => e = .returned (.bool true) ∧ Below w.heap.size w w' := by
  go_enter Try.func13, Try.ntmps13
  go_wp2
  go_ret
  exact ⟨rfl, ((Below.refl _ _).alloc (Nat.le_refl _) _).alloc (by simp) _⟩

set_option maxHeartbeats 1000000 in
theorem lOf_core (n d RN RD : Int) (RB : Bool) (w : World)
    (Hs : Hid (∀ w, Calls Try.prog 24 #[.int .i64 n, .int .i64 d] w fun e w' => e = .returned (.tuple #[.agg #[.int .i64 RN, .int .i64 RD], .bool RB]) ∧ Below w.heap.size w w'))
    (Hi : Hid (∀ w, Calls Try.prog 25 #[.int .i64 n, .int .i64 d] w fun e w' => e = .returned (.tuple #[.agg #[.int .i64 RN, .int .i64 RD], .bool RB]) ∧ Below w.heap.size w w')) :
    Calls Try.prog 6 #[.int .i64 n, .int .i64 d] w fun e w' => e = .returned (.bool true) ∧ Below w.heap.size w w' := by
  have hnb : (RB != RB) = false := by simp
  go_enter Try.func6, Try.ntmps6
  go_wp2_with fail
  refine (Hs.out _).mono ?_
  rintro e w1 ⟨rfl, hb1⟩
  have hz1 := hb1.size
  go_wp2_with fail
  refine (Hi.out _).mono ?_
  rintro e w2 ⟨rfl, hb2⟩
  obtain ⟨hc2, hf2⟩ := bcell hb2
  have hz2 : w1.heap.size + 1 ≤ w2.heap.size := by have := hb2.size; simp at this; omega
  have hx2 : w1.heap.size < w2.heap.size := by omega
  go_wp2_with fail
  refine (eqFrac_same0 RN RD _).mono ?_
  rintro e w3 ⟨rfl, hb3⟩
  go_wp2_with fail
  go_ret
  refine ⟨rfl, ?_⟩
  have q1 : Below w.heap.size w w1 := hb1
  have q2 : Below w.heap.size w1 w2 := (((Below.refl w.heap.size w1).alloc hz1 _).trans (hb2.mono (by simp; omega)))
  exact (q1.trans q2).trans (((Below.refl w.heap.size w2).alloc (by omega) _).trans (hb3.mono (by simp; omega)))

theorem lOf_walk (n d : Int) (w : World) :
    Calls Try.prog 6 #[.int .i64 n, .int .i64 d] w fun e w' => e = .returned (.bool true) ∧ Below w.heap.size w w' := by
  cases h1 : Fr.partB n
  · exact lOf_core n d 0 0 false w (hide fun w => sof_n1 n d w h1) (hide fun w => of_n1 n d w h1)
  · cases h2 : Fr.partB d
    · exact lOf_core n d 0 0 false w (hide fun w => sof_n2 n d w h1 h2) (hide fun w => of_n2 n d w h1 h2)
    · by_cases h3 : d = 0
      · subst h3
        exact lOf_core n 0 0 0 false w (hide fun w => sof_z n w h1 h2) (hide fun w => of_z n w h1 h2)
      · exact lOf_core n d _ _ true w (hide fun w => sof_yes n d w h1 h2 h3) (hide fun w => of_yes n d w h1 h2 h3)
end Go.Proofs.Ytjbmoidhkplomap
