/-
  At any fraction FracText answers as the model does: the law's own walk, out of what the two functions answer.
-/
import Derived.Test.YtjbmoidhkplomarDoorO
namespace Go.Proofs.YtjbmoidhkplomarDoor
open Go.RowKit

set_option maxHeartbeats 400000 in
theorem toFrac_one (n d : Int) (w : World) :
    Calls Tryd.prog 5 #[.agg #[.int .i64 n, .int .i64 d]] w fun e w' => e = .returned (.agg #[.int .i64 n, .int .i64 d]) ∧ Below w.heap.size w w' := by
  go_enter Tryd.func5, Tryd.ntmps5
  go_wp2
  exact bodyPost_ret (v := .agg #[.int .i64 n, .int .i64 d]) (by simp [results, Tryd.results5, go_sem]) rfl ⟨rfl, (((Below.refl _ _).alloc (Nat.le_refl _) _).alloc (by simp) _).alloc (by simp; omega) _⟩

set_option maxHeartbeats 1000000 in
theorem lText_core (n d : Int) (R : List UInt8) (RB : Bool) (w : World) (HT : Hid (Tab w))
    (Hs : Hid (∀ w, Calls Tryd.prog 4 #[.agg #[.int .i64 n, .int .i64 d]] w fun e w' => e = .returned (.tuple #[.string ⟨R.toArray⟩, .bool RB]) ∧ Below w.heap.size w w'))
    (Hi : Hid (∀ w, Tab w → Calls Tryd.prog 6 #[.agg #[.int .i64 n, .int .i64 d]] w fun e w' => e = .returned (.tuple #[.string ⟨R.toArray⟩, .bool RB]) ∧ Below w.heap.size w w')) :
    Calls Tryd.prog 3 #[.agg #[.int .i64 n, .int .i64 d]] w fun e w' => e = .returned (.bool true) ∧ Below w.heap.size w w' := by
  have hnb : (RB != RB) = false := by simp
  go_enter Tryd.func3, Tryd.ntmps3
  go_wp2_with fail
  refine (toFrac_one n d _).mono ?_
  rintro e w1 ⟨rfl, hb1⟩
  obtain ⟨hc1, hf1⟩ := bcell hb1
  have hB1 : Below w.heap.size w w1 := ((Below.refl _ _).alloc (Nat.le_refl _) _).trans (hb1.mono (by simp))
  have hz1 : w.heap.size < w1.heap.size := by have := hb1.size; simp at this; omega
  go_wp2_with fail
  refine (Hs.out _).mono ?_
  rintro e w2 ⟨rfl, hb2⟩
  obtain ⟨hc2, hf2⟩ := bcell hb2
  have hB2 : Below w.heap.size w w2 := hB1.trans (hb2.mono hB1.size)
  go_wp2_with fail
  refine (toFrac_one n d _).mono ?_
  rintro e w3 ⟨rfl, hb3⟩
  have hB3 : Below w.heap.size w w3 := hB2.trans (hb3.mono hB2.size)
  go_wp2_with fail
  refine (Hi.out _ (HT.out.below hB3)).mono ?_
  rintro e w4 ⟨rfl, hb4⟩
  go_wp2_with fail
  go_ret
  exact ⟨rfl, hB3.trans (hb4.mono hB3.size)⟩

theorem lText_walk (n d : Int) (w : World) (ht : Tab w) :
    Calls Tryd.prog 3 #[.agg #[.int .i64 n, .int .i64 d]] w fun e w' => e = .returned (.bool true) ∧ Below w.heap.size w w' := by
  cases h : Fr.goodB n d
  · exact lText_core n d [] false w (hide ht) (hide fun w => sft_no n d w h) (hide fun w _ => ft_no n d w h)
  · by_cases hd : d = 1
    · subst hd
      exact lText_core n 1 _ true w (hide ht) (hide fun w => sft_one n w h) (hide fun w ht => ft_one n w h ht)
    · exact lText_core n d _ true w (hide ht) (hide fun w => sft_two n d w h hd) (hide fun w ht => ft_two n d w h hd ht)
end Go.Proofs.YtjbmoidhkplomarDoor
