/-
  At any number HeronSteps answers as the model does, in memory of its own, which another call leaves alone: the law's own walk.
-/
import Derived.Test.YtdmdhmcnedmnbarXh
namespace Go.Proofs.Ytdmdhmcnedmnbar
open Go.RowKit

theorem own_shape {w : World} {base e : Nat} {v : Value} {xs : List Int} (h : w.ownsRow base e 1 v xs.length (ints xs)) (hx : 1 ≤ xs.length) :
    ∃ g cap, v = .slice (some ⟨g, 0, none⟩) xs.length cap ∧ base ≤ g ∧ g < w.heap.size ∧ ∀ i, i < xs.length → w.cell? ⟨g, 0 + i, none⟩ = some (.int .i64 (xs.getD i 0)) := by
  rcases h.2 with ⟨_, hn⟩ | ⟨g, cap, cur, hv, hb, hg, r⟩
  · omega
  · subst hv
    refine ⟨g, cap, rfl, hb, (Array.getElem?_eq_some_iff.1 hg).1, fun i hi => ?_⟩
    rw [Nat.zero_add, h.cellAt i (by simpa using hi), ints_get xs i hi]
theorem cells_grown {w w' : World} {g b : Nat} {xs : List Int} (hg : w.grownBy w' (some g)) (hb : b < w.heap.size) (hne : b ≠ g) (h : ∀ i, i < xs.length → w.cell? ⟨b, 0 + i, none⟩ = some (.int .i64 (xs.getD i 0))) :
    ∀ i, i < xs.length → w'.cell? ⟨b, 0 + i, none⟩ = some (.int .i64 (xs.getD i 0)) := fun i hi => (World.cell?_of_block (w := w) (a := ⟨b, 0 + i, none⟩) (hg.block b hb (by simpa using hne))).trans (h i hi)
theorem cells_below {w w' : World} {b : Nat} {xs : List Int} (hg : Below w.heap.size w w') (hb : b < w.heap.size) (h : ∀ i, i < xs.length → w.cell? ⟨b, 0 + i, none⟩ = some (.int .i64 (xs.getD i 0))) :
    ∀ i, i < xs.length → w'.cell? ⟨b, 0 + i, none⟩ = some (.int .i64 (xs.getD i 0)) := fun i hi => (hg.cell (p := ⟨b, 0 + i, none⟩) hb).trans (h i hi)
theorem grown_below {w w' : World} {g k : Nat} (hg : w.grownBy w' (some g)) (h : k ≤ g) (hk : k ≤ w.heap.size) : Below k w w' :=
  ⟨hg.os, hg.tape, hg.output, hg.size, fun b hb => hg.block b (by omega) (by simp; omega)⟩

set_option maxHeartbeats 1000000 in
theorem lHeron_no (n : Int) (w : World)
    (Hs : Hid (∀ w, Calls Try.prog 16 #[.int .i64 n] w fun e w' => e = .returned (.tuple #[.slice none 0 0, .bool false]) ∧ w' = w))
    (Hi : Hid (∀ w, Calls Try.prog 17 #[.int .i64 n] w fun e w' => e = .returned (.tuple #[.slice none 0 0, .bool false]) ∧ w' = w)) :
    Calls Try.prog 5 #[.int .i64 n] w fun e w' => e = .returned (.bool true) ∧ Below w.heap.size w w' := by
  go_enter Try.func5, Try.ntmps5
  go_wp2_with fail
  refine (Hs.out _).mono ?_
  rintro e w1 ⟨rfl, rfl⟩
  go_wp2_with fail
  refine (Hi.out _).mono ?_
  rintro e w2 ⟨rfl, rfl⟩
  go_wp2_with fail
  refine (eqI_zero _ _ _ _ _).mono ?_
  rintro e w2 ⟨rfl, rfl⟩
  go_wp2_with fail
  refine (mark_zero _ _ _ _).mono ?_
  rintro e w2 ⟨rfl, rfl⟩
  go_wp2_with fail
  refine (held_zero _ _ _ _).mono ?_
  rintro e w2 ⟨rfl, rfl⟩
  go_wp2_with fail
  refine (Hi.out _).mono ?_
  rintro e w2 ⟨rfl, rfl⟩
  go_wp2_with fail
  refine (eqI_zero _ _ _ _ _).mono ?_
  rintro e w2 ⟨rfl, rfl⟩
  go_wp2_with fail
  refine (held_zero _ _ _ _).mono ?_
  rintro e w2 ⟨rfl, rfl⟩
  go_wp2_with fail
  go_ret
  exact ⟨rfl, Below.refl _ _⟩

set_option maxHeartbeats 1000000 in
theorem lHeron_yes (n : Int) (w : World) (h : Rt.sqB n = true) (hn : 1 ≤ n) :
    Calls Try.prog 5 #[.int .i64 n] w fun e w' => e = .returned (.bool true) ∧ Below w.heap.size w w' := by
  obtain ⟨l0, l1⟩ := Rt.from_len (n := n) (x := n) (by omega) (sqB_bd h).2
  have Hs := hide (fun w => sheron_yes (w := w) h hn)
  have Hi := hide (fun w => heron_yes (w := w) h hn)
  generalize hL : Rt.from_ n n = L at *
  clear hL
  go_enter Try.func5, Try.ntmps5
  go_wp2_with fail
  refine (Hs.out _).mono ?_
  rintro e w1 ⟨v1, rfl, hb1, own1⟩
  obtain ⟨g1, c1, rfl, k1, k1', r1⟩ := own_shape own1 l0
  go_wp2_with fail
  refine (Hi.out _).mono ?_
  rintro e w2 ⟨v2, rfl, hb2, own2⟩
  obtain ⟨g2, c2, rfl, k2, k2', r2⟩ := own_shape own2 l0
  have r1' := cells_below hb2 k1' r1
  have z1 := hb1.size
  have z2 := hb2.size
  go_wp2_with fail
  refine (eqI_same L _ _ _ _ _ _ _ (by omega) r2 r1').mono ?_
  rintro e w3 ⟨rfl, m, rfl⟩
  have own3 : (w2.drewN m).ownsRow w1.heap.size 3 1 (.slice (some ⟨g2, 0, none⟩) L.length c2) L.length (ints L) := own2
  go_wp2_with fail
  refine (mark_any g2 L.length c2 w1.heap.size L 1 _ rfl (by omega) (by omega) (by omega) own3).mono ?_
  rintro e w4 ⟨rfl, ⟨ys, hy, hys, own4⟩, hg4⟩
  have z4 : w2.heap.size ≤ w4.heap.size := hg4.size
  have hcell : ∀ j : Nat, j < L.length → w4.cell? ⟨g2, j, none⟩ = some (.int .i64 (1 + j)) := fun j hj => by
    rw [own4.cellAt j (by omega), ints_get ys j (by omega), hys j hj]
  have r4 := cells_grown (w := w2.drewN m) hg4 (b := g1) (Nat.lt_of_lt_of_le k1' z2) (by omega) r1'
  have hB4 : Below w.heap.size w w4 := hb1.trans ((hb2.mono z1).trans ((below_drewN (Below.refl _ _) _).trans (grown_below hg4 (by omega) (Nat.le_trans z1 z2))))
  have HC := hide hcell
  have HR := hide r4
  clear hcell r4 r1 r1' r2 hys own4 hg4 own2 own1 own3
  go_wp2_with fail
  refine (held_any g2 L.length c2 1 _ (by omega) (by omega) (by omega) HC.out).mono ?_
  rintro e w5 ⟨rfl, hw⟩
  obtain rfl : w4 = w5 := hw.symm
  have hnm : ((1 : Int) + (L.length : Int) != 1 + (L.length : Int)) = false := by simp
  go_wp2_with fail
  refine (Hi.out _).mono ?_
  rintro e w6 ⟨v6, rfl, hb6, own6⟩
  obtain ⟨g6, c6, rfl, k6, k6', r6⟩ := own_shape own6 l0
  have HR6 := hide (cells_below hb6 (show g1 < w4.heap.size by omega) HR.out)
  have HC6 := hide (fun (j : Nat) (hj : j < L.length) => (hb6.cell (p := ⟨g2, j, none⟩) (show g2 < w4.heap.size by omega)).trans (HC.out j hj))
  have HR7 := hide r6
  have hB6 : Below w.heap.size w w6 := hB4.trans (hb6.mono (by omega))
  clear r6 own6
  go_wp2_with fail
  refine (eqI_same L _ _ _ _ _ _ _ (by omega) HR7.out HR6.out).mono ?_
  rintro e w7 ⟨rfl, m', rfl⟩
  have HC7 : Hid (∀ j : Nat, j < L.length → (w6.drewN m').cell? ⟨g2, j, none⟩ = some (.int .i64 (1 + j))) := HC6
  go_wp2_with fail
  refine (held_any g2 L.length c2 1 _ (by omega) (by omega) (by omega) HC7.out).mono ?_
  rintro e w8 ⟨rfl, hw⟩
  obtain rfl : w6.drewN m' = w8 := hw.symm
  go_wp2_with fail
  go_ret
  exact ⟨rfl, below_drewN hB6 _⟩

theorem lHeron_walk (n : Int) (w : World) :
    Calls Try.prog 5 #[.int .i64 n] w fun e w' => e = .returned (.bool true) ∧ Below w.heap.size w w' := by
  cases h : Rt.sqB n
  · exact lHeron_no n w (hide fun _ => sheron_no h) (hide fun _ => heron_no h)
  · by_cases hz : n = 0
    · subst hz; exact lHeron_no 0 w (hide fun _ => sheron_zero) (hide fun _ => heron_zero)
    · exact lHeron_yes n w h (by have := (sqB_bd h).1; omega)
end Go.Proofs.Ytdmdhmcnedmnbar
