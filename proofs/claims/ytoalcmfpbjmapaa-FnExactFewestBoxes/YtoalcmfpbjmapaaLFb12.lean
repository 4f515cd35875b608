/-
  At any arguments the function answers as the model does: the law's own walk.
-/
import Derived.Test.YtoalcmfpbjmapaaIl12
import Derived.Test.YtoalcmfpbjmapaaIm12
import Derived.Test.YtoalcmfpbjmapaaSk
namespace Go.Proofs.Ytoalcmfpbjmapaa
open Go.RowKit

set_option maxHeartbeats 400000 in
theorem lFb12_long0 {a0 : Option Addr} {n0 c0 : Nat} {w : World} (h : 1048576 < n0) :
    Calls Try.prog 6 #[.slice a0 n0 c0] w fun e w' => e = .returned (.bool true) ∧ Below w.heap.size w w' := by
  have g0 : (1048576 : Int) < n0 := by omega
  go_enter Try.func6, Try.ntmps6
  go_wp2_with fail
  go_ret
  exact ⟨rfl, Below.refl _ _⟩
set_option maxHeartbeats 4000000 in
theorem lFb12_main {a0 : Option Addr} {n0 c0 : Nat} {xs0 : List Int} {w : World} (hx0 : Hid (xs0.length = n0)) (hn0 : n0 ≤ 1048576) (HA0 : Hid (ARow w a0 xs0)) :
    Calls Try.prog 6 #[.slice a0 n0 c0] w fun e w' => e = .returned (.bool true) ∧ Below w.heap.size w w' := by
  have g0 : ¬ (1048576 : Int) < n0 := by omega
  have HS := hide fun (W : World) (b0 : Nat) (r0 : ARow W (some ⟨b0, 0, none⟩) xs0) => sfb_w (w := W) (c := n0) hx0.out (Nat.le_refl _) r0
  have HI := hide fun (W : World) (b0 : Nat) (r0 : ARow W (some ⟨b0, 0, none⟩) xs0) => fb_w (w := W) (c := n0) hx0.out r0
  generalize It.fbI xs0 = X at HS HI
  generalize It.goodB xs0 = G at HS HI
  have hne : (G != G) = false := by simp
  have hnx : (X != X) = false := by simp
  go_enter Try.func6, Try.ntmps6
  go_wp2_with fail
  refine (toI_a c0 hx0 hn0 HA0.out).mono ?_
  rintro e w1 ⟨rfl, hb1, l1⟩
  have hB1 := hb1
  clear hb1
  have R1 := hide l1
  clear l1
  go_wp2_with fail
  refine (HS.out _ _ R1.out).mono ?_
  rintro e w2 ⟨rfl, hb2⟩
  have hB2 := hB1.trans (hb2.mono hB1.size)
  have R1x := hide (R1.out.below hb2)
  clear hb2 R1 hB1
  clear R1x
  go_wp2_with fail
  refine (toI_a c0 hx0 hn0 (HA0.out.below hB2)).mono ?_
  rintro e w3 ⟨rfl, hb3, l3⟩
  have hB3 := hB2.trans (hb3.mono hB2.size)
  clear hb3 hB2
  have R3 := hide l3
  clear l3
  go_wp2_with fail
  refine (HI.out _ _ R3.out).mono ?_
  rintro e w4 ⟨rfl, hb4⟩
  have hB4 := hB3.trans (hb4.mono hB3.size)
  have R3x := hide (R3.out.below hb4)
  clear hb4 R3 hB3
  go_wp2_with fail
  refine (toI_a c0 hx0 hn0 (HA0.out.below hB4)).mono ?_
  rintro e w5 ⟨rfl, hb5, l5⟩
  have hB5 := hB4.trans (hb5.mono hB4.size)
  have R3xx := hide (R3x.out.below hb5)
  clear hb5 R3x hB4
  have R5 := hide l5
  clear l5
  go_wp2_with fail
  refine (eqI_b hx0.out hn0 R3xx.out R5.out).mono ?_
  rintro e w6 ⟨rfl, hb6⟩
  clear R5
  clear R3xx
  have hB6 := hB5.trans (hb6.mono hB5.size)
  clear hb6 hB5
  go_wp2_with fail
  go_ret
  exact ⟨rfl, hB6⟩
theorem lFb12_walk {a0 : Option Addr} {c0 : Nat} {xs0 : List Int} {w : World} (ha0 : ARow w a0 xs0) :
    Calls Try.prog 6 #[.slice a0 xs0.length c0] w fun e w' => e = .returned (.bool true) ∧ Below w.heap.size w w' := by
  by_cases h0 : xs0.length ≤ 1048576
  rotate_left
  · exact lFb12_long0 (by omega)
  exact lFb12_main (hide rfl) h0 (hide ha0)
end Go.Proofs.Ytoalcmfpbjmapaa
