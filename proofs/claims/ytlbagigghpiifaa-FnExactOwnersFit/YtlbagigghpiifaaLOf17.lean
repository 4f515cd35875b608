/-
  At any arguments the function answers as the model does: the law's own walk.
-/
import Derived.Test.YtlbagigghpiifaaHc17
import Derived.Test.YtlbagigghpiifaaSk
namespace Go.Proofs.Ytlbagigghpiifaa
open Go.RowKit

set_option maxHeartbeats 400000 in
theorem lOf17_long0 {a0 a1 : Option Addr} {n0 c0 n1 c1 : Nat} {w : World} (h : 1048576 < n0) :
    Calls Try.prog 5 #[.slice a0 n0 c0, .slice a1 n1 c1] w fun e w' => e = .returned (.bool true) ∧ Below w.heap.size w w' := by
  have g0 : (1048576 : Int) < n0 := by omega
  go_enter Try.func5, Try.ntmps5
  go_wp2_with fail
  go_ret
  exact ⟨rfl, Below.refl _ _⟩
set_option maxHeartbeats 400000 in
theorem lOf17_long1 {a0 a1 : Option Addr} {n0 c0 n1 c1 : Nat} {w : World} (h0 : n0 ≤ 1048576) (h : 1048576 < n1) :
    Calls Try.prog 5 #[.slice a0 n0 c0, .slice a1 n1 c1] w fun e w' => e = .returned (.bool true) ∧ Below w.heap.size w w' := by
  have g0 : ¬ (1048576 : Int) < n0 := by omega
  have g1 : (1048576 : Int) < n1 := by omega
  go_enter Try.func5, Try.ntmps5
  go_wp2_with fail
  go_ret
  exact ⟨rfl, Below.refl _ _⟩
set_option maxHeartbeats 4000000 in
theorem lOf17_main {a0 a1 : Option Addr} {n0 c0 n1 c1 : Nat} {xs0 : List Int} {xs1 : List Int} {w : World} (hx0 : Hid (xs0.length = n0)) (hn0 : n0 ≤ 1048576) (hx1 : Hid (xs1.length = n1)) (hn1 : n1 ≤ 1048576) (HA0 : Hid (ARow w a0 xs0)) (HA1 : Hid (ARow w a1 xs1)) :
    Calls Try.prog 5 #[.slice a0 n0 c0, .slice a1 n1 c1] w fun e w' => e = .returned (.bool true) ∧ Below w.heap.size w w' := by
  have g0 : ¬ (1048576 : Int) < n0 := by omega
  have g1 : ¬ (1048576 : Int) < n1 := by omega
  have HS := hide fun (W : World) (b0 : Nat) (b1 : Nat) (r0 : ARow W (some ⟨b0, 0, none⟩) xs0) (r1 : ARow W (some ⟨b1, 0, none⟩) xs1) => sof17_any (d := n0) (e := n1) hx0 (by omega) hx1 hn1 (hide r0) (hide r1)
  have HI := hide fun (W : World) (b0 : Nat) (b1 : Nat) (r0 : ARow W (some ⟨b0, 0, none⟩) xs0) (r1 : ARow W (some ⟨b1, 0, none⟩) xs1) => of17_any (d := n0) (e := n1) hx0 hx1 hn1 (hide r0) (hide r1)
  generalize (Hs.cntB xs0 && Hs.fitB xs0 xs1) = X at HS HI
  generalize (Hs.cntB xs0) = G at HS HI
  have hne : (G != G) = false := by simp
  have hnx : (X != X) = false := by simp
  go_enter Try.func5, Try.ntmps5
  go_wp2_with fail
  refine (toI_a c0 hx0 hn0 HA0.out).mono ?_
  rintro e w1 ⟨rfl, hb1, l1⟩
  have hB1 := hb1
  clear hb1
  have R1 := hide l1
  clear l1
  go_wp2_with fail
  refine (toI_a c1 hx1 hn1 (HA1.out.below hB1)).mono ?_
  rintro e w2 ⟨rfl, hb2, l2⟩
  have hB2 := hB1.trans (hb2.mono hB1.size)
  have R1x := hide (R1.out.below hb2)
  clear hb2 R1 hB1
  have R2 := hide l2
  clear l2
  go_wp2_with fail
  refine (HS.out _ _ _ R1x.out R2.out).mono ?_
  rintro e w3 ⟨rfl, hb3⟩
  have hB3 := hB2.trans (hb3.mono hB2.size)
  have R1xx := hide (R1x.out.below hb3)
  have R2x := hide (R2.out.below hb3)
  clear hb3 R1x R2 hB2
  clear R1xx R2x
  go_wp2_with fail
  refine (toI_a c0 hx0 hn0 (HA0.out.below hB3)).mono ?_
  rintro e w4 ⟨rfl, hb4, l4⟩
  have hB4 := hB3.trans (hb4.mono hB3.size)
  clear hb4 hB3
  have R4 := hide l4
  clear l4
  go_wp2_with fail
  refine (toI_a c1 hx1 hn1 (HA1.out.below hB4)).mono ?_
  rintro e w5 ⟨rfl, hb5, l5⟩
  have hB5 := hB4.trans (hb5.mono hB4.size)
  have R4x := hide (R4.out.below hb5)
  clear hb5 R4 hB4
  have R5 := hide l5
  clear l5
  go_wp2_with fail
  refine (HI.out _ _ _ R4x.out R5.out).mono ?_
  rintro e w6 ⟨rfl, hb6⟩
  have hB6 := hB5.trans (hb6.mono hB5.size)
  have R4xx := hide (R4x.out.below hb6)
  have R5x := hide (R5.out.below hb6)
  clear hb6 R4x R5 hB5
  go_wp2_with fail
  refine (toI_a c0 hx0 hn0 (HA0.out.below hB6)).mono ?_
  rintro e w7 ⟨rfl, hb7, l7⟩
  have hB7 := hB6.trans (hb7.mono hB6.size)
  have R4xxx := hide (R4xx.out.below hb7)
  have R5xx := hide (R5x.out.below hb7)
  clear hb7 R4xx R5x hB6
  have R7 := hide l7
  clear l7
  go_wp2_with fail
  refine (eqI_b hx0.out hn0 R4xxx.out R7.out).mono ?_
  rintro e w8 ⟨rfl, hb8⟩
  clear R7
  clear R4xxx
  have hB8 := hB7.trans (hb8.mono hB7.size)
  have R5xxx := hide (R5xx.out.below hb8)
  clear hb8 R5xx hB7
  go_wp2_with fail
  refine (toI_a c1 hx1 hn1 (HA1.out.below hB8)).mono ?_
  rintro e w9 ⟨rfl, hb9, l9⟩
  have hB9 := hB8.trans (hb9.mono hB8.size)
  have R5xxxx := hide (R5xxx.out.below hb9)
  clear hb9 R5xxx hB8
  have R9 := hide l9
  clear l9
  go_wp2_with fail
  refine (eqI_b hx1.out hn1 R5xxxx.out R9.out).mono ?_
  rintro e w10 ⟨rfl, hb10⟩
  clear R9
  clear R5xxxx
  have hB10 := hB9.trans (hb10.mono hB9.size)
  clear hb10 hB9
  go_wp2_with fail
  go_ret
  exact ⟨rfl, hB10⟩
theorem lOf17_walk {a0 a1 : Option Addr} {c0 c1 : Nat} {xs0 : List Int} {xs1 : List Int} {w : World} (ha0 : ARow w a0 xs0) (ha1 : ARow w a1 xs1) :
    Calls Try.prog 5 #[.slice a0 xs0.length c0, .slice a1 xs1.length c1] w fun e w' => e = .returned (.bool true) ∧ Below w.heap.size w w' := by
  by_cases h0 : xs0.length ≤ 1048576
  rotate_left
  · exact lOf17_long0 (by omega)
  by_cases h1 : xs1.length ≤ 1048576
  rotate_left
  · exact lOf17_long1 h0 (by omega)
  exact lOf17_main (hide rfl) h0 (hide rfl) h1 (hide ha0) (hide ha1)
end Go.Proofs.Ytlbagigghpiifaa
