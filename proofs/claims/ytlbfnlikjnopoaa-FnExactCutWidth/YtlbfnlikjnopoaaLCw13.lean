/-
  At any arguments the function answers as the model does: the law's own walk.
-/
import Derived.Test.YtlbfnlikjnopoaaFc13
import Derived.Test.YtlbfnlikjnopoaaSk
namespace Go.Proofs.Ytlbfnlikjnopoaa
open Go.RowKit

set_option maxHeartbeats 400000 in
theorem lCw13_long1 {a0 a1 : Option Addr} {n0 c0 n1 c1 : Nat} {w : World} (h : 1048576 < n1) :
    Calls Try.prog 3 #[.slice a0 n0 c0, .slice a1 n1 c1] w fun e w' => e = .returned (.bool true) ∧ Below w.heap.size w w' := by
  have g1 : (1048576 : Int) < n1 := by omega
  go_enter Try.func3, Try.ntmps3
  go_wp2_with fail
  go_ret
  exact ⟨rfl, Below.refl _ _⟩
set_option maxHeartbeats 400000 in
theorem lCw13_long0 {a0 a1 : Option Addr} {n0 c0 n1 c1 : Nat} {w : World} (h1 : n1 ≤ 1048576) (hm : n0 ≤ maxLen) (h : 1048576 < n0) :
    Calls Try.prog 3 #[.slice a0 n0 c0, .slice a1 n1 c1] w fun e w' => e = .returned (.bool true) ∧ Below w.heap.size w w' := by
  have g1 : ¬ (1048576 : Int) < n1 := by omega
  go_enter Try.func3, Try.ntmps3
  go_wp2_with fail
  refine (szC_long (by omega) (by omega) hm (by omega)).mono ?_
  rintro e w1 ⟨rfl, rfl⟩
  go_wp2_with fail
  go_ret
  exact ⟨rfl, Below.refl _ _⟩
set_option maxHeartbeats 4000000 in
theorem lCw13_main {a0 a1 : Option Addr} {n0 c0 n1 c1 : Nat} {xs0 : List (List Int)} {xs1 : List Int} {w : World} (HX0 : Hid (xs0.length = n0)) (hn0 : n0 ≤ 1048576) (HF0 : Hid (CFits xs0)) (HX1 : Hid (xs1.length = n1)) (hn1 : n1 ≤ 1048576) (HA0 : Hid (CRow w a0 xs0)) (HA1 : Hid (ARow w a1 xs1)) :
    Calls Try.prog 3 #[.slice a0 n0 c0, .slice a1 n1 c1] w fun e w' => e = .returned (.bool true) ∧ Below w.heap.size w w' := by
  have g1 : ¬ (1048576 : Int) < n1 := by omega
  have HS := hide fun (W : World) (b0 : Nat) (b1 : Nat) (r0 : CRow W (some ⟨b0, 0, none⟩) xs0) (r1 : ARow W (some ⟨b1, 0, none⟩) xs1) => scw_any (w := W) (c := n0) (d := n1) HX0.out hn0 HX1.out hn1 r0 r1
  have HI := hide fun (W : World) (b0 : Nat) (b1 : Nat) (r0 : CRow W (some ⟨b0, 0, none⟩) xs0) (r1 : ARow W (some ⟨b1, 0, none⟩) xs1) => cw_any (w := W) (c := n0) (d := n1) HX0.out HX1.out hn1 r0 r1
  generalize Nt.cwI xs0 xs1 = X at HS HI
  have hneX : (X != X) = false := by simp
  generalize Nt.sideB xs0 xs1 = G at HS HI
  have hneG : (G != G) = false := by simp
  go_enter Try.func3, Try.ntmps3
  go_wp2_with fail
  refine (szC_any HX0.out (by omega) (by omega) (by omega) HF0.out HA0.out).mono ?_
  rintro e w0 ⟨r, rfl, hr1, hr2, hw0⟩
  obtain rfl : w = w0 := hw0.symm
  rcases hr2 with rfl | ⟨hr0, hsh⟩
  · go_wp2_with fail
    go_ret
    exact ⟨rfl, Below.refl _ _⟩
  have HSh0 := hide hsh
  have hr3 : ¬ r < 0 := by omega
  clear hsh
  go_wp2_with fail
  refine (toC_own HX0.out hn0 HSh0.out HA0.out).mono ?_
  rintro e w1 ⟨rfl, hb1, o1⟩
  have hB1 := hb1
  clear hb1
  have R1 := hide o1.row
  clear o1
  go_wp2_with fail
  refine (toI_a c1 HX1 hn1 (HA1.out.below hB1)).mono ?_
  rintro e w2 ⟨rfl, hb2, l2⟩
  have hB2 := hB1.trans (hb2.mono hB1.size)
  have R1x := hide (R1.out.below hb2)
  clear R1
  clear hB1
  clear hb2
  have R2 := hide l2
  clear l2
  go_wp2_with fail
  refine (HS.out _ _ _ R1x.out R2.out).mono ?_
  rintro e w3 ⟨rfl, hw3⟩
  obtain rfl : w2 = w3 := hw3.symm
  clear R1x
  clear R2
  go_wp2_with fail
  refine (toC_own HX0.out hn0 HSh0.out (HA0.out.below hB2)).mono ?_
  rintro e w4 ⟨rfl, hb4, o4⟩
  have hB4 := hB2.trans (hb4.mono hB2.size)
  clear hB2
  clear hb4
  have R4 := hide o4.row
  clear o4
  go_wp2_with fail
  refine (toI_a c1 HX1 hn1 (HA1.out.below hB4)).mono ?_
  rintro e w5 ⟨rfl, hb5, l5⟩
  have hB5 := hB4.trans (hb5.mono hB4.size)
  have R4x := hide (R4.out.below hb5)
  clear R4
  clear hB4
  clear hb5
  have R5 := hide l5
  clear l5
  go_wp2_with fail
  refine (HI.out _ _ _ R4x.out R5.out).mono ?_
  rintro e w6 ⟨rfl, hw6⟩
  obtain rfl : w5 = w6 := hw6.symm
  go_wp2_with fail
  refine (toC_own HX0.out hn0 HSh0.out (HA0.out.below hB5)).mono ?_
  rintro e w7 ⟨rfl, hb7, o7⟩
  have hB7 := hB5.trans (hb7.mono hB5.size)
  have R4xx := hide (R4x.out.below hb7)
  clear R4x
  have R5x := hide (R5.out.below hb7)
  clear R5
  clear hB5
  clear hb7
  have R7 := hide o7.row
  clear o7
  go_wp2_with fail
  refine (eqC_b HX0.out hn0 HSh0.out R4xx.out R7.out).mono ?_
  rintro e w8 ⟨rfl, hb8⟩
  clear R7
  have hB8 := hB7.trans (hb8.mono hB7.size)
  have R4xxx := hide (R4xx.out.below hb8)
  clear R4xx
  have R5xx := hide (R5x.out.below hb8)
  clear R5x
  clear hB7
  clear hb8
  go_wp2_with fail
  refine (toI_a c1 HX1 hn1 (HA1.out.below hB8)).mono ?_
  rintro e w9 ⟨rfl, hb9, l9⟩
  have hB9 := hB8.trans (hb9.mono hB8.size)
  have R4xxxx := hide (R4xxx.out.below hb9)
  clear R4xxx
  have R5xxx := hide (R5xx.out.below hb9)
  clear R5xx
  clear hB8
  clear hb9
  have R9 := hide l9
  clear l9
  go_wp2_with fail
  refine (eqI_b HX1.out hn1 R5xxx.out R9.out).mono ?_
  rintro e w10 ⟨rfl, hb10⟩
  clear R9
  have hB10 := hB9.trans (hb10.mono hB9.size)
  have R4xxxxx := hide (R4xxxx.out.below hb10)
  clear R4xxxx
  have R5xxxx := hide (R5xxx.out.below hb10)
  clear R5xxx
  clear hB9
  clear hb10
  go_wp2_with fail
  go_ret
  exact ⟨rfl, hB10⟩
theorem lCw13_walk {a0 a1 : Option Addr} {c0 c1 : Nat} {xs0 : List (List Int)} {xs1 : List Int} {w : World} (hm0 : xs0.length ≤ maxLen) (hf0 : CFits xs0) (ha0 : CRow w a0 xs0) (ha1 : ARow w a1 xs1) :
    Calls Try.prog 3 #[.slice a0 xs0.length c0, .slice a1 xs1.length c1] w fun e w' => e = .returned (.bool true) ∧ Below w.heap.size w w' := by
  by_cases h1 : xs1.length ≤ 1048576
  rotate_left
  · exact lCw13_long1 (by omega)
  by_cases h0 : xs0.length ≤ 1048576
  rotate_left
  · exact lCw13_long0 h1 hm0 (by omega)
  exact lCw13_main (hide rfl) h0 (hide hf0) (hide rfl) h1 (hide ha0) (hide ha1)
end Go.Proofs.Ytlbfnlikjnopoaa
