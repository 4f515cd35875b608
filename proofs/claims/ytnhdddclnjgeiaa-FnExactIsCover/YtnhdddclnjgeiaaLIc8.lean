/-
  At any arguments the function answers as the model does: the law's own walk.
-/
import Derived.Test.YtnhdddclnjgeiaaJg
import Derived.Test.YtnhdddclnjgeiaaSk
namespace Go.Proofs.Ytnhdddclnjgeiaa
open Go.RowKit

set_option maxHeartbeats 400000 in
theorem lIc8_long1 {a0 a1 a2 : Option Addr} {n0 c0 n1 c1 n2 c2 : Nat} {w : World} (h : 1048576 < n1) :
    Calls Try.prog 8 #[.slice a0 n0 c0, .slice a1 n1 c1, .slice a2 n2 c2] w fun e w' => e = .returned (.bool true) ∧ Below w.heap.size w w' := by
  have g1 : (1048576 : Int) < n1 := by omega
  go_enter Try.func8, Try.ntmps8
  go_wp2_with fail
  go_ret
  exact ⟨rfl, Below.refl _ _⟩
set_option maxHeartbeats 400000 in
theorem lIc8_long2 {a0 a1 a2 : Option Addr} {n0 c0 n1 c1 n2 c2 : Nat} {w : World} (h1 : n1 ≤ 1048576) (h : 1048576 < n2) :
    Calls Try.prog 8 #[.slice a0 n0 c0, .slice a1 n1 c1, .slice a2 n2 c2] w fun e w' => e = .returned (.bool true) ∧ Below w.heap.size w w' := by
  have g1 : ¬ (1048576 : Int) < n1 := by omega
  have g2 : (1048576 : Int) < n2 := by omega
  go_enter Try.func8, Try.ntmps8
  go_wp2_with fail
  go_ret
  exact ⟨rfl, Below.refl _ _⟩
set_option maxHeartbeats 400000 in
theorem lIc8_long0 {a0 a1 a2 : Option Addr} {n0 c0 n1 c1 n2 c2 : Nat} {w : World} (h1 : n1 ≤ 1048576) (h2 : n2 ≤ 1048576) (hm : n0 ≤ maxLen) (h : 1048576 < n0) :
    Calls Try.prog 8 #[.slice a0 n0 c0, .slice a1 n1 c1, .slice a2 n2 c2] w fun e w' => e = .returned (.bool true) ∧ Below w.heap.size w w' := by
  have g1 : ¬ (1048576 : Int) < n1 := by omega
  have g2 : ¬ (1048576 : Int) < n2 := by omega
  go_enter Try.func8, Try.ntmps8
  go_wp2_with fail
  refine (szG_long (by omega) (by omega) hm (by omega)).mono ?_
  rintro e w1 ⟨rfl, rfl⟩
  go_wp2_with fail
  go_ret
  exact ⟨rfl, Below.refl _ _⟩
set_option maxHeartbeats 4000000 in
theorem lIc8_main {a0 a1 a2 : Option Addr} {n0 c0 n1 c1 n2 c2 : Nat} {xs0 : List (List Bool)} {xs1 : List Int} {xs2 : List Int} {w : World} (HX0 : Hid (xs0.length = n0)) (hn0 : n0 ≤ 1048576) (HF0 : Hid (GFits xs0)) (HX1 : Hid (xs1.length = n1)) (hn1 : n1 ≤ 1048576) (HX2 : Hid (xs2.length = n2)) (hn2 : n2 ≤ 1048576) (HA0 : Hid (GRow w a0 xs0)) (HA1 : Hid (ARow w a1 xs1)) (HA2 : Hid (ARow w a2 xs2)) :
    Calls Try.prog 8 #[.slice a0 n0 c0, .slice a1 n1 c1, .slice a2 n2 c2] w fun e w' => e = .returned (.bool true) ∧ Below w.heap.size w w' := by
  have g1 : ¬ (1048576 : Int) < n1 := by omega
  have g2 : ¬ (1048576 : Int) < n2 := by omega
  have HS := hide fun (W : World) (b0 : Nat) (b1 : Nat) (b2 : Nat) (r0 : GRow W (some ⟨b0, 0, none⟩) xs0) (r1 : ARow W (some ⟨b1, 0, none⟩) xs1) (r2 : ARow W (some ⟨b2, 0, none⟩) xs2) => sic_any (w := W) (x := n0) (y := n1) (z := n2) HX0.out hn0 HX1.out hn1 HX2.out hn2 r0 r1 r2
  have HI := hide fun (W : World) (b0 : Nat) (b1 : Nat) (b2 : Nat) (r0 : GRow W (some ⟨b0, 0, none⟩) xs0) (r1 : ARow W (some ⟨b1, 0, none⟩) xs1) (r2 : ARow W (some ⟨b2, 0, none⟩) xs2) => ic_any (w := W) (x := n0) (y := n1) (z := n2) HX0.out hn0 HX1.out hn1 HX2.out hn2 r0 r1 r2
  generalize Ma.icI xs0 xs1 xs2 = X at HS HI
  have hneX : (X != X) = false := by simp
  generalize Ma.icB xs0 xs1 xs2 = G at HS HI
  have hneG : (G != G) = false := by simp
  go_enter Try.func8, Try.ntmps8
  go_wp2_with fail
  refine (szG_any HX0.out (by omega) (by omega) (by omega) HF0.out HA0.out).mono ?_
  rintro e w0 ⟨r, rfl, hr1, hr2, hw0⟩
  obtain rfl : w = w0 := hw0.symm
  rcases hr2 with rfl | ⟨hr0, hsh⟩
  · go_wp2_with fail
    go_ret
    exact ⟨rfl, Below.refl _ _⟩
  have HSh0 := hide hsh
  have hr3 : ¬ r < 0 := by omega
  clear hsh
  go_wp2_with fail
  refine (toG_own HX0.out hn0 HSh0.out HA0.out).mono ?_
  rintro e w1 ⟨rfl, hb1, o1⟩
  have hB1 := hb1
  clear hb1
  have R1 := hide o1.row
  clear o1
  go_wp2_with fail
  refine (toI_a c1 HX1 hn1 (HA1.out.below hB1)).mono ?_
  rintro e w2 ⟨rfl, hb2, l2⟩
  have hB2 := hB1.trans (hb2.mono hB1.size)
  have R1x := hide (R1.out.below hb2)
  clear R1
  clear hB1
  clear hb2
  have R2 := hide l2
  clear l2
  go_wp2_with fail
  refine (toI_a c2 HX2 hn2 (HA2.out.below hB2)).mono ?_
  rintro e w3 ⟨rfl, hb3, l3⟩
  have hB3 := hB2.trans (hb3.mono hB2.size)
  have R1xx := hide (R1x.out.below hb3)
  clear R1x
  have R2x := hide (R2.out.below hb3)
  clear R2
  clear hB2
  clear hb3
  have R3 := hide l3
  clear l3
  go_wp2_with fail
  refine (HS.out _ _ _ _ R1xx.out R2x.out R3.out).mono ?_
  rintro e w4 ⟨rfl, hw4⟩
  obtain rfl : w3 = w4 := hw4.symm
  clear R1xx
  clear R2x
  clear R3
  go_wp2_with fail
  refine (toG_own HX0.out hn0 HSh0.out (HA0.out.below hB3)).mono ?_
  rintro e w5 ⟨rfl, hb5, o5⟩
  have hB5 := hB3.trans (hb5.mono hB3.size)
  clear hB3
  clear hb5
  have R5 := hide o5.row
  clear o5
  go_wp2_with fail
  refine (toI_a c1 HX1 hn1 (HA1.out.below hB5)).mono ?_
  rintro e w6 ⟨rfl, hb6, l6⟩
  have hB6 := hB5.trans (hb6.mono hB5.size)
  have R5x := hide (R5.out.below hb6)
  clear R5
  clear hB5
  clear hb6
  have R6 := hide l6
  clear l6
  go_wp2_with fail
  refine (toI_a c2 HX2 hn2 (HA2.out.below hB6)).mono ?_
  rintro e w7 ⟨rfl, hb7, l7⟩
  have hB7 := hB6.trans (hb7.mono hB6.size)
  have R5xx := hide (R5x.out.below hb7)
  clear R5x
  have R6x := hide (R6.out.below hb7)
  clear R6
  clear hB6
  clear hb7
  have R7 := hide l7
  clear l7
  go_wp2_with fail
  refine (HI.out _ _ _ _ R5xx.out R6x.out R7.out).mono ?_
  rintro e w8 ⟨rfl, hw8⟩
  obtain rfl : w7 = w8 := hw8.symm
  go_wp2_with fail
  refine (toG_own HX0.out hn0 HSh0.out (HA0.out.below hB7)).mono ?_
  rintro e w9 ⟨rfl, hb9, o9⟩
  have hB9 := hB7.trans (hb9.mono hB7.size)
  have R5xxx := hide (R5xx.out.below hb9)
  clear R5xx
  have R6xx := hide (R6x.out.below hb9)
  clear R6x
  have R7x := hide (R7.out.below hb9)
  clear R7
  clear hB7
  clear hb9
  have R9 := hide o9.row
  clear o9
  go_wp2_with fail
  refine (eqG_b HX0.out hn0 HSh0.out R5xxx.out R9.out).mono ?_
  rintro e w10 ⟨rfl, hb10⟩
  clear R9
  have hB10 := hB9.trans (hb10.mono hB9.size)
  have R5xxxx := hide (R5xxx.out.below hb10)
  clear R5xxx
  have R6xxx := hide (R6xx.out.below hb10)
  clear R6xx
  have R7xx := hide (R7x.out.below hb10)
  clear R7x
  clear hB9
  clear hb10
  go_wp2_with fail
  refine (toI_a c1 HX1 hn1 (HA1.out.below hB10)).mono ?_
  rintro e w11 ⟨rfl, hb11, l11⟩
  have hB11 := hB10.trans (hb11.mono hB10.size)
  have R5xxxxx := hide (R5xxxx.out.below hb11)
  clear R5xxxx
  have R6xxxx := hide (R6xxx.out.below hb11)
  clear R6xxx
  have R7xxx := hide (R7xx.out.below hb11)
  clear R7xx
  clear hB10
  clear hb11
  have R11 := hide l11
  clear l11
  go_wp2_with fail
  refine (eqI_b HX1.out hn1 R6xxxx.out R11.out).mono ?_
  rintro e w12 ⟨rfl, hb12⟩
  clear R11
  have hB12 := hB11.trans (hb12.mono hB11.size)
  have R5xxxxxx := hide (R5xxxxx.out.below hb12)
  clear R5xxxxx
  have R6xxxxx := hide (R6xxxx.out.below hb12)
  clear R6xxxx
  have R7xxxx := hide (R7xxx.out.below hb12)
  clear R7xxx
  clear hB11
  clear hb12
  go_wp2_with fail
  refine (toI_a c2 HX2 hn2 (HA2.out.below hB12)).mono ?_
  rintro e w13 ⟨rfl, hb13, l13⟩
  have hB13 := hB12.trans (hb13.mono hB12.size)
  have R5xxxxxxx := hide (R5xxxxxx.out.below hb13)
  clear R5xxxxxx
  have R6xxxxxx := hide (R6xxxxx.out.below hb13)
  clear R6xxxxx
  have R7xxxxx := hide (R7xxxx.out.below hb13)
  clear R7xxxx
  clear hB12
  clear hb13
  have R13 := hide l13
  clear l13
  go_wp2_with fail
  refine (eqI_b HX2.out hn2 R7xxxxx.out R13.out).mono ?_
  rintro e w14 ⟨rfl, hb14⟩
  clear R13
  have hB14 := hB13.trans (hb14.mono hB13.size)
  have R5xxxxxxxx := hide (R5xxxxxxx.out.below hb14)
  clear R5xxxxxxx
  have R6xxxxxxx := hide (R6xxxxxx.out.below hb14)
  clear R6xxxxxx
  have R7xxxxxx := hide (R7xxxxx.out.below hb14)
  clear R7xxxxx
  clear hB13
  clear hb14
  go_wp2_with fail
  go_ret
  exact ⟨rfl, hB14⟩
theorem lIc8_walk {a0 a1 a2 : Option Addr} {c0 c1 c2 : Nat} {xs0 : List (List Bool)} {xs1 : List Int} {xs2 : List Int} {w : World} (hm0 : xs0.length ≤ maxLen) (hf0 : GFits xs0) (ha0 : GRow w a0 xs0) (ha1 : ARow w a1 xs1) (ha2 : ARow w a2 xs2) :
    Calls Try.prog 8 #[.slice a0 xs0.length c0, .slice a1 xs1.length c1, .slice a2 xs2.length c2] w fun e w' => e = .returned (.bool true) ∧ Below w.heap.size w w' := by
  by_cases h1 : xs1.length ≤ 1048576
  rotate_left
  · exact lIc8_long1 (by omega)
  by_cases h2 : xs2.length ≤ 1048576
  rotate_left
  · exact lIc8_long2 h1 (by omega)
  by_cases h0 : xs0.length ≤ 1048576
  rotate_left
  · exact lIc8_long0 h1 h2 hm0 (by omega)
  exact lIc8_main (hide rfl) h0 (hide hf0) (hide rfl) h1 (hide rfl) h2 (hide ha0) (hide ha1) (hide ha2)
end Go.Proofs.Ytnhdddclnjgeiaa
