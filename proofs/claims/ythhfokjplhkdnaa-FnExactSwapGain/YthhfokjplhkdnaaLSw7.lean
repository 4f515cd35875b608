/-
  At any arguments the function answers as the model does: the law's own walk.
-/
import Derived.Test.YthhfokjplhkdnaaHg
import Derived.Test.YthhfokjplhkdnaaSk
namespace Go.Proofs.Ythhfokjplhkdnaa
open Go.RowKit

set_option maxHeartbeats 400000 in
theorem lSw7_long0 {a0 a1 a2 : Option Addr} {n0 c0 n1 c1 n2 c2 : Nat} {k3 k4 : Int} {w : World} (h : 1048576 < n0) :
    Calls Try.prog 6 #[.slice a0 n0 c0, .slice a1 n1 c1, .slice a2 n2 c2, .int .i64 k3, .int .i64 k4] w fun e w' => e = .returned (.bool true) ∧ Below w.heap.size w w' := by
  have g0 : (1048576 : Int) < n0 := by omega
  go_enter Try.func6, Try.ntmps6
  go_wp2_with fail
  go_ret
  exact ⟨rfl, Below.refl _ _⟩
set_option maxHeartbeats 400000 in
theorem lSw7_long1 {a0 a1 a2 : Option Addr} {n0 c0 n1 c1 n2 c2 : Nat} {k3 k4 : Int} {w : World} (h0 : n0 ≤ 1048576) (h : 1048576 < n1) :
    Calls Try.prog 6 #[.slice a0 n0 c0, .slice a1 n1 c1, .slice a2 n2 c2, .int .i64 k3, .int .i64 k4] w fun e w' => e = .returned (.bool true) ∧ Below w.heap.size w w' := by
  have g0 : ¬ (1048576 : Int) < n0 := by omega
  have g1 : (1048576 : Int) < n1 := by omega
  go_enter Try.func6, Try.ntmps6
  go_wp2_with fail
  go_ret
  exact ⟨rfl, Below.refl _ _⟩
set_option maxHeartbeats 400000 in
theorem lSw7_long2 {a0 a1 a2 : Option Addr} {n0 c0 n1 c1 n2 c2 : Nat} {k3 k4 : Int} {w : World} (h0 : n0 ≤ 1048576) (h1 : n1 ≤ 1048576) (h : 1048576 < n2) :
    Calls Try.prog 6 #[.slice a0 n0 c0, .slice a1 n1 c1, .slice a2 n2 c2, .int .i64 k3, .int .i64 k4] w fun e w' => e = .returned (.bool true) ∧ Below w.heap.size w w' := by
  have g0 : ¬ (1048576 : Int) < n0 := by omega
  have g1 : ¬ (1048576 : Int) < n1 := by omega
  have g2 : (1048576 : Int) < n2 := by omega
  go_enter Try.func6, Try.ntmps6
  go_wp2_with fail
  go_ret
  exact ⟨rfl, Below.refl _ _⟩
set_option maxHeartbeats 4000000 in
theorem lSw7_main {a0 a1 a2 : Option Addr} {n0 c0 n1 c1 n2 c2 : Nat} {k3 k4 : Int} {xs0 xs1 xs2 : List Int} {w : World} (hx0 : Hid (xs0.length = n0)) (hn0 : n0 ≤ 1048576) (hx1 : Hid (xs1.length = n1)) (hn1 : n1 ≤ 1048576) (hx2 : Hid (xs2.length = n2)) (hn2 : n2 ≤ 1048576) (HA0 : Hid (ARow w a0 xs0)) (HA1 : Hid (ARow w a1 xs1)) (HA2 : Hid (ARow w a2 xs2)) :
    Calls Try.prog 6 #[.slice a0 n0 c0, .slice a1 n1 c1, .slice a2 n2 c2, .int .i64 k3, .int .i64 k4] w fun e w' => e = .returned (.bool true) ∧ Below w.heap.size w w' := by
  have g0 : ¬ (1048576 : Int) < n0 := by omega
  have g1 : ¬ (1048576 : Int) < n1 := by omega
  have g2 : ¬ (1048576 : Int) < n2 := by omega
  have HS := hide fun (W : World) (b0 : Nat) (b1 : Nat) (b2 : Nat) (r0 : ARow W (some ⟨b0, 0, none⟩) xs0) (r1 : ARow W (some ⟨b1, 0, none⟩) xs1) (r2 : ARow W (some ⟨b2, 0, none⟩) xs2) => ssw_w (w := W) (c := n0) (d := n1) (e' := n2) (a := k3) (b := k4) hx0.out hx1.out hx2.out (Nat.le_refl _) r0 r1 r2
  have HI := hide fun (W : World) (b0 : Nat) (b1 : Nat) (b2 : Nat) (r0 : ARow W (some ⟨b0, 0, none⟩) xs0) (r1 : ARow W (some ⟨b1, 0, none⟩) xs1) (r2 : ARow W (some ⟨b2, 0, none⟩) xs2) => sw_w (w := W) (c := n0) (d := n1) (e' := n2) (a := k3) (b := k4) hx0.out hx1.out hx2.out r0 r1 r2
  generalize swI xs0 xs1 xs2 k3 k4 = X at HS HI
  generalize swB xs0 xs1 xs2 k3 k4 = G at HS HI
  have hne : (G != G) = false := by simp
  have hnx : (X != X) = false := by simp
  go_enter Try.func6, Try.ntmps6
  go_wp2_with fail
  refine (toI_a c0 hx0 hn0 HA0.out).mono ?_
  rintro e w1 ⟨rfl, hb1, l1⟩
  have hB1 := hb1
  clear hb1
  have R1 := hide l1
  clear l1
  go_wp2_with fail
  refine (toI_a c1 hx1 hn1 (HA1.out.below hB1)).mono ?_
  rintro e w2 ⟨rfl, hb2, l2⟩
  have hB2 := hB1.trans (hb2.mono hB1.size)
  have R1x := hide (R1.out.below hb2)
  clear hb2 R1 hB1
  have R2 := hide l2
  clear l2
  go_wp2_with fail
  refine (toI_a c2 hx2 hn2 (HA2.out.below hB2)).mono ?_
  rintro e w3 ⟨rfl, hb3, l3⟩
  have hB3 := hB2.trans (hb3.mono hB2.size)
  have R1xx := hide (R1x.out.below hb3)
  have R2x := hide (R2.out.below hb3)
  clear hb3 R1x R2 hB2
  have R3 := hide l3
  clear l3
  go_wp2_with fail
  refine (HS.out _ _ _ _ R1xx.out R2x.out R3.out).mono ?_
  rintro e w4 ⟨rfl, hb4⟩
  have hB4 := hB3.trans (hb4.mono hB3.size)
  have R1xxx := hide (R1xx.out.below hb4)
  have R2xx := hide (R2x.out.below hb4)
  have R3x := hide (R3.out.below hb4)
  clear hb4 R1xx R2x R3 hB3
  clear R1xxx R2xx R3x
  go_wp2_with fail
  refine (toI_a c0 hx0 hn0 (HA0.out.below hB4)).mono ?_
  rintro e w5 ⟨rfl, hb5, l5⟩
  have hB5 := hB4.trans (hb5.mono hB4.size)
  clear hb5 hB4
  have R5 := hide l5
  clear l5
  go_wp2_with fail
  refine (toI_a c1 hx1 hn1 (HA1.out.below hB5)).mono ?_
  rintro e w6 ⟨rfl, hb6, l6⟩
  have hB6 := hB5.trans (hb6.mono hB5.size)
  have R5x := hide (R5.out.below hb6)
  clear hb6 R5 hB5
  have R6 := hide l6
  clear l6
  go_wp2_with fail
  refine (toI_a c2 hx2 hn2 (HA2.out.below hB6)).mono ?_
  rintro e w7 ⟨rfl, hb7, l7⟩
  have hB7 := hB6.trans (hb7.mono hB6.size)
  have R5xx := hide (R5x.out.below hb7)
  have R6x := hide (R6.out.below hb7)
  clear hb7 R5x R6 hB6
  have R7 := hide l7
  clear l7
  go_wp2_with fail
  refine (HI.out _ _ _ _ R5xx.out R6x.out R7.out).mono ?_
  rintro e w8 ⟨rfl, hb8⟩
  have hB8 := hB7.trans (hb8.mono hB7.size)
  have R5xxx := hide (R5xx.out.below hb8)
  have R6xx := hide (R6x.out.below hb8)
  have R7x := hide (R7.out.below hb8)
  clear hb8 R5xx R6x R7 hB7
  go_wp2_with fail
  refine (toI_a c0 hx0 hn0 (HA0.out.below hB8)).mono ?_
  rintro e w9 ⟨rfl, hb9, l9⟩
  have hB9 := hB8.trans (hb9.mono hB8.size)
  have R5xxxx := hide (R5xxx.out.below hb9)
  have R6xxx := hide (R6xx.out.below hb9)
  have R7xx := hide (R7x.out.below hb9)
  clear hb9 R5xxx R6xx R7x hB8
  have R9 := hide l9
  clear l9
  go_wp2_with fail
  refine (eqI_b hx0.out hn0 R5xxxx.out R9.out).mono ?_
  rintro e w10 ⟨rfl, hb10⟩
  clear R9
  clear R5xxxx
  have hB10 := hB9.trans (hb10.mono hB9.size)
  have R6xxxx := hide (R6xxx.out.below hb10)
  have R7xxx := hide (R7xx.out.below hb10)
  clear hb10 R6xxx R7xx hB9
  go_wp2_with fail
  refine (toI_a c1 hx1 hn1 (HA1.out.below hB10)).mono ?_
  rintro e w11 ⟨rfl, hb11, l11⟩
  have hB11 := hB10.trans (hb11.mono hB10.size)
  have R6xxxxx := hide (R6xxxx.out.below hb11)
  have R7xxxx := hide (R7xxx.out.below hb11)
  clear hb11 R6xxxx R7xxx hB10
  have R11 := hide l11
  clear l11
  go_wp2_with fail
  refine (eqI_b hx1.out hn1 R6xxxxx.out R11.out).mono ?_
  rintro e w12 ⟨rfl, hb12⟩
  clear R11
  clear R6xxxxx
  have hB12 := hB11.trans (hb12.mono hB11.size)
  have R7xxxxx := hide (R7xxxx.out.below hb12)
  clear hb12 R7xxxx hB11
  go_wp2_with fail
  refine (toI_a c2 hx2 hn2 (HA2.out.below hB12)).mono ?_
  rintro e w13 ⟨rfl, hb13, l13⟩
  have hB13 := hB12.trans (hb13.mono hB12.size)
  have R7xxxxxx := hide (R7xxxxx.out.below hb13)
  clear hb13 R7xxxxx hB12
  have R13 := hide l13
  clear l13
  go_wp2_with fail
  refine (eqI_b hx2.out hn2 R7xxxxxx.out R13.out).mono ?_
  rintro e w14 ⟨rfl, hb14⟩
  clear R13
  clear R7xxxxxx
  have hB14 := hB13.trans (hb14.mono hB13.size)
  clear hb14 hB13
  go_wp2_with fail
  go_ret
  exact ⟨rfl, hB14⟩
theorem lSw7_walk {a0 a1 a2 : Option Addr} {c0 c1 c2 : Nat} {k3 k4 : Int} {xs0 xs1 xs2 : List Int} {w : World} (ha0 : ARow w a0 xs0) (ha1 : ARow w a1 xs1) (ha2 : ARow w a2 xs2) :
    Calls Try.prog 6 #[.slice a0 xs0.length c0, .slice a1 xs1.length c1, .slice a2 xs2.length c2, .int .i64 k3, .int .i64 k4] w fun e w' => e = .returned (.bool true) ∧ Below w.heap.size w w' := by
  by_cases h0 : xs0.length ≤ 1048576
  rotate_left
  · exact lSw7_long0 (by omega)
  by_cases h1 : xs1.length ≤ 1048576
  rotate_left
  · exact lSw7_long1 h0 (by omega)
  by_cases h2 : xs2.length ≤ 1048576
  rotate_left
  · exact lSw7_long2 h0 h1 (by omega)
  exact lSw7_main (hide rfl) h0 (hide rfl) h1 (hide rfl) h2 (hide ha0) (hide ha1) (hide ha2)
end Go.Proofs.Ythhfokjplhkdnaa
