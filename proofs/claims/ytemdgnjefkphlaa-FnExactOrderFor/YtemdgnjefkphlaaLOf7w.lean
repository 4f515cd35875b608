/-
  At any arguments the function answers as the model does, in memory of its own: the law's own walk.
-/
import Derived.Test.YtemdgnjefkphlaaHk
namespace Go.Proofs.Ytemdgnjefkphlaa
open Go.RowKit

set_option maxHeartbeats 400000 in
theorem lOf7w_long0 {a0 a1 : Option Addr} {n0 c0 n1 c1 : Nat} {w : World} (h : 1048576 < n0) :
    Calls Try.prog 7 #[.slice a0 n0 c0, .slice a1 n1 c1] w fun e w' => e = .returned (.bool true) ∧ Below w.heap.size w w' := by
  have g0 : (1048576 : Int) < n0 := by omega
  go_enter Try.func7, Try.ntmps7
  go_wp2_with fail
  go_ret
  exact ⟨rfl, Below.refl _ _⟩
set_option maxHeartbeats 400000 in
theorem lOf7w_long1 {a0 a1 : Option Addr} {n0 c0 n1 c1 : Nat} {w : World} (h0 : n0 ≤ 1048576) (h : 1048576 < n1) :
    Calls Try.prog 7 #[.slice a0 n0 c0, .slice a1 n1 c1] w fun e w' => e = .returned (.bool true) ∧ Below w.heap.size w w' := by
  have g0 : ¬ (1048576 : Int) < n0 := by omega
  have g1 : (1048576 : Int) < n1 := by omega
  go_enter Try.func7, Try.ntmps7
  go_wp2_with fail
  go_ret
  exact ⟨rfl, Below.refl _ _⟩
set_option maxHeartbeats 4000000 in
theorem lOf7w_no {a0 a1 : Option Addr} {n0 c0 n1 c1 : Nat} {xs0 : List Int} {xs1 : List Int} {w : World} (hx0 : Hid (xs0.length = n0)) (hn0 : n0 ≤ 1048576) (hx1 : Hid (xs1.length = n1)) (hn1 : n1 ≤ 1048576) (HA0 : Hid (ARow w a0 xs0)) (HA1 : Hid (ARow w a1 xs1)) (HG : Hid (Od.waysB xs0 xs1 = false)) :
    Calls Try.prog 7 #[.slice a0 n0 c0, .slice a1 n1 c1] w fun e w' => e = .returned (.bool true) ∧ Below w.heap.size w w' := by
  have g0 : ¬ (1048576 : Int) < n0 := by omega
  have g1 : ¬ (1048576 : Int) < n1 := by omega
  have HS := hide fun (W : World) (b0 : Nat) (b1 : Nat) (r0 : ARow W (some ⟨b0, 0, none⟩) xs0) (r1 : ARow W (some ⟨b1, 0, none⟩) xs1) => sof_no (w := W) (c := n0) (d := n1) hx0 hx1 (hide r0) (hide r1) HG
  have HI := hide fun (W : World) (b0 : Nat) (b1 : Nat) (r0 : ARow W (some ⟨b0, 0, none⟩) xs0) (r1 : ARow W (some ⟨b1, 0, none⟩) xs1) => of_no (w := W) (c := n0) (d := n1) hx0 hx1 (hide r0) (hide r1) HG
  go_enter Try.func7, Try.ntmps7
  go_wp2_with fail
  refine (to_ow c0 hx0 hn0 HA0.out).mono ?_
  rintro e w1 ⟨rfl, hb1, o1⟩
  have hB1 := hb1
  have zB1 := hB1.size
  clear hb1
  have O1 := hide o1
  clear o1
  go_wp2_with fail
  refine (to_ow c1 hx1 hn1 (HA1.out.below hB1)).mono ?_
  have q2O1 := O1.out.1
  rintro e w2 ⟨rfl, hb2, o2⟩
  have hB2 := hB1.trans (hb2.mono hB1.size)
  clear hB1
  have zB2 := hB2.size
  have O1x := hide (O1.out.below hb2)
  clear O1
  clear hb2
  have O2 := hide o2
  clear o2
  go_wp2_with fail
  refine (HS.out _ _ _ (O1x.out.row hx0.out) (O2.out.row hx1.out)).mono ?_
  rintro e w3 ⟨rfl, hb3⟩
  have hB3 := hB2.trans (hb3.mono hB2.size)
  clear hB2
  have zB3 := hB3.size
  have O1xx := hide (O1x.out.below hb3)
  clear O1x
  have O2x := hide (O2.out.below hb3)
  clear O2
  clear hb3
  clear O1xx
  clear O2x
  go_wp2_with fail
  refine (to_ow c0 hx0 hn0 (HA0.out.below hB3)).mono ?_
  rintro e w4 ⟨rfl, hb4, o4⟩
  have hB4 := hB3.trans (hb4.mono hB3.size)
  clear hB3
  have zB4 := hB4.size
  clear hb4
  have O4 := hide o4
  clear o4
  go_wp2_with fail
  refine (to_ow c1 hx1 hn1 (HA1.out.below hB4)).mono ?_
  have q5O4 := O4.out.1
  rintro e w5 ⟨rfl, hb5, o5⟩
  have hB5 := hB4.trans (hb5.mono hB4.size)
  clear hB4
  have zB5 := hB5.size
  have O4x := hide (O4.out.below hb5)
  clear O4
  clear hb5
  have O5 := hide o5
  clear o5
  go_wp2_with fail
  refine (HI.out _ _ _ (O4x.out.row hx0.out) (O5.out.row hx1.out)).mono ?_
  rintro e w6 ⟨rfl, hb6⟩
  have hB6 := hB5.trans (hb6.mono hB5.size)
  clear hB5
  have zB6 := hB6.size
  have O4xx := hide (O4x.out.below hb6)
  clear O4x
  have O5x := hide (O5.out.below hb6)
  clear O5
  clear hb6
  go_wp2_with fail
  refine (eqI_zero _ _ _ _ _).mono ?_
  rintro e wz ⟨rfl, hwz⟩
  obtain rfl : w6 = wz := hwz.symm
  go_wp2_with fail
  refine (to_ow c0 hx0 hn0 (HA0.out.below hB6)).mono ?_
  have q7O4xx := O4xx.out.1
  have q7O5x := O5x.out.1
  rintro e w7 ⟨rfl, hb7, o7⟩
  have hB7 := hB6.trans (hb7.mono hB6.size)
  clear hB6
  have zB7 := hB7.size
  have O4xxx := hide (O4xx.out.below hb7)
  clear O4xx
  have O5xx := hide (O5x.out.below hb7)
  clear O5x
  clear hb7
  have O7 := hide o7
  clear o7
  go_wp2_with fail
  refine (eqI_b hx0.out hn0 (O4xxx.out.row hx0.out) (O7.out.row hx0.out)).mono ?_
  rintro e w8 ⟨rfl, hb8⟩
  clear O7
  have hB8 := hB7.trans (hb8.mono hB7.size)
  clear hB7
  have zB8 := hB8.size
  have O4xxxx := hide (O4xxx.out.below hb8)
  clear O4xxx
  have O5xxx := hide (O5xx.out.below hb8)
  clear O5xx
  clear hb8
  go_wp2_with fail
  refine (to_ow c1 hx1 hn1 (HA1.out.below hB8)).mono ?_
  have q9O4xxxx := O4xxxx.out.1
  have q9O5xxx := O5xxx.out.1
  rintro e w9 ⟨rfl, hb9, o9⟩
  have hB9 := hB8.trans (hb9.mono hB8.size)
  clear hB8
  have zB9 := hB9.size
  have O4xxxxx := hide (O4xxxx.out.below hb9)
  clear O4xxxx
  have O5xxxx := hide (O5xxx.out.below hb9)
  clear O5xxx
  clear hb9
  have O9 := hide o9
  clear o9
  go_wp2_with fail
  refine (eqI_b hx1.out hn1 (O5xxxx.out.row hx1.out) (O9.out.row hx1.out)).mono ?_
  rintro e w10 ⟨rfl, hb10⟩
  clear O9
  have hB10 := hB9.trans (hb10.mono hB9.size)
  clear hB9
  have zB10 := hB10.size
  have O4xxxxxx := hide (O4xxxxx.out.below hb10)
  clear O4xxxxx
  have O5xxxxx := hide (O5xxxx.out.below hb10)
  clear O5xxxx
  clear hb10
  go_wp2_with fail
  refine (mark_ow hx0 hn0 (by omega) (by omega) O4xxxxxx.out).mono ?_
  rintro e w11 ⟨rfl, hg11, _⟩
  clear O4xxxxxx
  have hB11 := hB10.trans (grown_below' hg11 (by omega) hB10.size)
  clear hB10
  have zB11 := hB11.size
  have O5xxxxxx := hide (O5xxxxx.out.grown hg11 (by omega))
  clear O5xxxxx
  clear hg11
  go_wp2_with fail
  refine (mark_ow hx1 hn1 (by omega) (by omega) O5xxxxxx.out).mono ?_
  rintro e w12 ⟨rfl, hg12, _⟩
  clear O5xxxxxx
  have hB12 := hB11.trans (grown_below' hg12 (by omega) hB11.size)
  clear hB11
  have zB12 := hB12.size
  clear hg12
  have hk : ¬ (1 + (n0 : Int) + (n1 : Int) : Int) < 0 := by omega
  go_wp2_with fail
  refine (eqI_zero _ _ _ _ _).mono ?_
  rintro e wz ⟨rfl, hwz⟩
  obtain rfl : w12 = wz := hwz.symm
  go_wp2_with fail
  refine (mark_zero _ _ _ _).mono ?_
  rintro e wz ⟨rfl, hwz⟩
  obtain rfl : w12 = wz := hwz.symm
  go_wp2_with fail
  refine (held_zero _ _ _ _).mono ?_
  rintro e wz ⟨rfl, hwz⟩
  obtain rfl : w12 = wz := hwz.symm
  go_wp2_with fail
  refine (to_ow c0 hx0 hn0 (HA0.out.below hB12)).mono ?_
  rintro e w13 ⟨rfl, hb13, o13⟩
  have hB13 := hB12.trans (hb13.mono hB12.size)
  clear hB12
  have zB13 := hB13.size
  clear hb13
  have O13 := hide o13
  clear o13
  go_wp2_with fail
  refine (to_ow c1 hx1 hn1 (HA1.out.below hB13)).mono ?_
  have q14O13 := O13.out.1
  rintro e w14 ⟨rfl, hb14, o14⟩
  have hB14 := hB13.trans (hb14.mono hB13.size)
  clear hB13
  have zB14 := hB14.size
  have O13x := hide (O13.out.below hb14)
  clear O13
  clear hb14
  have O14 := hide o14
  clear o14
  go_wp2_with fail
  refine (HI.out _ _ _ (O13x.out.row hx0.out) (O14.out.row hx1.out)).mono ?_
  rintro e w15 ⟨rfl, hb15⟩
  have hB15 := hB14.trans (hb15.mono hB14.size)
  clear hB14
  have zB15 := hB15.size
  have O13xx := hide (O13x.out.below hb15)
  clear O13x
  have O14x := hide (O14.out.below hb15)
  clear O14
  clear hb15
  clear O13xx
  clear O14x
  go_wp2_with fail
  refine (eqI_zero _ _ _ _ _).mono ?_
  rintro e wz ⟨rfl, hwz⟩
  obtain rfl : w15 = wz := hwz.symm
  go_wp2_with fail
  refine (held_zero _ _ _ _).mono ?_
  rintro e wz ⟨rfl, hwz⟩
  obtain rfl : w15 = wz := hwz.symm
  go_wp2_with fail
  go_ret
  exact ⟨rfl, hB15⟩
set_option maxHeartbeats 4000000 in
theorem lOf7w_yes {a0 a1 : Option Addr} {n0 c0 n1 c1 : Nat} {xs0 : List Int} {xs1 : List Int} {w : World} (hx0 : Hid (xs0.length = n0)) (hn0 : n0 ≤ 1048576) (hx1 : Hid (xs1.length = n1)) (hn1 : n1 ≤ 1048576) (HA0 : Hid (ARow w a0 xs0)) (HA1 : Hid (ARow w a1 xs1)) (HG : Hid (Od.waysB xs0 xs1 = true)) :
    Calls Try.prog 7 #[.slice a0 n0 c0, .slice a1 n1 c1] w fun e w' => e = .returned (.bool true) ∧ Below w.heap.size w w' := by
  have g0 : ¬ (1048576 : Int) < n0 := by omega
  have g1 : ¬ (1048576 : Int) < n1 := by omega
  have HS := hide fun (W : World) (b0 : Nat) (b1 : Nat) (r0 : ARow W (some ⟨b0, 0, none⟩) xs0) (r1 : ARow W (some ⟨b1, 0, none⟩) xs1) => sof_r (w := W) (c := n0) (d := n1) hx0 hx1 (hide r0) (hide r1) HG
  have HI := hide fun (W : World) (b0 : Nat) (b1 : Nat) (r0 : ARow W (some ⟨b0, 0, none⟩) xs0) (r1 : ARow W (some ⟨b1, 0, none⟩) xs1) => of_y (w := W) (c := n0) (d := n1) hx0 hx1 (hide r0) (hide r1) HG
  have HYL : Hid ((ofL xs0 xs1).length = n0) := hide ((ofL_len _ _).trans hx0.out)
  have hyn : n0 ≤ 1048576 := by omega
  generalize ofL xs0 xs1 = Y at HS HI HYL
  have hnm : ((1 : Int) + (n0 : Int) != 1 + (n0 : Int)) = false := by simp
  have hnn : ¬ (1 : Int) + (n0 : Int) < 0 := by omega
  go_enter Try.func7, Try.ntmps7
  go_wp2_with fail
  refine (to_ow c0 hx0 hn0 HA0.out).mono ?_
  rintro e w1 ⟨rfl, hb1, o1⟩
  have hB1 := hb1
  have zB1 := hB1.size
  clear hb1
  have O1 := hide o1
  clear o1
  go_wp2_with fail
  refine (to_ow c1 hx1 hn1 (HA1.out.below hB1)).mono ?_
  have q2O1 := O1.out.1
  rintro e w2 ⟨rfl, hb2, o2⟩
  have hB2 := hB1.trans (hb2.mono hB1.size)
  clear hB1
  have zB2 := hB2.size
  have O1x := hide (O1.out.below hb2)
  clear O1
  clear hb2
  have O2 := hide o2
  clear o2
  go_wp2_with fail
  refine (HS.out _ _ _ (O1x.out.row hx0.out) (O2.out.row hx1.out)).mono ?_
  rintro e w3 ⟨A0, C0, rfl, hb3, r0⟩
  have hB3 := hB2.trans (hb3.mono hB2.size)
  clear hB2
  have zB3 := hB3.size
  have O1xx := hide (O1x.out.below hb3)
  clear O1x
  have O2x := hide (O2.out.below hb3)
  clear O2
  clear hb3
  have R0 := hide r0
  clear r0
  clear O1xx
  clear O2x
  have hS3 := Below.refl w3.heap.size w3
  go_wp2_with fail
  refine (to_ow c0 hx0 hn0 (HA0.out.below hB3)).mono ?_
  rintro e w4 ⟨rfl, hb4, o4⟩
  have hB4 := hB3.trans (hb4.mono hB3.size)
  clear hB3
  have zB4 := hB4.size
  have hS4 := hS3.trans (hb4.mono hS3.size)
  clear hS3
  have zS4 := hS4.size
  clear hb4
  have O4 := hide o4
  clear o4
  go_wp2_with fail
  refine (to_ow c1 hx1 hn1 (HA1.out.below hB4)).mono ?_
  have q5O4 := O4.out.1
  rintro e w5 ⟨rfl, hb5, o5⟩
  have hB5 := hB4.trans (hb5.mono hB4.size)
  clear hB4
  have zB5 := hB5.size
  have hS5 := hS4.trans (hb5.mono hS4.size)
  clear hS4
  have zS5 := hS5.size
  have O4x := hide (O4.out.below hb5)
  clear O4
  clear hb5
  have O5 := hide o5
  clear o5
  go_wp2_with fail
  refine (HI.out _ _ _ (O4x.out.row hx0.out) (O5.out.row hx1.out)).mono ?_
  have q6O4x := O4x.out.1
  have q6O5 := O5.out.1
  rintro e w6 ⟨G6, rfl, hb6, lo6, o6⟩
  have hB6 := hB5.trans (hb6.mono hB5.size)
  clear hB5
  have zB6 := hB6.size
  have hS6 := hS5.trans (hb6.mono hS5.size)
  clear hS5
  have zS6 := hS6.size
  have O4xx := hide (O4x.out.below hb6)
  clear O4x
  have O5x := hide (O5.out.below hb6)
  clear O5
  clear hb6
  have O6 := hide o6
  clear o6
  go_wp2_with fail
  refine (eqI_b HYL.out hyn (O6.out.row HYL.out) (R0.out.below hS6)).mono ?_
  rintro e w7 ⟨rfl, hb7⟩
  have hB7 := hB6.trans (hb7.mono hB6.size)
  clear hB6
  have zB7 := hB7.size
  have hS7 := hS6.trans (hb7.mono hS6.size)
  clear hS6
  have zS7 := hS7.size
  have O4xxx := hide (O4xx.out.below hb7)
  clear O4xx
  have O5xx := hide (O5x.out.below hb7)
  clear O5x
  have O6x := hide (O6.out.below hb7)
  clear O6
  clear hb7
  go_wp2_with fail
  refine (to_ow c0 hx0 hn0 (HA0.out.below hB7)).mono ?_
  have q8O4xxx := O4xxx.out.1
  have q8O5xx := O5xx.out.1
  have q8O6x := O6x.out.1
  rintro e w8 ⟨rfl, hb8, o8⟩
  have hB8 := hB7.trans (hb8.mono hB7.size)
  clear hB7
  have zB8 := hB8.size
  have hS8 := hS7.trans (hb8.mono hS7.size)
  clear hS7
  have zS8 := hS8.size
  have O4xxxx := hide (O4xxx.out.below hb8)
  clear O4xxx
  have O5xxx := hide (O5xx.out.below hb8)
  clear O5xx
  have O6xx := hide (O6x.out.below hb8)
  clear O6x
  clear hb8
  have O8 := hide o8
  clear o8
  go_wp2_with fail
  refine (eqI_b hx0.out hn0 (O4xxxx.out.row hx0.out) (O8.out.row hx0.out)).mono ?_
  rintro e w9 ⟨rfl, hb9⟩
  clear O8
  have hB9 := hB8.trans (hb9.mono hB8.size)
  clear hB8
  have zB9 := hB9.size
  have hS9 := hS8.trans (hb9.mono hS8.size)
  clear hS8
  have zS9 := hS9.size
  have O4xxxxx := hide (O4xxxx.out.below hb9)
  clear O4xxxx
  have O5xxxx := hide (O5xxx.out.below hb9)
  clear O5xxx
  have O6xxx := hide (O6xx.out.below hb9)
  clear O6xx
  clear hb9
  go_wp2_with fail
  refine (to_ow c1 hx1 hn1 (HA1.out.below hB9)).mono ?_
  have q10O4xxxxx := O4xxxxx.out.1
  have q10O5xxxx := O5xxxx.out.1
  have q10O6xxx := O6xxx.out.1
  rintro e w10 ⟨rfl, hb10, o10⟩
  have hB10 := hB9.trans (hb10.mono hB9.size)
  clear hB9
  have zB10 := hB10.size
  have hS10 := hS9.trans (hb10.mono hS9.size)
  clear hS9
  have zS10 := hS10.size
  have O4xxxxxx := hide (O4xxxxx.out.below hb10)
  clear O4xxxxx
  have O5xxxxx := hide (O5xxxx.out.below hb10)
  clear O5xxxx
  have O6xxxx := hide (O6xxx.out.below hb10)
  clear O6xxx
  clear hb10
  have O10 := hide o10
  clear o10
  go_wp2_with fail
  refine (eqI_b hx1.out hn1 (O5xxxxx.out.row hx1.out) (O10.out.row hx1.out)).mono ?_
  rintro e w11 ⟨rfl, hb11⟩
  clear O10
  have hB11 := hB10.trans (hb11.mono hB10.size)
  clear hB10
  have zB11 := hB11.size
  have hS11 := hS10.trans (hb11.mono hS10.size)
  clear hS10
  have zS11 := hS11.size
  have O4xxxxxxx := hide (O4xxxxxx.out.below hb11)
  clear O4xxxxxx
  have O5xxxxxx := hide (O5xxxxx.out.below hb11)
  clear O5xxxxx
  have O6xxxxx := hide (O6xxxx.out.below hb11)
  clear O6xxxx
  clear hb11
  go_wp2_with fail
  refine (mark_ow hx0 hn0 (by omega) (by omega) O4xxxxxxx.out).mono ?_
  rintro e w12 ⟨rfl, hg12, _⟩
  clear O4xxxxxxx
  have hB12 := hB11.trans (grown_below' hg12 (by omega) hB11.size)
  clear hB11
  have zB12 := hB12.size
  have hS12 := hS11.trans (grown_below' hg12 (by omega) hS11.size)
  clear hS11
  have zS12 := hS12.size
  have O5xxxxxxx := hide (O5xxxxxx.out.grown hg12 (by omega))
  clear O5xxxxxx
  have O6xxxxxx := hide (O6xxxxx.out.grown hg12 (by omega))
  clear O6xxxxx
  clear hg12
  go_wp2_with fail
  refine (mark_ow hx1 hn1 (by omega) (by omega) O5xxxxxxx.out).mono ?_
  rintro e w13 ⟨rfl, hg13, _⟩
  clear O5xxxxxxx
  have hB13 := hB12.trans (grown_below' hg13 (by omega) hB12.size)
  clear hB12
  have zB13 := hB13.size
  have hS13 := hS12.trans (grown_below' hg13 (by omega) hS12.size)
  clear hS12
  have zS13 := hS13.size
  have O6xxxxxxx := hide (O6xxxxxx.out.grown hg13 (by omega))
  clear O6xxxxxx
  clear hg13
  have hk : ¬ (1 + (n0 : Int) + (n1 : Int) : Int) < 0 := by omega
  go_wp2_with fail
  refine (eqI_b HYL.out hyn (O6xxxxxxx.out.row HYL.out) (R0.out.below hS13)).mono ?_
  rintro e w14 ⟨rfl, hb14⟩
  have hB14 := hB13.trans (hb14.mono hB13.size)
  clear hB13
  have zB14 := hB14.size
  have hS14 := hS13.trans (hb14.mono hS13.size)
  clear hS13
  have zS14 := hS14.size
  have O6xxxxxxxx := hide (O6xxxxxxx.out.below hb14)
  clear O6xxxxxxx
  clear hb14
  go_wp2_with fail
  refine (mark_ow HYL hyn (by omega) (by omega) O6xxxxxxxx.out).mono ?_
  have q15G := O6xxxxxxxx.out.1
  rintro e w15 ⟨rfl, hg15, hc15⟩
  have H15 : Hid (Hd7 w15 G6 n0) := hide ⟨Nat.lt_of_lt_of_le q15G hg15.size, hc15⟩
  clear hc15
  clear O6xxxxxxxx
  have hB15 := hB14.trans (grown_below' hg15 (by omega) hB14.size)
  clear hB14
  have zB15 := hB15.size
  have hS15 := hS14.trans (grown_below' hg15 (by omega) hS14.size)
  clear hS14
  have zS15 := hS15.size
  clear hg15
  go_wp2_with fail
  refine (held_any G6 n0 n0 1 _ (by omega) (by omega) (by omega) H15.out.2).mono ?_
  rintro e wz ⟨rfl, hwz⟩
  obtain rfl : w15 = wz := hwz.symm
  go_wp2_with fail
  refine (to_ow c0 hx0 hn0 (HA0.out.below hB15)).mono ?_
  have q16H15 := H15.out.1
  rintro e w16 ⟨rfl, hb16, o16⟩
  have hB16 := hB15.trans (hb16.mono hB15.size)
  clear hB15
  have zB16 := hB16.size
  have hS16 := hS15.trans (hb16.mono hS15.size)
  clear hS15
  have zS16 := hS16.size
  have H15x := hide (H15.out.below hb16)
  clear H15
  clear hb16
  have O16 := hide o16
  clear o16
  go_wp2_with fail
  refine (to_ow c1 hx1 hn1 (HA1.out.below hB16)).mono ?_
  have q17H15x := H15x.out.1
  have q17O16 := O16.out.1
  rintro e w17 ⟨rfl, hb17, o17⟩
  have hB17 := hB16.trans (hb17.mono hB16.size)
  clear hB16
  have zB17 := hB17.size
  have hS17 := hS16.trans (hb17.mono hS16.size)
  clear hS16
  have zS17 := hS17.size
  have H15xx := hide (H15x.out.below hb17)
  clear H15x
  have O16x := hide (O16.out.below hb17)
  clear O16
  clear hb17
  have O17 := hide o17
  clear o17
  go_wp2_with fail
  refine (HI.out _ _ _ (O16x.out.row hx0.out) (O17.out.row hx1.out)).mono ?_
  have q18H15xx := H15xx.out.1
  have q18O16x := O16x.out.1
  have q18O17 := O17.out.1
  rintro e w18 ⟨G18, rfl, hb18, lo18, o18⟩
  have hB18 := hB17.trans (hb18.mono hB17.size)
  clear hB17
  have zB18 := hB18.size
  have hS18 := hS17.trans (hb18.mono hS17.size)
  clear hS17
  have zS18 := hS18.size
  have H15xxx := hide (H15xx.out.below hb18)
  clear H15xx
  have O16xx := hide (O16x.out.below hb18)
  clear O16x
  have O17x := hide (O17.out.below hb18)
  clear O17
  clear hb18
  have O18 := hide o18
  clear o18
  clear O16xx
  clear O17x
  go_wp2_with fail
  refine (eqI_b HYL.out hyn (O18.out.row HYL.out) (R0.out.below hS18)).mono ?_
  rintro e w19 ⟨rfl, hb19⟩
  have hB19 := hB18.trans (hb19.mono hB18.size)
  clear hB18
  have zB19 := hB19.size
  have hS19 := hS18.trans (hb19.mono hS18.size)
  clear hS18
  have zS19 := hS19.size
  have H15xxxx := hide (H15xxx.out.below hb19)
  clear H15xxx
  have O18x := hide (O18.out.below hb19)
  clear O18
  clear hb19
  clear O18x
  go_wp2_with fail
  refine (held_any G6 n0 n0 1 _ (by omega) (by omega) (by omega) H15xxxx.out.2).mono ?_
  rintro e wz ⟨rfl, hwz⟩
  obtain rfl : w19 = wz := hwz.symm
  go_wp2_with fail
  go_ret
  exact ⟨rfl, hB19⟩
theorem lOf7w_walk {a0 a1 : Option Addr} {c0 c1 : Nat} {xs0 : List Int} {xs1 : List Int} {w : World} (ha0 : ARow w a0 xs0) (ha1 : ARow w a1 xs1) :
    Calls Try.prog 7 #[.slice a0 xs0.length c0, .slice a1 xs1.length c1] w fun e w' => e = .returned (.bool true) ∧ Below w.heap.size w w' := by
  by_cases h0 : xs0.length ≤ 1048576
  rotate_left
  · exact lOf7w_long0 (by omega)
  by_cases h1 : xs1.length ≤ 1048576
  rotate_left
  · exact lOf7w_long1 h0 (by omega)
  cases hg : Od.waysB xs0 xs1
  · exact lOf7w_no (hide rfl) h0 (hide rfl) h1 (hide ha0) (hide ha1) (hide hg)
  · exact lOf7w_yes (hide rfl) h0 (hide rfl) h1 (hide ha0) (hide ha1) (hide hg)
end Go.Proofs.Ytemdgnjefkphlaa
