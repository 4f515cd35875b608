/-
  At any arguments the function answers as the model does, in memory of its own: the law's own walk.
-/
import Derived.Test.YtlbagigghpiifaaHj17
import Derived.Test.YtlbagigghpiifaaHk
namespace Go.Proofs.Ytlbagigghpiifaa
open Go.RowKit

set_option maxHeartbeats 400000 in
theorem lSf17_long0 {a0 a1 a2 : Option Addr} {n0 c0 n1 c1 n2 c2 : Nat} {w : World} (h : 1048576 < n0) :
    Calls Try.prog 3 #[.slice a0 n0 c0, .slice a1 n1 c1, .slice a2 n2 c2] w fun e w' => e = .returned (.bool true) ∧ Below w.heap.size w w' := by
  have g0 : (1048576 : Int) < n0 := by omega
  go_enter Try.func3, Try.ntmps3
  go_wp2_with fail
  go_ret
  exact ⟨rfl, Below.refl _ _⟩
set_option maxHeartbeats 400000 in
theorem lSf17_long1 {a0 a1 a2 : Option Addr} {n0 c0 n1 c1 n2 c2 : Nat} {w : World} (h0 : n0 ≤ 1048576) (h : 1048576 < n1) :
    Calls Try.prog 3 #[.slice a0 n0 c0, .slice a1 n1 c1, .slice a2 n2 c2] w fun e w' => e = .returned (.bool true) ∧ Below w.heap.size w w' := by
  have g0 : ¬ (1048576 : Int) < n0 := by omega
  have g1 : (1048576 : Int) < n1 := by omega
  go_enter Try.func3, Try.ntmps3
  go_wp2_with fail
  go_ret
  exact ⟨rfl, Below.refl _ _⟩
set_option maxHeartbeats 400000 in
theorem lSf17_long2 {a0 a1 a2 : Option Addr} {n0 c0 n1 c1 n2 c2 : Nat} {w : World} (h0 : n0 ≤ 1048576) (h1 : n1 ≤ 1048576) (h : 1048576 < n2) :
    Calls Try.prog 3 #[.slice a0 n0 c0, .slice a1 n1 c1, .slice a2 n2 c2] w fun e w' => e = .returned (.bool true) ∧ Below w.heap.size w w' := by
  have g0 : ¬ (1048576 : Int) < n0 := by omega
  have g1 : ¬ (1048576 : Int) < n1 := by omega
  have g2 : (1048576 : Int) < n2 := by omega
  go_enter Try.func3, Try.ntmps3
  go_wp2_with fail
  go_ret
  exact ⟨rfl, Below.refl _ _⟩
set_option maxHeartbeats 4000000 in
theorem lSf17_no {a0 a1 a2 : Option Addr} {n0 c0 n1 c1 n2 c2 : Nat} {xs0 : List Int} {xs1 : List Int} {xs2 : List Int} {w : World} (hx0 : Hid (xs0.length = n0)) (hn0 : n0 ≤ 1048576) (hx1 : Hid (xs1.length = n1)) (hn1 : n1 ≤ 1048576) (hx2 : Hid (xs2.length = n2)) (hn2 : n2 ≤ 1048576) (HA0 : Hid (ARow w a0 xs0)) (HA1 : Hid (ARow w a1 xs1)) (HA2 : Hid (ARow w a2 xs2)) (HG : Hid ((Hs.dayB xs0 xs1 xs2) = false)) :
    Calls Try.prog 3 #[.slice a0 n0 c0, .slice a1 n1 c1, .slice a2 n2 c2] w fun e w' => e = .returned (.bool true) ∧ Below w.heap.size w w' := by
  have g0 : ¬ (1048576 : Int) < n0 := by omega
  have g1 : ¬ (1048576 : Int) < n1 := by omega
  have g2 : ¬ (1048576 : Int) < n2 := by omega
  have HS := hide fun (W : World) (b0 : Nat) (b1 : Nat) (b2 : Nat) (r0 : ARow W (some ⟨b0, 0, none⟩) xs0) (r1 : ARow W (some ⟨b1, 0, none⟩) xs1) (r2 : ARow W (some ⟨b2, 0, none⟩) xs2) => ssf_no (c := n2) (d := n1) (f := n0) hx0 hx1 hx2 hn2 (hide r0) (hide r1) (hide r2) HG
  have HI := hide fun (W : World) (b0 : Nat) (b1 : Nat) (b2 : Nat) (r0 : ARow W (some ⟨b0, 0, none⟩) xs0) (r1 : ARow W (some ⟨b1, 0, none⟩) xs1) (r2 : ARow W (some ⟨b2, 0, none⟩) xs2) => sf_no (c := n2) (d := n1) (f := n0) hx0 hx1 hx2 (hide r0) (hide r1) (hide r2) HG
  go_enter Try.func3, Try.ntmps3
  go_wp2_with fail
  refine (to_ow c0 hx0 hn0 HA0.out).mono ?_
  rintro e w1 ⟨rfl, hb1, o1⟩
  have hB1 := hb1
  have zB1 := hB1.size
  clear hb1
  have O1 := hide o1
  clear o1
  go_wp2_with fail
  refine (to_ow c1 hx1 hn1 (HA1.out.below hB1)).mono ?_
  have q2O1 := O1.out.1
  rintro e w2 ⟨rfl, hb2, o2⟩
  have hB2 := hB1.trans (hb2.mono hB1.size)
  clear hB1
  have zB2 := hB2.size
  have O1x := hide (O1.out.below hb2)
  clear O1
  clear hb2
  have O2 := hide o2
  clear o2
  go_wp2_with fail
  refine (to_ow c2 hx2 hn2 (HA2.out.below hB2)).mono ?_
  have q3O1x := O1x.out.1
  have q3O2 := O2.out.1
  rintro e w3 ⟨rfl, hb3, o3⟩
  have hB3 := hB2.trans (hb3.mono hB2.size)
  clear hB2
  have zB3 := hB3.size
  have O1xx := hide (O1x.out.below hb3)
  clear O1x
  have O2x := hide (O2.out.below hb3)
  clear O2
  clear hb3
  have O3 := hide o3
  clear o3
  go_wp2_with fail
  refine (HS.out _ _ _ _ (O1xx.out.row hx0.out) (O2x.out.row hx1.out) (O3.out.row hx2.out)).mono ?_
  rintro e w4 ⟨rfl, hb4⟩
  have hB4 := hB3.trans (hb4.mono hB3.size)
  clear hB3
  have zB4 := hB4.size
  have O1xxx := hide (O1xx.out.below hb4)
  clear O1xx
  have O2xx := hide (O2x.out.below hb4)
  clear O2x
  have O3x := hide (O3.out.below hb4)
  clear O3
  clear hb4
  clear O1xxx
  clear O2xx
  clear O3x
  go_wp2_with fail
  refine (to_ow c0 hx0 hn0 (HA0.out.below hB4)).mono ?_
  rintro e w5 ⟨rfl, hb5, o5⟩
  have hB5 := hB4.trans (hb5.mono hB4.size)
  clear hB4
  have zB5 := hB5.size
  clear hb5
  have O5 := hide o5
  clear o5
  go_wp2_with fail
  refine (to_ow c1 hx1 hn1 (HA1.out.below hB5)).mono ?_
  have q6O5 := O5.out.1
  rintro e w6 ⟨rfl, hb6, o6⟩
  have hB6 := hB5.trans (hb6.mono hB5.size)
  clear hB5
  have zB6 := hB6.size
  have O5x := hide (O5.out.below hb6)
  clear O5
  clear hb6
  have O6 := hide o6
  clear o6
  go_wp2_with fail
  refine (to_ow c2 hx2 hn2 (HA2.out.below hB6)).mono ?_
  have q7O5x := O5x.out.1
  have q7O6 := O6.out.1
  rintro e w7 ⟨rfl, hb7, o7⟩
  have hB7 := hB6.trans (hb7.mono hB6.size)
  clear hB6
  have zB7 := hB7.size
  have O5xx := hide (O5x.out.below hb7)
  clear O5x
  have O6x := hide (O6.out.below hb7)
  clear O6
  clear hb7
  have O7 := hide o7
  clear o7
  go_wp2_with fail
  refine (HI.out _ _ _ _ (O5xx.out.row hx0.out) (O6x.out.row hx1.out) (O7.out.row hx2.out)).mono ?_
  rintro e w8 ⟨rfl, hb8⟩
  have hB8 := hB7.trans (hb8.mono hB7.size)
  clear hB7
  have zB8 := hB8.size
  have O5xxx := hide (O5xx.out.below hb8)
  clear O5xx
  have O6xx := hide (O6x.out.below hb8)
  clear O6x
  have O7x := hide (O7.out.below hb8)
  clear O7
  clear hb8
  go_wp2_with fail
  refine (eqI_zero _ _ _ _ _).mono ?_
  rintro e wz ⟨rfl, hwz⟩
  obtain rfl : w8 = wz := hwz.symm
  go_wp2_with fail
  refine (to_ow c0 hx0 hn0 (HA0.out.below hB8)).mono ?_
  have q9O5xxx := O5xxx.out.1
  have q9O6xx := O6xx.out.1
  have q9O7x := O7x.out.1
  rintro e w9 ⟨rfl, hb9, o9⟩
  have hB9 := hB8.trans (hb9.mono hB8.size)
  clear hB8
  have zB9 := hB9.size
  have O5xxxx := hide (O5xxx.out.below hb9)
  clear O5xxx
  have O6xxx := hide (O6xx.out.below hb9)
  clear O6xx
  have O7xx := hide (O7x.out.below hb9)
  clear O7x
  clear hb9
  have O9 := hide o9
  clear o9
  go_wp2_with fail
  refine (eqI_b hx0.out hn0 (O5xxxx.out.row hx0.out) (O9.out.row hx0.out)).mono ?_
  rintro e w10 ⟨rfl, hb10⟩
  clear O9
  have hB10 := hB9.trans (hb10.mono hB9.size)
  clear hB9
  have zB10 := hB10.size
  have O5xxxxx := hide (O5xxxx.out.below hb10)
  clear O5xxxx
  have O6xxxx := hide (O6xxx.out.below hb10)
  clear O6xxx
  have O7xxx := hide (O7xx.out.below hb10)
  clear O7xx
  clear hb10
  go_wp2_with fail
  refine (to_ow c1 hx1 hn1 (HA1.out.below hB10)).mono ?_
  have q11O5xxxxx := O5xxxxx.out.1
  have q11O6xxxx := O6xxxx.out.1
  have q11O7xxx := O7xxx.out.1
  rintro e w11 ⟨rfl, hb11, o11⟩
  have hB11 := hB10.trans (hb11.mono hB10.size)
  clear hB10
  have zB11 := hB11.size
  have O5xxxxxx := hide (O5xxxxx.out.below hb11)
  clear O5xxxxx
  have O6xxxxx := hide (O6xxxx.out.below hb11)
  clear O6xxxx
  have O7xxxx := hide (O7xxx.out.below hb11)
  clear O7xxx
  clear hb11
  have O11 := hide o11
  clear o11
  go_wp2_with fail
  refine (eqI_b hx1.out hn1 (O6xxxxx.out.row hx1.out) (O11.out.row hx1.out)).mono ?_
  rintro e w12 ⟨rfl, hb12⟩
  clear O11
  have hB12 := hB11.trans (hb12.mono hB11.size)
  clear hB11
  have zB12 := hB12.size
  have O5xxxxxxx := hide (O5xxxxxx.out.below hb12)
  clear O5xxxxxx
  have O6xxxxxx := hide (O6xxxxx.out.below hb12)
  clear O6xxxxx
  have O7xxxxx := hide (O7xxxx.out.below hb12)
  clear O7xxxx
  clear hb12
  go_wp2_with fail
  refine (to_ow c2 hx2 hn2 (HA2.out.below hB12)).mono ?_
  have q13O5xxxxxxx := O5xxxxxxx.out.1
  have q13O6xxxxxx := O6xxxxxx.out.1
  have q13O7xxxxx := O7xxxxx.out.1
  rintro e w13 ⟨rfl, hb13, o13⟩
  have hB13 := hB12.trans (hb13.mono hB12.size)
  clear hB12
  have zB13 := hB13.size
  have O5xxxxxxxx := hide (O5xxxxxxx.out.below hb13)
  clear O5xxxxxxx
  have O6xxxxxxx := hide (O6xxxxxx.out.below hb13)
  clear O6xxxxxx
  have O7xxxxxx := hide (O7xxxxx.out.below hb13)
  clear O7xxxxx
  clear hb13
  have O13 := hide o13
  clear o13
  go_wp2_with fail
  refine (eqI_b hx2.out hn2 (O7xxxxxx.out.row hx2.out) (O13.out.row hx2.out)).mono ?_
  rintro e w14 ⟨rfl, hb14⟩
  clear O13
  have hB14 := hB13.trans (hb14.mono hB13.size)
  clear hB13
  have zB14 := hB14.size
  have O5xxxxxxxxx := hide (O5xxxxxxxx.out.below hb14)
  clear O5xxxxxxxx
  have O6xxxxxxxx := hide (O6xxxxxxx.out.below hb14)
  clear O6xxxxxxx
  have O7xxxxxxx := hide (O7xxxxxx.out.below hb14)
  clear O7xxxxxx
  clear hb14
  go_wp2_with fail
  refine (mark_ow hx0 hn0 (by omega) (by omega) O5xxxxxxxxx.out).mono ?_
  rintro e w15 ⟨rfl, hg15, _⟩
  clear O5xxxxxxxxx
  have hB15 := hB14.trans (grown_below' hg15 (by omega) hB14.size)
  clear hB14
  have zB15 := hB15.size
  have O6xxxxxxxxx := hide (O6xxxxxxxx.out.grown hg15 (by omega))
  clear O6xxxxxxxx
  have O7xxxxxxxx := hide (O7xxxxxxx.out.grown hg15 (by omega))
  clear O7xxxxxxx
  clear hg15
  go_wp2_with fail
  refine (mark_ow hx1 hn1 (by omega) (by omega) O6xxxxxxxxx.out).mono ?_
  rintro e w16 ⟨rfl, hg16, _⟩
  clear O6xxxxxxxxx
  have hB16 := hB15.trans (grown_below' hg16 (by omega) hB15.size)
  clear hB15
  have zB16 := hB16.size
  have O7xxxxxxxxx := hide (O7xxxxxxxx.out.grown hg16 (by omega))
  clear O7xxxxxxxx
  clear hg16
  go_wp2_with fail
  refine (mark_ow hx2 hn2 (by omega) (by omega) O7xxxxxxxxx.out).mono ?_
  rintro e w17 ⟨rfl, hg17, _⟩
  clear O7xxxxxxxxx
  have hB17 := hB16.trans (grown_below' hg17 (by omega) hB16.size)
  clear hB16
  have zB17 := hB17.size
  clear hg17
  have hk : ¬ (1 + (n0 : Int) + (n1 : Int) + (n2 : Int) : Int) < 0 := by omega
  go_wp2_with fail
  refine (eqI_zero _ _ _ _ _).mono ?_
  rintro e wz ⟨rfl, hwz⟩
  obtain rfl : w17 = wz := hwz.symm
  go_wp2_with fail
  refine (mark_zero _ _ _ _).mono ?_
  rintro e wz ⟨rfl, hwz⟩
  obtain rfl : w17 = wz := hwz.symm
  go_wp2_with fail
  refine (held_zero _ _ _ _).mono ?_
  rintro e wz ⟨rfl, hwz⟩
  obtain rfl : w17 = wz := hwz.symm
  go_wp2_with fail
  refine (to_ow c0 hx0 hn0 (HA0.out.below hB17)).mono ?_
  rintro e w18 ⟨rfl, hb18, o18⟩
  have hB18 := hB17.trans (hb18.mono hB17.size)
  clear hB17
  have zB18 := hB18.size
  clear hb18
  have O18 := hide o18
  clear o18
  go_wp2_with fail
  refine (to_ow c1 hx1 hn1 (HA1.out.below hB18)).mono ?_
  have q19O18 := O18.out.1
  rintro e w19 ⟨rfl, hb19, o19⟩
  have hB19 := hB18.trans (hb19.mono hB18.size)
  clear hB18
  have zB19 := hB19.size
  have O18x := hide (O18.out.below hb19)
  clear O18
  clear hb19
  have O19 := hide o19
  clear o19
  go_wp2_with fail
  refine (to_ow c2 hx2 hn2 (HA2.out.below hB19)).mono ?_
  have q20O18x := O18x.out.1
  have q20O19 := O19.out.1
  rintro e w20 ⟨rfl, hb20, o20⟩
  have hB20 := hB19.trans (hb20.mono hB19.size)
  clear hB19
  have zB20 := hB20.size
  have O18xx := hide (O18x.out.below hb20)
  clear O18x
  have O19x := hide (O19.out.below hb20)
  clear O19
  clear hb20
  have O20 := hide o20
  clear o20
  go_wp2_with fail
  refine (HI.out _ _ _ _ (O18xx.out.row hx0.out) (O19x.out.row hx1.out) (O20.out.row hx2.out)).mono ?_
  rintro e w21 ⟨rfl, hb21⟩
  have hB21 := hB20.trans (hb21.mono hB20.size)
  clear hB20
  have zB21 := hB21.size
  have O18xxx := hide (O18xx.out.below hb21)
  clear O18xx
  have O19xx := hide (O19x.out.below hb21)
  clear O19x
  have O20x := hide (O20.out.below hb21)
  clear O20
  clear hb21
  clear O18xxx
  clear O19xx
  clear O20x
  go_wp2_with fail
  refine (eqI_zero _ _ _ _ _).mono ?_
  rintro e wz ⟨rfl, hwz⟩
  obtain rfl : w21 = wz := hwz.symm
  go_wp2_with fail
  refine (held_zero _ _ _ _).mono ?_
  rintro e wz ⟨rfl, hwz⟩
  obtain rfl : w21 = wz := hwz.symm
  go_wp2_with fail
  go_ret
  exact ⟨rfl, hB21⟩
set_option maxHeartbeats 4000000 in
theorem lSf17_yes {a0 a1 a2 : Option Addr} {n0 c0 n1 c1 n2 c2 : Nat} {xs0 : List Int} {xs1 : List Int} {xs2 : List Int} {w : World} (hx0 : Hid (xs0.length = n0)) (hn0 : n0 ≤ 1048576) (hx1 : Hid (xs1.length = n1)) (hn1 : n1 ≤ 1048576) (hx2 : Hid (xs2.length = n2)) (hn2 : n2 ≤ 1048576) (HA0 : Hid (ARow w a0 xs0)) (HA1 : Hid (ARow w a1 xs1)) (HA2 : Hid (ARow w a2 xs2)) (HG : Hid ((Hs.dayB xs0 xs1 xs2) = true)) :
    Calls Try.prog 3 #[.slice a0 n0 c0, .slice a1 n1 c1, .slice a2 n2 c2] w fun e w' => e = .returned (.bool true) ∧ Below w.heap.size w w' := by
  have g0 : ¬ (1048576 : Int) < n0 := by omega
  have g1 : ¬ (1048576 : Int) < n1 := by omega
  have g2 : ¬ (1048576 : Int) < n2 := by omega
  have HS := hide fun (W : World) (b0 : Nat) (b1 : Nat) (b2 : Nat) (r0 : ARow W (some ⟨b0, 0, none⟩) xs0) (r1 : ARow W (some ⟨b1, 0, none⟩) xs1) (r2 : ARow W (some ⟨b2, 0, none⟩) xs2) => ssf_r (c := n2) (d := n1) (f := n0) hx0 hx1 hx2 hn2 (hide r0) (hide r1) (hide r2) HG
  have HI := hide fun (W : World) (b0 : Nat) (b1 : Nat) (b2 : Nat) (r0 : ARow W (some ⟨b0, 0, none⟩) xs0) (r1 : ARow W (some ⟨b1, 0, none⟩) xs1) (r2 : ARow W (some ⟨b2, 0, none⟩) xs2) => sf_yes (c := n2) (d := n1) (f := n0) hx0 hx1 hx2 (hide r0) (hide r1) (hide r2) HG
  have HYL : Hid (((Hs.ownL xs0 xs1 xs2)).length = n2) := hide ((Hs.ownL_len _ _ _).trans hx2.out)
  have hyn : n2 ≤ 1048576 := by omega
  generalize (Hs.ownL xs0 xs1 xs2) = Y at HS HI HYL
  have hnm : ((1 : Int) + (n2 : Int) != 1 + (n2 : Int)) = false := by simp
  have hnn : ¬ (1 : Int) + (n2 : Int) < 0 := by omega
  go_enter Try.func3, Try.ntmps3
  go_wp2_with fail
  refine (to_ow c0 hx0 hn0 HA0.out).mono ?_
  rintro e w1 ⟨rfl, hb1, o1⟩
  have hB1 := hb1
  have zB1 := hB1.size
  clear hb1
  have O1 := hide o1
  clear o1
  go_wp2_with fail
  refine (to_ow c1 hx1 hn1 (HA1.out.below hB1)).mono ?_
  have q2O1 := O1.out.1
  rintro e w2 ⟨rfl, hb2, o2⟩
  have hB2 := hB1.trans (hb2.mono hB1.size)
  clear hB1
  have zB2 := hB2.size
  have O1x := hide (O1.out.below hb2)
  clear O1
  clear hb2
  have O2 := hide o2
  clear o2
  go_wp2_with fail
  refine (to_ow c2 hx2 hn2 (HA2.out.below hB2)).mono ?_
  have q3O1x := O1x.out.1
  have q3O2 := O2.out.1
  rintro e w3 ⟨rfl, hb3, o3⟩
  have hB3 := hB2.trans (hb3.mono hB2.size)
  clear hB2
  have zB3 := hB3.size
  have O1xx := hide (O1x.out.below hb3)
  clear O1x
  have O2x := hide (O2.out.below hb3)
  clear O2
  clear hb3
  have O3 := hide o3
  clear o3
  go_wp2_with fail
  refine (HS.out _ _ _ _ (O1xx.out.row hx0.out) (O2x.out.row hx1.out) (O3.out.row hx2.out)).mono ?_
  rintro e w4 ⟨A0, C0, rfl, hb4, r0⟩
  have hB4 := hB3.trans (hb4.mono hB3.size)
  clear hB3
  have zB4 := hB4.size
  have O1xxx := hide (O1xx.out.below hb4)
  clear O1xx
  have O2xx := hide (O2x.out.below hb4)
  clear O2x
  have O3x := hide (O3.out.below hb4)
  clear O3
  clear hb4
  have R0 := hide r0
  clear r0
  clear O1xxx
  clear O2xx
  clear O3x
  have hS4 := Below.refl w4.heap.size w4
  go_wp2_with fail
  refine (to_ow c0 hx0 hn0 (HA0.out.below hB4)).mono ?_
  rintro e w5 ⟨rfl, hb5, o5⟩
  have hB5 := hB4.trans (hb5.mono hB4.size)
  clear hB4
  have zB5 := hB5.size
  have hS5 := hS4.trans (hb5.mono hS4.size)
  clear hS4
  have zS5 := hS5.size
  clear hb5
  have O5 := hide o5
  clear o5
  go_wp2_with fail
  refine (to_ow c1 hx1 hn1 (HA1.out.below hB5)).mono ?_
  have q6O5 := O5.out.1
  rintro e w6 ⟨rfl, hb6, o6⟩
  have hB6 := hB5.trans (hb6.mono hB5.size)
  clear hB5
  have zB6 := hB6.size
  have hS6 := hS5.trans (hb6.mono hS5.size)
  clear hS5
  have zS6 := hS6.size
  have O5x := hide (O5.out.below hb6)
  clear O5
  clear hb6
  have O6 := hide o6
  clear o6
  go_wp2_with fail
  refine (to_ow c2 hx2 hn2 (HA2.out.below hB6)).mono ?_
  have q7O5x := O5x.out.1
  have q7O6 := O6.out.1
  rintro e w7 ⟨rfl, hb7, o7⟩
  have hB7 := hB6.trans (hb7.mono hB6.size)
  clear hB6
  have zB7 := hB7.size
  have hS7 := hS6.trans (hb7.mono hS6.size)
  clear hS6
  have zS7 := hS7.size
  have O5xx := hide (O5x.out.below hb7)
  clear O5x
  have O6x := hide (O6.out.below hb7)
  clear O6
  clear hb7
  have O7 := hide o7
  clear o7
  go_wp2_with fail
  refine (HI.out _ _ _ _ (O5xx.out.row hx0.out) (O6x.out.row hx1.out) (O7.out.row hx2.out)).mono ?_
  have q8O5xx := O5xx.out.1
  have q8O6x := O6x.out.1
  have q8O7 := O7.out.1
  rintro e w8 ⟨G8, rfl, hb8, lo8, o8⟩
  have hB8 := hB7.trans (hb8.mono hB7.size)
  clear hB7
  have zB8 := hB8.size
  have hS8 := hS7.trans (hb8.mono hS7.size)
  clear hS7
  have zS8 := hS8.size
  have O5xxx := hide (O5xx.out.below hb8)
  clear O5xx
  have O6xx := hide (O6x.out.below hb8)
  clear O6x
  have O7x := hide (O7.out.below hb8)
  clear O7
  clear hb8
  have O8 := hide o8
  clear o8
  go_wp2_with fail
  refine (eqI_b HYL.out hyn (O8.out.row HYL.out) (R0.out.below hS8)).mono ?_
  rintro e w9 ⟨rfl, hb9⟩
  have hB9 := hB8.trans (hb9.mono hB8.size)
  clear hB8
  have zB9 := hB9.size
  have hS9 := hS8.trans (hb9.mono hS8.size)
  clear hS8
  have zS9 := hS9.size
  have O5xxxx := hide (O5xxx.out.below hb9)
  clear O5xxx
  have O6xxx := hide (O6xx.out.below hb9)
  clear O6xx
  have O7xx := hide (O7x.out.below hb9)
  clear O7x
  have O8x := hide (O8.out.below hb9)
  clear O8
  clear hb9
  go_wp2_with fail
  refine (to_ow c0 hx0 hn0 (HA0.out.below hB9)).mono ?_
  have q10O5xxxx := O5xxxx.out.1
  have q10O6xxx := O6xxx.out.1
  have q10O7xx := O7xx.out.1
  have q10O8x := O8x.out.1
  rintro e w10 ⟨rfl, hb10, o10⟩
  have hB10 := hB9.trans (hb10.mono hB9.size)
  clear hB9
  have zB10 := hB10.size
  have hS10 := hS9.trans (hb10.mono hS9.size)
  clear hS9
  have zS10 := hS10.size
  have O5xxxxx := hide (O5xxxx.out.below hb10)
  clear O5xxxx
  have O6xxxx := hide (O6xxx.out.below hb10)
  clear O6xxx
  have O7xxx := hide (O7xx.out.below hb10)
  clear O7xx
  have O8xx := hide (O8x.out.below hb10)
  clear O8x
  clear hb10
  have O10 := hide o10
  clear o10
  go_wp2_with fail
  refine (eqI_b hx0.out hn0 (O5xxxxx.out.row hx0.out) (O10.out.row hx0.out)).mono ?_
  rintro e w11 ⟨rfl, hb11⟩
  clear O10
  have hB11 := hB10.trans (hb11.mono hB10.size)
  clear hB10
  have zB11 := hB11.size
  have hS11 := hS10.trans (hb11.mono hS10.size)
  clear hS10
  have zS11 := hS11.size
  have O5xxxxxx := hide (O5xxxxx.out.below hb11)
  clear O5xxxxx
  have O6xxxxx := hide (O6xxxx.out.below hb11)
  clear O6xxxx
  have O7xxxx := hide (O7xxx.out.below hb11)
  clear O7xxx
  have O8xxx := hide (O8xx.out.below hb11)
  clear O8xx
  clear hb11
  go_wp2_with fail
  refine (to_ow c1 hx1 hn1 (HA1.out.below hB11)).mono ?_
  have q12O5xxxxxx := O5xxxxxx.out.1
  have q12O6xxxxx := O6xxxxx.out.1
  have q12O7xxxx := O7xxxx.out.1
  have q12O8xxx := O8xxx.out.1
  rintro e w12 ⟨rfl, hb12, o12⟩
  have hB12 := hB11.trans (hb12.mono hB11.size)
  clear hB11
  have zB12 := hB12.size
  have hS12 := hS11.trans (hb12.mono hS11.size)
  clear hS11
  have zS12 := hS12.size
  have O5xxxxxxx := hide (O5xxxxxx.out.below hb12)
  clear O5xxxxxx
  have O6xxxxxx := hide (O6xxxxx.out.below hb12)
  clear O6xxxxx
  have O7xxxxx := hide (O7xxxx.out.below hb12)
  clear O7xxxx
  have O8xxxx := hide (O8xxx.out.below hb12)
  clear O8xxx
  clear hb12
  have O12 := hide o12
  clear o12
  go_wp2_with fail
  refine (eqI_b hx1.out hn1 (O6xxxxxx.out.row hx1.out) (O12.out.row hx1.out)).mono ?_
  rintro e w13 ⟨rfl, hb13⟩
  clear O12
  have hB13 := hB12.trans (hb13.mono hB12.size)
  clear hB12
  have zB13 := hB13.size
  have hS13 := hS12.trans (hb13.mono hS12.size)
  clear hS12
  have zS13 := hS13.size
  have O5xxxxxxxx := hide (O5xxxxxxx.out.below hb13)
  clear O5xxxxxxx
  have O6xxxxxxx := hide (O6xxxxxx.out.below hb13)
  clear O6xxxxxx
  have O7xxxxxx := hide (O7xxxxx.out.below hb13)
  clear O7xxxxx
  have O8xxxxx := hide (O8xxxx.out.below hb13)
  clear O8xxxx
  clear hb13
  go_wp2_with fail
  refine (to_ow c2 hx2 hn2 (HA2.out.below hB13)).mono ?_
  have q14O5xxxxxxxx := O5xxxxxxxx.out.1
  have q14O6xxxxxxx := O6xxxxxxx.out.1
  have q14O7xxxxxx := O7xxxxxx.out.1
  have q14O8xxxxx := O8xxxxx.out.1
  rintro e w14 ⟨rfl, hb14, o14⟩
  have hB14 := hB13.trans (hb14.mono hB13.size)
  clear hB13
  have zB14 := hB14.size
  have hS14 := hS13.trans (hb14.mono hS13.size)
  clear hS13
  have zS14 := hS14.size
  have O5xxxxxxxxx := hide (O5xxxxxxxx.out.below hb14)
  clear O5xxxxxxxx
  have O6xxxxxxxx := hide (O6xxxxxxx.out.below hb14)
  clear O6xxxxxxx
  have O7xxxxxxx := hide (O7xxxxxx.out.below hb14)
  clear O7xxxxxx
  have O8xxxxxx := hide (O8xxxxx.out.below hb14)
  clear O8xxxxx
  clear hb14
  have O14 := hide o14
  clear o14
  go_wp2_with fail
  refine (eqI_b hx2.out hn2 (O7xxxxxxx.out.row hx2.out) (O14.out.row hx2.out)).mono ?_
  rintro e w15 ⟨rfl, hb15⟩
  clear O14
  have hB15 := hB14.trans (hb15.mono hB14.size)
  clear hB14
  have zB15 := hB15.size
  have hS15 := hS14.trans (hb15.mono hS14.size)
  clear hS14
  have zS15 := hS15.size
  have O5xxxxxxxxxx := hide (O5xxxxxxxxx.out.below hb15)
  clear O5xxxxxxxxx
  have O6xxxxxxxxx := hide (O6xxxxxxxx.out.below hb15)
  clear O6xxxxxxxx
  have O7xxxxxxxx := hide (O7xxxxxxx.out.below hb15)
  clear O7xxxxxxx
  have O8xxxxxxx := hide (O8xxxxxx.out.below hb15)
  clear O8xxxxxx
  clear hb15
  go_wp2_with fail
  refine (mark_ow hx0 hn0 (by omega) (by omega) O5xxxxxxxxxx.out).mono ?_
  rintro e w16 ⟨rfl, hg16, _⟩
  clear O5xxxxxxxxxx
  have hB16 := hB15.trans (grown_below' hg16 (by omega) hB15.size)
  clear hB15
  have zB16 := hB16.size
  have hS16 := hS15.trans (grown_below' hg16 (by omega) hS15.size)
  clear hS15
  have zS16 := hS16.size
  have O6xxxxxxxxxx := hide (O6xxxxxxxxx.out.grown hg16 (by omega))
  clear O6xxxxxxxxx
  have O7xxxxxxxxx := hide (O7xxxxxxxx.out.grown hg16 (by omega))
  clear O7xxxxxxxx
  have O8xxxxxxxx := hide (O8xxxxxxx.out.grown hg16 (by omega))
  clear O8xxxxxxx
  clear hg16
  go_wp2_with fail
  refine (mark_ow hx1 hn1 (by omega) (by omega) O6xxxxxxxxxx.out).mono ?_
  rintro e w17 ⟨rfl, hg17, _⟩
  clear O6xxxxxxxxxx
  have hB17 := hB16.trans (grown_below' hg17 (by omega) hB16.size)
  clear hB16
  have zB17 := hB17.size
  have hS17 := hS16.trans (grown_below' hg17 (by omega) hS16.size)
  clear hS16
  have zS17 := hS17.size
  have O7xxxxxxxxxx := hide (O7xxxxxxxxx.out.grown hg17 (by omega))
  clear O7xxxxxxxxx
  have O8xxxxxxxxx := hide (O8xxxxxxxx.out.grown hg17 (by omega))
  clear O8xxxxxxxx
  clear hg17
  go_wp2_with fail
  refine (mark_ow hx2 hn2 (by omega) (by omega) O7xxxxxxxxxx.out).mono ?_
  rintro e w18 ⟨rfl, hg18, _⟩
  clear O7xxxxxxxxxx
  have hB18 := hB17.trans (grown_below' hg18 (by omega) hB17.size)
  clear hB17
  have zB18 := hB18.size
  have hS18 := hS17.trans (grown_below' hg18 (by omega) hS17.size)
  clear hS17
  have zS18 := hS18.size
  have O8xxxxxxxxxx := hide (O8xxxxxxxxx.out.grown hg18 (by omega))
  clear O8xxxxxxxxx
  clear hg18
  have hk : ¬ (1 + (n0 : Int) + (n1 : Int) + (n2 : Int) : Int) < 0 := by omega
  go_wp2_with fail
  refine (eqI_b HYL.out hyn (O8xxxxxxxxxx.out.row HYL.out) (R0.out.below hS18)).mono ?_
  rintro e w19 ⟨rfl, hb19⟩
  have hB19 := hB18.trans (hb19.mono hB18.size)
  clear hB18
  have zB19 := hB19.size
  have hS19 := hS18.trans (hb19.mono hS18.size)
  clear hS18
  have zS19 := hS19.size
  have O8xxxxxxxxxxx := hide (O8xxxxxxxxxx.out.below hb19)
  clear O8xxxxxxxxxx
  clear hb19
  go_wp2_with fail
  refine (mark_ow HYL hyn (by omega) (by omega) O8xxxxxxxxxxx.out).mono ?_
  have q20G := O8xxxxxxxxxxx.out.1
  rintro e w20 ⟨rfl, hg20, hc20⟩
  have H20 : Hid (Hd7 w20 G8 n2) := hide ⟨Nat.lt_of_lt_of_le q20G hg20.size, hc20⟩
  clear hc20
  clear O8xxxxxxxxxxx
  have hB20 := hB19.trans (grown_below' hg20 (by omega) hB19.size)
  clear hB19
  have zB20 := hB20.size
  have hS20 := hS19.trans (grown_below' hg20 (by omega) hS19.size)
  clear hS19
  have zS20 := hS20.size
  clear hg20
  go_wp2_with fail
  refine (held_any G8 n2 n2 1 _ (by omega) (by omega) (by omega) H20.out.2).mono ?_
  rintro e wz ⟨rfl, hwz⟩
  obtain rfl : w20 = wz := hwz.symm
  go_wp2_with fail
  refine (to_ow c0 hx0 hn0 (HA0.out.below hB20)).mono ?_
  have q21H20 := H20.out.1
  rintro e w21 ⟨rfl, hb21, o21⟩
  have hB21 := hB20.trans (hb21.mono hB20.size)
  clear hB20
  have zB21 := hB21.size
  have hS21 := hS20.trans (hb21.mono hS20.size)
  clear hS20
  have zS21 := hS21.size
  have H20x := hide (H20.out.below hb21)
  clear H20
  clear hb21
  have O21 := hide o21
  clear o21
  go_wp2_with fail
  refine (to_ow c1 hx1 hn1 (HA1.out.below hB21)).mono ?_
  have q22H20x := H20x.out.1
  have q22O21 := O21.out.1
  rintro e w22 ⟨rfl, hb22, o22⟩
  have hB22 := hB21.trans (hb22.mono hB21.size)
  clear hB21
  have zB22 := hB22.size
  have hS22 := hS21.trans (hb22.mono hS21.size)
  clear hS21
  have zS22 := hS22.size
  have H20xx := hide (H20x.out.below hb22)
  clear H20x
  have O21x := hide (O21.out.below hb22)
  clear O21
  clear hb22
  have O22 := hide o22
  clear o22
  go_wp2_with fail
  refine (to_ow c2 hx2 hn2 (HA2.out.below hB22)).mono ?_
  have q23H20xx := H20xx.out.1
  have q23O21x := O21x.out.1
  have q23O22 := O22.out.1
  rintro e w23 ⟨rfl, hb23, o23⟩
  have hB23 := hB22.trans (hb23.mono hB22.size)
  clear hB22
  have zB23 := hB23.size
  have hS23 := hS22.trans (hb23.mono hS22.size)
  clear hS22
  have zS23 := hS23.size
  have H20xxx := hide (H20xx.out.below hb23)
  clear H20xx
  have O21xx := hide (O21x.out.below hb23)
  clear O21x
  have O22x := hide (O22.out.below hb23)
  clear O22
  clear hb23
  have O23 := hide o23
  clear o23
  go_wp2_with fail
  refine (HI.out _ _ _ _ (O21xx.out.row hx0.out) (O22x.out.row hx1.out) (O23.out.row hx2.out)).mono ?_
  have q24H20xxx := H20xxx.out.1
  have q24O21xx := O21xx.out.1
  have q24O22x := O22x.out.1
  have q24O23 := O23.out.1
  rintro e w24 ⟨G24, rfl, hb24, lo24, o24⟩
  have hB24 := hB23.trans (hb24.mono hB23.size)
  clear hB23
  have zB24 := hB24.size
  have hS24 := hS23.trans (hb24.mono hS23.size)
  clear hS23
  have zS24 := hS24.size
  have H20xxxx := hide (H20xxx.out.below hb24)
  clear H20xxx
  have O21xxx := hide (O21xx.out.below hb24)
  clear O21xx
  have O22xx := hide (O22x.out.below hb24)
  clear O22x
  have O23x := hide (O23.out.below hb24)
  clear O23
  clear hb24
  have O24 := hide o24
  clear o24
  clear O21xxx
  clear O22xx
  clear O23x
  go_wp2_with fail
  refine (eqI_b HYL.out hyn (O24.out.row HYL.out) (R0.out.below hS24)).mono ?_
  rintro e w25 ⟨rfl, hb25⟩
  have hB25 := hB24.trans (hb25.mono hB24.size)
  clear hB24
  have zB25 := hB25.size
  have hS25 := hS24.trans (hb25.mono hS24.size)
  clear hS24
  have zS25 := hS25.size
  have H20xxxxx := hide (H20xxxx.out.below hb25)
  clear H20xxxx
  have O24x := hide (O24.out.below hb25)
  clear O24
  clear hb25
  clear O24x
  go_wp2_with fail
  refine (held_any G8 n2 n2 1 _ (by omega) (by omega) (by omega) H20xxxxx.out.2).mono ?_
  rintro e wz ⟨rfl, hwz⟩
  obtain rfl : w25 = wz := hwz.symm
  go_wp2_with fail
  go_ret
  exact ⟨rfl, hB25⟩
theorem lSf17_walk {a0 a1 a2 : Option Addr} {c0 c1 c2 : Nat} {xs0 : List Int} {xs1 : List Int} {xs2 : List Int} {w : World} (ha0 : ARow w a0 xs0) (ha1 : ARow w a1 xs1) (ha2 : ARow w a2 xs2) :
    Calls Try.prog 3 #[.slice a0 xs0.length c0, .slice a1 xs1.length c1, .slice a2 xs2.length c2] w fun e w' => e = .returned (.bool true) ∧ Below w.heap.size w w' := by
  by_cases h0 : xs0.length ≤ 1048576
  rotate_left
  · exact lSf17_long0 (by omega)
  by_cases h1 : xs1.length ≤ 1048576
  rotate_left
  · exact lSf17_long1 h0 (by omega)
  by_cases h2 : xs2.length ≤ 1048576
  rotate_left
  · exact lSf17_long2 h0 h1 (by omega)
  cases hg : (Hs.dayB xs0 xs1 xs2)
  · exact lSf17_no (hide rfl) h0 (hide rfl) h1 (hide rfl) h2 (hide ha0) (hide ha1) (hide ha2) (hide hg)
  · exact lSf17_yes (hide rfl) h0 (hide rfl) h1 (hide rfl) h2 (hide ha0) (hide ha1) (hide ha2) (hide hg)
end Go.Proofs.Ytlbagigghpiifaa
