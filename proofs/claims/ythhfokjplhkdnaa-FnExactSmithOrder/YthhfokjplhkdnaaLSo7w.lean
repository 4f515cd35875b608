/-
  At any arguments the function answers as the model does, in memory of its own: the law's own walk.
-/
import Derived.Test.YthhfokjplhkdnaaHk
import Derived.Test.YthhfokjplhkdnaaHo
namespace Go.Proofs.Ythhfokjplhkdnaa
open Go.RowKit

set_option maxHeartbeats 400000 in
theorem lSo7w_long0 {a0 : Option Addr} {n0 c0 : Nat} {w : World} (hm : n0 ≤ maxLen) (h : 1048576 < n0) :
    Calls Try.prog 7 #[.slice a0 n0 c0] w fun e w' => e = .returned (.bool true) ∧ Below w.heap.size w w' := by
  have g0 : (1048576 : Int) < n0 := by omega
  go_enter Try.func7, Try.ntmps7
  go_wp2_with fail
  refine (szF_no _ _ _ _ _ (by omega) (by omega) hm g0).mono ?_
  rintro e w1 ⟨rfl, rfl⟩
  go_wp2_with fail
  go_ret
  exact ⟨rfl, Below.refl _ _⟩
set_option maxHeartbeats 4000000 in
theorem lSo7w_no {a0 : Option Addr} {n0 c0 : Nat} {xs0 : List (Int × Int)} {w : World} (hx0 : Hid (xs0.length = n0)) (hn0 : n0 ≤ 1048576) (HA0 : Hid (FRow w a0 xs0)) (HG : Hid (Fm.famB xs0 = false)) :
    Calls Try.prog 7 #[.slice a0 n0 c0] w fun e w' => e = .returned (.bool true) ∧ Below w.heap.size w w' := by
  have g0 : ¬ (1048576 : Int) - n0 < 0 := by omega
  have HS := hide fun (W : World) (b0 : Nat) (r0 : FRow W (some ⟨b0, 0, none⟩) xs0) => sso_no (w := W) (c := n0) hn0 hx0 (hide r0) HG
  have HI := hide fun (W : World) (b0 : Nat) (r0 : FRow W (some ⟨b0, 0, none⟩) xs0) => so_no (w := W) (c := n0) hx0 (hide r0) HG
  go_enter Try.func7, Try.ntmps7
  go_wp2_with fail
  refine (szF_yes _ _ _ _ _ (by omega) (by omega) (by omega)).mono ?_
  rintro e w0 ⟨rfl, hw0⟩
  obtain rfl : w = w0 := hw0.symm
  go_wp2_with fail
  refine (to_fow c0 hx0 hn0 HA0.out).mono ?_
  rintro e w1 ⟨rfl, hb1, o1⟩
  have hB1 := hb1
  have zB1 := hB1.size
  clear hb1
  have O1 := hide o1
  clear o1
  go_wp2_with fail
  refine (HS.out _ _ O1.out.row).mono ?_
  rintro e w2 ⟨rfl, hb2⟩
  have hB2 := hB1.trans (hb2.mono hB1.size)
  clear hB1
  have zB2 := hB2.size
  have O1x := hide (O1.out.below hb2)
  clear O1
  clear hb2
  clear O1x
  go_wp2_with fail
  refine (to_fow c0 hx0 hn0 (HA0.out.below hB2)).mono ?_
  rintro e w3 ⟨rfl, hb3, o3⟩
  have hB3 := hB2.trans (hb3.mono hB2.size)
  clear hB2
  have zB3 := hB3.size
  clear hb3
  have O3 := hide o3
  clear o3
  go_wp2_with fail
  refine (HI.out _ _ O3.out.row).mono ?_
  rintro e w4 ⟨rfl, hb4⟩
  have hB4 := hB3.trans (hb4.mono hB3.size)
  clear hB3
  have zB4 := hB4.size
  have O3x := hide (O3.out.below hb4)
  clear O3
  clear hb4
  go_wp2_with fail
  refine (eqI_zero _ _ _ _ _).mono ?_
  rintro e wz ⟨rfl, hwz⟩
  obtain rfl : w4 = wz := hwz.symm
  go_wp2_with fail
  refine (to_fow c0 hx0 hn0 (HA0.out.below hB4)).mono ?_
  have q5O3x := O3x.out.1
  rintro e w5 ⟨rfl, hb5, o5⟩
  have hB5 := hB4.trans (hb5.mono hB4.size)
  clear hB4
  have zB5 := hB5.size
  have O3xx := hide (O3x.out.below hb5)
  clear O3x
  clear hb5
  have O5 := hide o5
  clear o5
  go_wp2_with fail
  refine (eq_fow hx0 hn0 O3xx.out O5.out).mono ?_
  rintro e w6 ⟨rfl, hb6⟩
  clear O5
  have hB6 := hB5.trans (hb6.mono hB5.size)
  clear hB5
  have zB6 := hB6.size
  have O3xxx := hide (O3xx.out.below hb6)
  clear O3xx
  clear hb6
  go_wp2_with fail
  refine (mark_fow hn0 (by omega) (by omega) O3xxx.out).mono ?_
  rintro e w7 ⟨rfl, hg7⟩
  clear O3xxx
  have hB7 := hB6.trans (grown_below' hg7 (by omega) hB6.size)
  clear hB6
  have zB7 := hB7.size
  clear hg7
  have hk : ¬ (1 + (n0 : Int) * 2 : Int) < 0 := by omega
  go_wp2_with fail
  refine (eqI_zero _ _ _ _ _).mono ?_
  rintro e wz ⟨rfl, hwz⟩
  obtain rfl : w7 = wz := hwz.symm
  go_wp2_with fail
  refine (mark_zero _ _ _ _).mono ?_
  rintro e wz ⟨rfl, hwz⟩
  obtain rfl : w7 = wz := hwz.symm
  go_wp2_with fail
  refine (held_zero _ _ _ _).mono ?_
  rintro e wz ⟨rfl, hwz⟩
  obtain rfl : w7 = wz := hwz.symm
  go_wp2_with fail
  refine (to_fow c0 hx0 hn0 (HA0.out.below hB7)).mono ?_
  rintro e w8 ⟨rfl, hb8, o8⟩
  have hB8 := hB7.trans (hb8.mono hB7.size)
  clear hB7
  have zB8 := hB8.size
  clear hb8
  have O8 := hide o8
  clear o8
  go_wp2_with fail
  refine (HI.out _ _ O8.out.row).mono ?_
  rintro e w9 ⟨rfl, hb9⟩
  have hB9 := hB8.trans (hb9.mono hB8.size)
  clear hB8
  have zB9 := hB9.size
  have O8x := hide (O8.out.below hb9)
  clear O8
  clear hb9
  clear O8x
  go_wp2_with fail
  refine (eqI_zero _ _ _ _ _).mono ?_
  rintro e wz ⟨rfl, hwz⟩
  obtain rfl : w9 = wz := hwz.symm
  go_wp2_with fail
  refine (held_zero _ _ _ _).mono ?_
  rintro e wz ⟨rfl, hwz⟩
  obtain rfl : w9 = wz := hwz.symm
  go_wp2_with fail
  go_ret
  exact ⟨rfl, hB9⟩
set_option maxHeartbeats 4000000 in
theorem lSo7w_yes {a0 : Option Addr} {n0 c0 : Nat} {xs0 : List (Int × Int)} {w : World} (hx0 : Hid (xs0.length = n0)) (hn0 : n0 ≤ 1048576) (HA0 : Hid (FRow w a0 xs0)) (HG : Hid (Fm.famB xs0 = true)) :
    Calls Try.prog 7 #[.slice a0 n0 c0] w fun e w' => e = .returned (.bool true) ∧ Below w.heap.size w w' := by
  have g0 : ¬ (1048576 : Int) - n0 < 0 := by omega
  have HS := hide fun (W : World) (b0 : Nat) (r0 : FRow W (some ⟨b0, 0, none⟩) xs0) => sso_r (w := W) (c := n0) hx0 (hide r0) HG
  have HI := hide fun (W : World) (b0 : Nat) (r0 : FRow W (some ⟨b0, 0, none⟩) xs0) => so_yes (w := W) (c := n0) hx0 (hide r0) HG
  have HYL : Hid ((Fm.soL xs0).length = n0) := hide ((Fm.soL_len _).trans hx0.out)
  have hyn : n0 ≤ 1048576 := by omega
  generalize Fm.soL xs0 = Y at HS HI HYL
  have hnm : ((1 : Int) + (n0 : Int) != 1 + (n0 : Int)) = false := by simp
  have hnn : ¬ (1 : Int) + (n0 : Int) < 0 := by omega
  go_enter Try.func7, Try.ntmps7
  go_wp2_with fail
  refine (szF_yes _ _ _ _ _ (by omega) (by omega) (by omega)).mono ?_
  rintro e w0 ⟨rfl, hw0⟩
  obtain rfl : w = w0 := hw0.symm
  go_wp2_with fail
  refine (to_fow c0 hx0 hn0 HA0.out).mono ?_
  rintro e w1 ⟨rfl, hb1, o1⟩
  have hB1 := hb1
  have zB1 := hB1.size
  clear hb1
  have O1 := hide o1
  clear o1
  go_wp2_with fail
  refine (HS.out _ _ O1.out.row).mono ?_
  rintro e w2 ⟨A0, C0, rfl, hb2, r0⟩
  have hB2 := hB1.trans (hb2.mono hB1.size)
  clear hB1
  have zB2 := hB2.size
  have O1x := hide (O1.out.below hb2)
  clear O1
  clear hb2
  have R0 := hide r0
  clear r0
  clear O1x
  have hS2 := Below.refl w2.heap.size w2
  go_wp2_with fail
  refine (to_fow c0 hx0 hn0 (HA0.out.below hB2)).mono ?_
  rintro e w3 ⟨rfl, hb3, o3⟩
  have hB3 := hB2.trans (hb3.mono hB2.size)
  clear hB2
  have zB3 := hB3.size
  have hS3 := hS2.trans (hb3.mono hS2.size)
  clear hS2
  have zS3 := hS3.size
  clear hb3
  have O3 := hide o3
  clear o3
  go_wp2_with fail
  refine (HI.out _ _ O3.out.row).mono ?_
  have q4O3 := O3.out.1
  rintro e w4 ⟨G4, rfl, hb4, lo4, o4⟩
  have hB4 := hB3.trans (hb4.mono hB3.size)
  clear hB3
  have zB4 := hB4.size
  have hS4 := hS3.trans (hb4.mono hS3.size)
  clear hS3
  have zS4 := hS4.size
  have O3x := hide (O3.out.below hb4)
  clear O3
  clear hb4
  have O4 := hide o4
  clear o4
  go_wp2_with fail
  refine (eqI_b HYL.out hyn (O4.out.row HYL.out) (R0.out.below hS4)).mono ?_
  rintro e w5 ⟨rfl, hb5⟩
  have hB5 := hB4.trans (hb5.mono hB4.size)
  clear hB4
  have zB5 := hB5.size
  have hS5 := hS4.trans (hb5.mono hS4.size)
  clear hS4
  have zS5 := hS5.size
  have O3xx := hide (O3x.out.below hb5)
  clear O3x
  have O4x := hide (O4.out.below hb5)
  clear O4
  clear hb5
  go_wp2_with fail
  refine (to_fow c0 hx0 hn0 (HA0.out.below hB5)).mono ?_
  have q6O3xx := O3xx.out.1
  have q6O4x := O4x.out.1
  rintro e w6 ⟨rfl, hb6, o6⟩
  have hB6 := hB5.trans (hb6.mono hB5.size)
  clear hB5
  have zB6 := hB6.size
  have hS6 := hS5.trans (hb6.mono hS5.size)
  clear hS5
  have zS6 := hS6.size
  have O3xxx := hide (O3xx.out.below hb6)
  clear O3xx
  have O4xx := hide (O4x.out.below hb6)
  clear O4x
  clear hb6
  have O6 := hide o6
  clear o6
  go_wp2_with fail
  refine (eq_fow hx0 hn0 O3xxx.out O6.out).mono ?_
  rintro e w7 ⟨rfl, hb7⟩
  clear O6
  have hB7 := hB6.trans (hb7.mono hB6.size)
  clear hB6
  have zB7 := hB7.size
  have hS7 := hS6.trans (hb7.mono hS6.size)
  clear hS6
  have zS7 := hS7.size
  have O3xxxx := hide (O3xxx.out.below hb7)
  clear O3xxx
  have O4xxx := hide (O4xx.out.below hb7)
  clear O4xx
  clear hb7
  go_wp2_with fail
  refine (mark_fow hn0 (by omega) (by omega) O3xxxx.out).mono ?_
  rintro e w8 ⟨rfl, hg8⟩
  clear O3xxxx
  have hB8 := hB7.trans (grown_below' hg8 (by omega) hB7.size)
  clear hB7
  have zB8 := hB8.size
  have hS8 := hS7.trans (grown_below' hg8 (by omega) hS7.size)
  clear hS7
  have zS8 := hS8.size
  have O4xxxx := hide (O4xxx.out.grown hg8 (by omega))
  clear O4xxx
  clear hg8
  have hk : ¬ (1 + (n0 : Int) * 2 : Int) < 0 := by omega
  go_wp2_with fail
  refine (eqI_b HYL.out hyn (O4xxxx.out.row HYL.out) (R0.out.below hS8)).mono ?_
  rintro e w9 ⟨rfl, hb9⟩
  have hB9 := hB8.trans (hb9.mono hB8.size)
  clear hB8
  have zB9 := hB9.size
  have hS9 := hS8.trans (hb9.mono hS8.size)
  clear hS8
  have zS9 := hS9.size
  have O4xxxxx := hide (O4xxxx.out.below hb9)
  clear O4xxxx
  clear hb9
  go_wp2_with fail
  refine (mark_ow HYL hyn (by omega) (by omega) O4xxxxx.out).mono ?_
  have q10G := O4xxxxx.out.1
  rintro e w10 ⟨rfl, hg10, hc10⟩
  have H10 : Hid (Hd7 w10 G4 n0) := hide ⟨Nat.lt_of_lt_of_le q10G hg10.size, hc10⟩
  clear hc10
  clear O4xxxxx
  have hB10 := hB9.trans (grown_below' hg10 (by omega) hB9.size)
  clear hB9
  have zB10 := hB10.size
  have hS10 := hS9.trans (grown_below' hg10 (by omega) hS9.size)
  clear hS9
  have zS10 := hS10.size
  clear hg10
  go_wp2_with fail
  refine (held_any G4 n0 n0 1 _ (by omega) (by omega) (by omega) H10.out.2).mono ?_
  rintro e wz ⟨rfl, hwz⟩
  obtain rfl : w10 = wz := hwz.symm
  go_wp2_with fail
  refine (to_fow c0 hx0 hn0 (HA0.out.below hB10)).mono ?_
  have q11H10 := H10.out.1
  rintro e w11 ⟨rfl, hb11, o11⟩
  have hB11 := hB10.trans (hb11.mono hB10.size)
  clear hB10
  have zB11 := hB11.size
  have hS11 := hS10.trans (hb11.mono hS10.size)
  clear hS10
  have zS11 := hS11.size
  have H10x := hide (H10.out.below hb11)
  clear H10
  clear hb11
  have O11 := hide o11
  clear o11
  go_wp2_with fail
  refine (HI.out _ _ O11.out.row).mono ?_
  have q12H10x := H10x.out.1
  have q12O11 := O11.out.1
  rintro e w12 ⟨G12, rfl, hb12, lo12, o12⟩
  have hB12 := hB11.trans (hb12.mono hB11.size)
  clear hB11
  have zB12 := hB12.size
  have hS12 := hS11.trans (hb12.mono hS11.size)
  clear hS11
  have zS12 := hS12.size
  have H10xx := hide (H10x.out.below hb12)
  clear H10x
  have O11x := hide (O11.out.below hb12)
  clear O11
  clear hb12
  have O12 := hide o12
  clear o12
  clear O11x
  go_wp2_with fail
  refine (eqI_b HYL.out hyn (O12.out.row HYL.out) (R0.out.below hS12)).mono ?_
  rintro e w13 ⟨rfl, hb13⟩
  have hB13 := hB12.trans (hb13.mono hB12.size)
  clear hB12
  have zB13 := hB13.size
  have hS13 := hS12.trans (hb13.mono hS12.size)
  clear hS12
  have zS13 := hS13.size
  have H10xxx := hide (H10xx.out.below hb13)
  clear H10xx
  have O12x := hide (O12.out.below hb13)
  clear O12
  clear hb13
  clear O12x
  go_wp2_with fail
  refine (held_any G4 n0 n0 1 _ (by omega) (by omega) (by omega) H10xxx.out.2).mono ?_
  rintro e wz ⟨rfl, hwz⟩
  obtain rfl : w13 = wz := hwz.symm
  go_wp2_with fail
  go_ret
  exact ⟨rfl, hB13⟩
theorem lSo7w_walk {a0 : Option Addr} {c0 : Nat} {xs0 : List (Int × Int)} {w : World} (hm0 : xs0.length ≤ maxLen) (ha0 : FRow w a0 xs0) :
    Calls Try.prog 7 #[.slice a0 xs0.length c0] w fun e w' => e = .returned (.bool true) ∧ Below w.heap.size w w' := by
  by_cases h0 : xs0.length ≤ 1048576
  rotate_left
  · exact lSo7w_long0 hm0 (by omega)
  cases hg : Fm.famB xs0
  · exact lSo7w_no (hide rfl) h0 (hide ha0) (hide hg)
  · exact lSo7w_yes (hide rfl) h0 (hide ha0) (hide hg)
end Go.Proofs.Ythhfokjplhkdnaa
