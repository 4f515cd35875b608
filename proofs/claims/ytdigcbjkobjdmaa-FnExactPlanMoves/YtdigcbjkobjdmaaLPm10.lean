/-
  At any arguments the function answers as the model does, in memory of its own: the law's own walk.
-/
import Derived.Test.YtdigcbjkobjdmaaNb10
namespace Go.Proofs.Ytdigcbjkobjdmaa
open Go.RowKit

set_option maxHeartbeats 400000 in
theorem lPm10_long0 {a0 a1 : Option Addr} {n0 c0 n1 c1 : Nat} {w : World} (h : 1048576 < n0) :
    Calls Try.prog 6 #[.slice a0 n0 c0, .slice a1 n1 c1] w fun e w' => e = .returned (.bool true) ∧ Below w.heap.size w w' := by
  have g0 : (1048576 : Int) < n0 := by omega
  go_enter Try.func6, Try.ntmps6
  go_wp2_with fail
  go_ret
  exact ⟨rfl, Below.refl _ _⟩
set_option maxHeartbeats 400000 in
theorem lPm10_long1 {a0 a1 : Option Addr} {n0 c0 n1 c1 : Nat} {w : World} (h0 : n0 ≤ 1048576) (h : 1048576 < n1) :
    Calls Try.prog 6 #[.slice a0 n0 c0, .slice a1 n1 c1] w fun e w' => e = .returned (.bool true) ∧ Below w.heap.size w w' := by
  have g0 : ¬ (1048576 : Int) < n0 := by omega
  have g1 : (1048576 : Int) < n1 := by omega
  go_enter Try.func6, Try.ntmps6
  go_wp2_with fail
  go_ret
  exact ⟨rfl, Below.refl _ _⟩
set_option maxRecDepth 100000 in
set_option maxHeartbeats 8000000 in
theorem lPm10_main {a0 a1 : Option Addr} {n0 c0 n1 c1 : Nat} {xs0 : List Int} {xs1 : List Int} {w : World} (hx0 : Hid (xs0.length = n0)) (hn0 : n0 ≤ 1048576) (hx1 : Hid (xs1.length = n1)) (hn1 : n1 ≤ 1048576) (HA0 : Hid (ARow w a0 xs0)) (HA1 : Hid (ARow w a1 xs1)) :
    Calls Try.prog 6 #[.slice a0 n0 c0, .slice a1 n1 c1] w fun e w' => e = .returned (.bool true) ∧ Below w.heap.size w w' := by
  have g0 : ¬ (1048576 : Int) < n0 := by omega
  have g1 : ¬ (1048576 : Int) < n1 := by omega
  have HS := hide fun (W : World) (b0 : Nat) (b1 : Nat) (r0 : ARow W (some ⟨b0, 0, none⟩) xs0) (r1 : ARow W (some ⟨b1, 0, none⟩) xs1) => spm_w (w := W) (c := n0) (d := n1) hx0.out hx1.out (Nat.le_refl _) (Nat.le_refl _) r0 r1
  have HI := hide fun (W : World) (b0 : Nat) (b1 : Nat) (r0 : ARow W (some ⟨b0, 0, none⟩) xs0) (r1 : ARow W (some ⟨b1, 0, none⟩) xs1) => pm_w (w := W) (c := n0) (d := n1) hx0.out hx1.out (Nat.le_refl _) (Nat.le_refl _) r0 r1
  have y8 : (Mx.pmL xs0 xs1).length ≤ 1048576 := (Nat.le_trans (pmL_le xs0 xs1) (by omega))
  generalize Mx.pmL xs0 xs1 = Y at HS HI y8
  generalize hy : Y.length = N at HS HI y8
  have HY := hide hy
  clear hy
  generalize Mx.sameB xs0 xs1 = G at HS HI
  have hneG : (G != G) = false := by simp
  have hnn : ¬ (1 : Int) + (N : Int) * 2 < 0 := by omega
  have hnm : ((1 : Int) + (N : Int) * 2 != (1 : Int) + (N : Int) * 2) = false := by simp
  go_enter Try.func6, Try.ntmps6
  go_wp2_with fail
  refine (to_av (c := c0) hx0.out hn0 HA0.out).mono ?_
  rintro e w1 ⟨B1, rfl, hb1, o1⟩
  have q1 := hb1.size
  have hB1 := hb1
  clear hb1
  have zB1 := hB1.size
  have O1 := hide o1
  clear o1
  go_wp2_with fail
  refine (to_av (c := c1) hx1.out hn1 (HA1.out.below hB1)).mono ?_
  rintro e w2 ⟨B2, rfl, hb2, o2⟩
  have q2 := hb2.size
  have hB2 := hB1.trans (hb2.mono hB1.size)
  have O1x := hide (O1.out.below hb2)
  clear O1
  clear hb2 hB1
  have zB2 := hB2.size
  have O2 := hide o2
  clear o2
  go_wp2_with fail
  refine (HS.out _ _ _ (av_at hx0.out O1x.out) (av_at hx1.out O2.out)).mono ?_
  rintro e w3 ⟨v3, rfl, hb3, o3⟩
  have q3 := hb3.size
  have hB3 := hB2.trans (hb3.mono hB2.size)
  have O1xx := hide (O1x.out.below hb3)
  clear O1x
  have O2x := hide (O2.out.below hb3)
  clear O2
  clear hb3 hB2
  have zB3 := hB3.size
  have O3 := hide o3
  clear o3
  clear O1xx
  clear O2x
  go_wp2_with fail
  refine (to_av (c := c0) hx0.out hn0 (HA0.out.below hB3)).mono ?_
  rintro e w4 ⟨B4, rfl, hb4, o4⟩
  have q4 := hb4.size
  have hB4 := hB3.trans (hb4.mono hB3.size)
  have O3x := hide (O3.out.below hb4)
  clear O3
  clear hb4 hB3
  have zB4 := hB4.size
  have O4 := hide o4
  clear o4
  go_wp2_with fail
  refine (to_av (c := c1) hx1.out hn1 (HA1.out.below hB4)).mono ?_
  rintro e w5 ⟨B5, rfl, hb5, o5⟩
  have q5 := hb5.size
  have hB5 := hB4.trans (hb5.mono hB4.size)
  have O3xx := hide (O3x.out.below hb5)
  clear O3x
  have O4x := hide (O4.out.below hb5)
  clear O4
  clear hb5 hB4
  have zB5 := hB5.size
  have O5 := hide o5
  clear o5
  go_wp2_with fail
  refine (HI.out _ _ _ (av_at hx0.out O4x.out) (av_at hx1.out O5.out)).mono ?_
  rintro e w6 ⟨v6, rfl, hb6, o6⟩
  have q6 := hb6.size
  have hB6 := hB5.trans (hb6.mono hB5.size)
  have O3xxx := hide (O3xx.out.below hb6)
  clear O3xx
  have O4xx := hide (O4x.out.below hb6)
  clear O4x
  have O5x := hide (O5.out.below hb6)
  clear O5
  clear hb6 hB5
  have zB6 := hB6.size
  have O6 := hide o6
  clear o6
  go_wp2_with fail
  refine (eq_mo y8 O6.out O3xxx.out).mono ?_
  rintro e w7 ⟨rfl, hb7⟩
  have q7 := hb7.size
  have hB7 := hB6.trans (hb7.mono hB6.size)
  have O3xxxx := hide (O3xxx.out.below hb7)
  clear O3xxx
  have O4xxx := hide (O4xx.out.below hb7)
  clear O4xx
  have O5xx := hide (O5x.out.below hb7)
  clear O5x
  have O6x := hide (O6.out.below hb7)
  clear O6
  clear hb7 hB6
  have zB7 := hB7.size
  go_wp2_with fail
  refine (to_av (c := c0) hx0.out hn0 (HA0.out.below hB7)).mono ?_
  rintro e w8 ⟨B8, rfl, hb8, o8⟩
  have q8 := hb8.size
  have hB8 := hB7.trans (hb8.mono hB7.size)
  have O3xxxxx := hide (O3xxxx.out.below hb8)
  clear O3xxxx
  have O4xxxx := hide (O4xxx.out.below hb8)
  clear O4xxx
  have O5xxx := hide (O5xx.out.below hb8)
  clear O5xx
  have O6xx := hide (O6x.out.below hb8)
  clear O6x
  clear hb8 hB7
  have zB8 := hB8.size
  have O8 := hide o8
  clear o8
  go_wp2_with fail
  refine (eq_av hx0 hn0 O4xxxx.out O8.out).mono ?_
  rintro e w9 ⟨rfl, hb9⟩
  clear O8
  have q9 := hb9.size
  have hB9 := hB8.trans (hb9.mono hB8.size)
  have O3xxxxxx := hide (O3xxxxx.out.below hb9)
  clear O3xxxxx
  have O4xxxxx := hide (O4xxxx.out.below hb9)
  clear O4xxxx
  have O5xxxx := hide (O5xxx.out.below hb9)
  clear O5xxx
  have O6xxx := hide (O6xx.out.below hb9)
  clear O6xx
  clear hb9 hB8
  have zB9 := hB9.size
  go_wp2_with fail
  refine (to_av (c := c1) hx1.out hn1 (HA1.out.below hB9)).mono ?_
  rintro e w10 ⟨B10, rfl, hb10, o10⟩
  have q10 := hb10.size
  have hB10 := hB9.trans (hb10.mono hB9.size)
  have O3xxxxxxx := hide (O3xxxxxx.out.below hb10)
  clear O3xxxxxx
  have O4xxxxxx := hide (O4xxxxx.out.below hb10)
  clear O4xxxxx
  have O5xxxxx := hide (O5xxxx.out.below hb10)
  clear O5xxxx
  have O6xxxx := hide (O6xxx.out.below hb10)
  clear O6xxx
  clear hb10 hB9
  have zB10 := hB10.size
  have O10 := hide o10
  clear o10
  go_wp2_with fail
  refine (eq_av hx1 hn1 O5xxxxx.out O10.out).mono ?_
  rintro e w11 ⟨rfl, hb11⟩
  clear O10
  have q11 := hb11.size
  have hB11 := hB10.trans (hb11.mono hB10.size)
  have O3xxxxxxxx := hide (O3xxxxxxx.out.below hb11)
  clear O3xxxxxxx
  have O4xxxxxxx := hide (O4xxxxxx.out.below hb11)
  clear O4xxxxxx
  have O5xxxxxx := hide (O5xxxxx.out.below hb11)
  clear O5xxxxx
  have O6xxxxx := hide (O6xxxx.out.below hb11)
  clear O6xxxx
  clear hb11 hB10
  have zB11 := hB11.size
  go_wp2_with fail
  refine (mark_av hx0 hn0 (by omega) (by omega) O4xxxxxxx.out).mono ?_
  rintro e w12 ⟨rfl, _, hg12⟩
  have SRC := O4xxxxxxx
  have q12 := hg12.size
  have hB12 := hB11.trans (grown_under10 hg12 (fun b e => by have := SRC.out.at_ b e; omega) (by omega))
  have O3xxxxxxxxx := hide (O3xxxxxxxx.out.grown hg12 (fun b e => by have := SRC.out.at_ b e; omega))
  clear O3xxxxxxxx
  have O5xxxxxxx := hide (O5xxxxxx.out.grownQ hg12 (fun b e => by have := SRC.out.at_ b e; omega))
  clear O5xxxxxx
  have O6xxxxxx := hide (O6xxxxx.out.grown hg12 (fun b e => by have := SRC.out.at_ b e; omega))
  clear O6xxxxx
  clear hg12 hB11
  have zB12 := hB12.size
  clear SRC O4xxxxxxx
  go_wp2_with fail
  refine (mark_av hx1 hn1 (by omega) (by omega) O5xxxxxxx.out).mono ?_
  rintro e w13 ⟨rfl, _, hg13⟩
  have SRC := O5xxxxxxx
  have q13 := hg13.size
  have hB13 := hB12.trans (grown_under10 hg13 (fun b e => by have := SRC.out.at_ b e; omega) (by omega))
  have O3xxxxxxxxxx := hide (O3xxxxxxxxx.out.grown hg13 (fun b e => by have := SRC.out.at_ b e; omega))
  clear O3xxxxxxxxx
  have O6xxxxxxx := hide (O6xxxxxx.out.grown hg13 (fun b e => by have := SRC.out.at_ b e; omega))
  clear O6xxxxxx
  clear hg13 hB12
  have zB13 := hB13.size
  clear SRC O5xxxxxxx
  have hk0 : ¬ (1 : Int) + (n0 : Int) + (n1 : Int) < 0 := by omega
  go_wp2_with fail
  refine (eq_mo y8 O6xxxxxxx.out O3xxxxxxxxxx.out).mono ?_
  rintro e w14 ⟨rfl, hb14⟩
  have q14 := hb14.size
  have hB14 := hB13.trans (hb14.mono hB13.size)
  have O3xxxxxxxxxxx := hide (O3xxxxxxxxxx.out.below hb14)
  clear O3xxxxxxxxxx
  have O6xxxxxxxx := hide (O6xxxxxxx.out.below hb14)
  clear O6xxxxxxx
  clear hb14 hB13
  have zB14 := hB14.size
  go_wp2_with fail
  refine (mark_mo y8 (by omega) (by omega) O6xxxxxxxx.out).mono ?_
  rintro e w15 ⟨rfl, hh15, hg15⟩
  have SRC := O6xxxxxxxx
  have q15 := hg15.size
  have hB15 := hB14.trans (grown_under10 hg15 (fun b e => by have := SRC.out.at_ b e; omega) (by omega))
  have O3xxxxxxxxxxxx := hide (O3xxxxxxxxxxx.out.grown hg15 (fun b e => by have := SRC.out.at_ b e; omega))
  clear O3xxxxxxxxxxx
  clear hg15 hB14
  have zB15 := hB15.size
  clear SRC O6xxxxxxxx
  have H15 := hide hh15
  clear hh15
  go_wp2_with fail
  refine (held_mo y8 (by omega) (by omega) H15.out).mono ?_
  rintro e wz ⟨rfl, hwz⟩
  obtain rfl : w15 = wz := hwz.symm
  go_wp2_with fail
  refine (to_av (c := c0) hx0.out hn0 (HA0.out.below hB15)).mono ?_
  rintro e w16 ⟨B16, rfl, hb16, o16⟩
  have q16 := hb16.size
  have hB16 := hB15.trans (hb16.mono hB15.size)
  have O3xxxxxxxxxxxxx := hide (O3xxxxxxxxxxxx.out.below hb16)
  clear O3xxxxxxxxxxxx
  have H15x := hide (H15.out.below hb16)
  clear H15
  clear hb16 hB15
  have zB16 := hB16.size
  have O16 := hide o16
  clear o16
  go_wp2_with fail
  refine (to_av (c := c1) hx1.out hn1 (HA1.out.below hB16)).mono ?_
  rintro e w17 ⟨B17, rfl, hb17, o17⟩
  have q17 := hb17.size
  have hB17 := hB16.trans (hb17.mono hB16.size)
  have O3xxxxxxxxxxxxxx := hide (O3xxxxxxxxxxxxx.out.below hb17)
  clear O3xxxxxxxxxxxxx
  have H15xx := hide (H15x.out.below hb17)
  clear H15x
  have O16x := hide (O16.out.below hb17)
  clear O16
  clear hb17 hB16
  have zB17 := hB17.size
  have O17 := hide o17
  clear o17
  go_wp2_with fail
  refine (HI.out _ _ _ (av_at hx0.out O16x.out) (av_at hx1.out O17.out)).mono ?_
  rintro e w18 ⟨v18, rfl, hb18, o18⟩
  have q18 := hb18.size
  have hB18 := hB17.trans (hb18.mono hB17.size)
  have O3xxxxxxxxxxxxxxx := hide (O3xxxxxxxxxxxxxx.out.below hb18)
  clear O3xxxxxxxxxxxxxx
  have H15xxx := hide (H15xx.out.below hb18)
  clear H15xx
  have O16xx := hide (O16x.out.below hb18)
  clear O16x
  have O17x := hide (O17.out.below hb18)
  clear O17
  clear hb18 hB17
  have zB18 := hB18.size
  have O18 := hide o18
  clear o18
  clear O16xx
  clear O17x
  go_wp2_with fail
  refine (eq_mo y8 O18.out O3xxxxxxxxxxxxxxx.out).mono ?_
  rintro e w19 ⟨rfl, hb19⟩
  have q19 := hb19.size
  have hB19 := hB18.trans (hb19.mono hB18.size)
  have O3xxxxxxxxxxxxxxxx := hide (O3xxxxxxxxxxxxxxx.out.below hb19)
  clear O3xxxxxxxxxxxxxxx
  have H15xxxx := hide (H15xxx.out.below hb19)
  clear H15xxx
  have O18x := hide (O18.out.below hb19)
  clear O18
  clear hb19 hB18
  have zB19 := hB19.size
  go_wp2_with fail
  refine (held_mo y8 (by omega) (by omega) H15xxxx.out).mono ?_
  rintro e wz ⟨rfl, hwz⟩
  obtain rfl : w19 = wz := hwz.symm
  go_wp2_with fail
  go_ret
  exact ⟨rfl, hB19⟩
theorem lPm10_walk {a0 a1 : Option Addr} {c0 c1 : Nat} {xs0 : List Int} {xs1 : List Int} {w : World} (ha0 : ARow w a0 xs0)  (ha1 : ARow w a1 xs1) :
    Calls Try.prog 6 #[.slice a0 xs0.length c0, .slice a1 xs1.length c1] w fun e w' => e = .returned (.bool true) ∧ Below w.heap.size w w' := by
  by_cases h0 : xs0.length ≤ 1048576
  rotate_left
  · exact lPm10_long0 (by omega)
  by_cases h1 : xs1.length ≤ 1048576
  rotate_left
  · exact lPm10_long1 h0 (by omega)
  exact lPm10_main (hide rfl) h0 (hide rfl) h1 (hide ha0) (hide ha1)
end Go.Proofs.Ytdigcbjkobjdmaa
