/-
  At any fits the function answers as the model does, in memory of its own: the law's own walk.
-/
import Derived.Test.YtnhdddclnjgeiaaJr
import Derived.Test.YtnhdddclnjgeiaaJm
namespace Go.Proofs.Ytnhdddclnjgeiaa
open Go.RowKit

set_option maxHeartbeats 400000 in
theorem lCv8_long {a0 : Option Addr} {n0 c0 : Nat} {w : World} (hm : n0 ≤ maxLen) (h : 1048576 < n0) :
    Calls Try.prog 7 #[.slice a0 n0 c0] w fun e w' => e = .returned (.bool true) ∧ Below w.heap.size w w' := by
  go_enter Try.func7, Try.ntmps7
  go_wp2_with fail
  refine (szG_long (by omega) (by omega) hm (by omega)).mono ?_
  rintro e w1 ⟨rfl, rfl⟩
  go_wp2_with fail
  go_ret
  exact ⟨rfl, Below.refl _ _⟩
set_option maxRecDepth 20000 in
set_option maxHeartbeats 8000000 in
theorem lCv8_main {a0 : Option Addr} {n0 c0 : Nat} {xs0 : List (List Bool)} {w : World} (HX0 : Hid (xs0.length = n0)) (hn0 : n0 ≤ 1048576) (HF0 : Hid (GFits xs0)) (HA0 : Hid (GRow w a0 xs0)) :
    Calls Try.prog 7 #[.slice a0 n0 c0] w fun e w' => e = .returned (.bool true) ∧ Below w.heap.size w w' := by
  have HS := hide fun (W : World) (b0 : Nat) (r0 : GRow W (some ⟨b0, 0, none⟩) xs0) => scv_w (w := W) (c := n0) HX0.out hn0 r0
  have HI := hide fun (W : World) (b0 : Nat) (r0 : GRow W (some ⟨b0, 0, none⟩) xs0) => cv_w (w := W) (c := n0) HX0.out r0
  have y80 : (cvA xs0).length ≤ 1048576 := (cvA_le xs0)
  generalize cvA xs0 = Y0 at HS HI y80
  generalize hy0 : Y0.length = N0 at HS HI y80
  have HY0 := hide hy0
  clear hy0
  have y81 : (cvB xs0).length ≤ 1048576 := (cvB_le xs0)
  generalize cvB xs0 = Y1 at HS HI y81
  generalize hy1 : Y1.length = N1 at HS HI y81
  have HY1 := hide hy1
  clear hy1
  generalize Ma.goodB xs0 = G at HS HI
  have hneG : (G != G) = false := by simp
  have hnn0 : ¬ (1 : Int) + (N0 : Int) < 0 := by omega
  have hnn1 : ¬ (1 : Int) + (N0 : Int) + (N1 : Int) < 0 := by omega
  have hnm : ((1 : Int) + (N0 : Int) + (N1 : Int) != (1 : Int) + (N0 : Int) + (N1 : Int)) = false := by simp
  go_enter Try.func7, Try.ntmps7
  go_wp2_with fail
  refine (szG_any HX0.out (by omega) (by omega) (by omega) HF0.out HA0.out).mono ?_
  rintro e w0 ⟨r, rfl, hr1, hr2, hw0⟩
  obtain rfl : w = w0 := hw0.symm
  rcases hr2 with rfl | ⟨hr0, hsh⟩
  · go_wp2_with fail
    go_ret
    exact ⟨rfl, Below.refl _ _⟩
  have HSh0 := hide hsh
  have hr3 : ¬ r < 0 := by omega
  clear hsh
  go_wp2_with fail
  refine (toG_own HX0.out hn0 HSh0.out HA0.out).mono ?_
  rintro e w1 ⟨rfl, hb1, o1⟩
  have q1 := hb1.size
  have hB1 := hb1
  have zB1 := hB1.size
  clear hb1
  have O1 := hide o1
  have p1 := o1.2.1
  clear o1
  go_wp2_with fail
  refine (HS.out _ _ O1.out.row).mono ?_
  rintro e w2 ⟨v20, v21, rfl, hb2, o20, o21, dj2⟩
  have q2 := hb2.size
  have hB2 := hB1.trans (hb2.mono hB1.size)
  have O1x := hide (O1.out.below hb2)
  clear O1
  clear hB1
  have zB2 := hB2.size
  clear hb2
  have O20 := hide (AV.new o20)
  clear o20
  have O21 := hide (AV.new o21)
  clear o21
  have DJ2 := hide dj2
  clear dj2
  clear O1x
  go_wp2_with fail
  refine (toG_own HX0.out hn0 HSh0.out (HA0.out.below hB2)).mono ?_
  rintro e w3 ⟨rfl, hb3, o3⟩
  have q3 := hb3.size
  have hB3 := hB2.trans (hb3.mono hB2.size)
  have O20x := hide (O20.out.below hb3)
  clear O20
  have O21x := hide (O21.out.below hb3)
  clear O21
  clear hB2
  have zB3 := hB3.size
  clear hb3
  have O3 := hide o3
  have p3 := o3.2.1
  clear o3
  go_wp2_with fail
  refine (HI.out _ _ O3.out.row).mono ?_
  rintro e w4 ⟨v40, v41, rfl, hb4, o40, o41, dj4⟩
  have q4 := hb4.size
  have hB4 := hB3.trans (hb4.mono hB3.size)
  have O20xx := hide (O20x.out.below hb4)
  clear O20x
  have O21xx := hide (O21x.out.below hb4)
  clear O21x
  have O3x := hide (O3.out.below hb4)
  clear O3
  clear hB3
  have zB4 := hB4.size
  clear hb4
  have O40 := hide (AV.new o40)
  clear o40
  have O41 := hide (AV.new o41)
  clear o41
  have DJ4 := hide dj4
  clear dj4
  go_wp2_with fail
  refine (eq_av HY0 y80 O40.out O20xx.out).mono ?_
  rintro e w5 ⟨rfl, hb5⟩
  have hB5 := hB4.trans (hb5.mono hB4.size)
  have O20xxx := hide (O20xx.out.below hb5)
  clear O20xx
  have O21xxx := hide (O21xx.out.below hb5)
  clear O21xx
  have O3xx := hide (O3x.out.below hb5)
  clear O3x
  have O40x := hide (O40.out.below hb5)
  clear O40
  have O41x := hide (O41.out.below hb5)
  clear O41
  clear hB4
  have zB5 := hB5.size
  clear hb5
  go_wp2_with fail
  refine (eq_av HY1 y81 O41x.out O21xxx.out).mono ?_
  rintro e w6 ⟨rfl, hb6⟩
  have hB6 := hB5.trans (hb6.mono hB5.size)
  have O20xxxx := hide (O20xxx.out.below hb6)
  clear O20xxx
  have O21xxxx := hide (O21xxx.out.below hb6)
  clear O21xxx
  have O3xxx := hide (O3xx.out.below hb6)
  clear O3xx
  have O40xx := hide (O40x.out.below hb6)
  clear O40x
  have O41xx := hide (O41x.out.below hb6)
  clear O41x
  clear hB5
  have zB6 := hB6.size
  clear hb6
  go_wp2_with fail
  refine (toG_own HX0.out hn0 HSh0.out (HA0.out.below hB6)).mono ?_
  rintro e w7 ⟨rfl, hb7, o7⟩
  have q7 := hb7.size
  have hB7 := hB6.trans (hb7.mono hB6.size)
  have O20xxxxx := hide (O20xxxx.out.below hb7)
  clear O20xxxx
  have O21xxxxx := hide (O21xxxx.out.below hb7)
  clear O21xxxx
  have O3xxxx := hide (O3xxx.out.below hb7)
  clear O3xxx
  have O40xxx := hide (O40xx.out.below hb7)
  clear O40xx
  have O41xxx := hide (O41xx.out.below hb7)
  clear O41xx
  clear hB6
  have zB7 := hB7.size
  clear hb7
  have O7 := hide o7
  have p7 := o7.2.1
  clear o7
  go_wp2_with fail
  refine (eqG_ow HX0 hn0 HSh0 O3xxxx.out O7.out).mono ?_
  rintro e w8 ⟨rfl, hb8⟩
  clear O7
  have hB8 := hB7.trans (hb8.mono hB7.size)
  have O20xxxxxx := hide (O20xxxxx.out.below hb8)
  clear O20xxxxx
  have O21xxxxxx := hide (O21xxxxx.out.below hb8)
  clear O21xxxxx
  have O3xxxxx := hide (O3xxxx.out.below hb8)
  clear O3xxxx
  have O40xxxx := hide (O40xxx.out.below hb8)
  clear O40xxx
  have O41xxxx := hide (O41xxx.out.below hb8)
  clear O41xxx
  clear hB7
  have zB8 := hB8.size
  clear hb8
  go_wp2_with fail
  refine (markG_any HX0 hn0 HSh0 O3xxxxx.out).mono ?_
  rintro e w9 ⟨q, rfl, hq0, hr9⟩
  have hq1 : ¬ q < 0 := by omega
  clear O3xxxxx
  have hB9 := hB8.trans (hr9.below (by omega) (by omega))
  have O20xxxxxxx := hide (O20xxxxxx.out.rng hr9 (by omega))
  clear O20xxxxxx
  have O21xxxxxxx := hide (O21xxxxxx.out.rng hr9 (by omega))
  clear O21xxxxxx
  have O40xxxxx := hide (O40xxxx.out.rng hr9 (by omega))
  clear O40xxxx
  have O41xxxxx := hide (O41xxxx.out.rng hr9 (by omega))
  clear O41xxxx
  clear hB8
  have zB9 := hB9.size
  clear hr9
  go_wp2_with fail
  refine (eq_av HY0 y80 O40xxxxx.out O20xxxxxxx.out).mono ?_
  rintro e w10 ⟨rfl, hb10⟩
  have hB10 := hB9.trans (hb10.mono hB9.size)
  have O20xxxxxxxx := hide (O20xxxxxxx.out.below hb10)
  clear O20xxxxxxx
  have O21xxxxxxxx := hide (O21xxxxxxx.out.below hb10)
  clear O21xxxxxxx
  have O40xxxxxx := hide (O40xxxxx.out.below hb10)
  clear O40xxxxx
  have O41xxxxxx := hide (O41xxxxx.out.below hb10)
  clear O41xxxxx
  clear hB9
  have zB10 := hB10.size
  clear hb10
  go_wp2_with fail
  refine (eq_av HY1 y81 O41xxxxxx.out O21xxxxxxxx.out).mono ?_
  rintro e w11 ⟨rfl, hb11⟩
  have hB11 := hB10.trans (hb11.mono hB10.size)
  have O20xxxxxxxxx := hide (O20xxxxxxxx.out.below hb11)
  clear O20xxxxxxxx
  have O21xxxxxxxxx := hide (O21xxxxxxxx.out.below hb11)
  clear O21xxxxxxxx
  have O40xxxxxxx := hide (O40xxxxxx.out.below hb11)
  clear O40xxxxxx
  have O41xxxxxxx := hide (O41xxxxxx.out.below hb11)
  clear O41xxxxxx
  clear hB10
  have zB11 := hB11.size
  clear hb11
  have hd := hide (dj_swap DJ4.out)
  go_wp2_with fail
  refine (mark_av HY0 y80 (by omega) (by omega) O40xxxxxxx.out).mono ?_
  rintro e w12 ⟨rfl, hh12, hg12⟩
  have hB12 := hB11.trans (O40xxxxxxx.out.under hg12 (by omega) (by omega))
  have O20xxxxxxxxxx := hide (O20xxxxxxxxx.out.grown O40xxxxxxx.out hg12 (Or.inl (by omega)))
  clear O20xxxxxxxxx
  have O21xxxxxxxxxx := hide (O21xxxxxxxxx.out.grown O40xxxxxxx.out hg12 (Or.inl (by omega)))
  clear O21xxxxxxxxx
  have O41xxxxxxxx := hide (O41xxxxxxx.out.grown O40xxxxxxx.out hg12 (Or.inr hd.out))
  clear O41xxxxxxx
  clear hB11
  have zB12 := hB12.size
  clear hg12
  clear O40xxxxxxx hd
  have H12 := hide hh12
  clear hh12
  have hd := DJ4
  go_wp2_with fail
  refine (mark_av HY1 y81 (by omega) (by omega) O41xxxxxxxx.out).mono ?_
  rintro e w13 ⟨rfl, hh13, hg13⟩
  have hB13 := hB12.trans (O41xxxxxxxx.out.under hg13 (by omega) (by omega))
  have O20xxxxxxxxxxx := hide (O20xxxxxxxxxx.out.grown O41xxxxxxxx.out hg13 (Or.inl (by omega)))
  clear O20xxxxxxxxxx
  have O21xxxxxxxxxxx := hide (O21xxxxxxxxxx.out.grown O41xxxxxxxx.out hg13 (Or.inl (by omega)))
  clear O21xxxxxxxxxx
  have H12x := hide (H12.out.grown hg13 hd.out)
  clear H12
  clear hB12
  have zB13 := hB13.size
  clear hg13
  clear O41xxxxxxxx hd
  have H13 := hide hh13
  clear hh13
  go_wp2_with fail
  refine (held_hv y80 (by omega) (by omega) H12x.out).mono ?_
  rintro e wz ⟨rfl, hwz⟩
  obtain rfl : w13 = wz := hwz.symm
  go_wp2_with fail
  refine (held_hv y81 (by omega) (by omega) H13.out).mono ?_
  rintro e wz ⟨rfl, hwz⟩
  obtain rfl : w13 = wz := hwz.symm
  go_wp2_with fail
  refine (toG_own HX0.out hn0 HSh0.out (HA0.out.below hB13)).mono ?_
  rintro e w14 ⟨rfl, hb14, o14⟩
  have q14 := hb14.size
  have hB14 := hB13.trans (hb14.mono hB13.size)
  have O20xxxxxxxxxxxx := hide (O20xxxxxxxxxxx.out.below hb14)
  clear O20xxxxxxxxxxx
  have O21xxxxxxxxxxxx := hide (O21xxxxxxxxxxx.out.below hb14)
  clear O21xxxxxxxxxxx
  have H12xx := hide (H12x.out.below hb14)
  clear H12x
  have H13x := hide (H13.out.below hb14)
  clear H13
  clear hB13
  have zB14 := hB14.size
  clear hb14
  have O14 := hide o14
  have p14 := o14.2.1
  clear o14
  go_wp2_with fail
  refine (HI.out _ _ O14.out.row).mono ?_
  rintro e w15 ⟨v150, v151, rfl, hb15, o150, o151, dj15⟩
  have q15 := hb15.size
  have hB15 := hB14.trans (hb15.mono hB14.size)
  have O20xxxxxxxxxxxxx := hide (O20xxxxxxxxxxxx.out.below hb15)
  clear O20xxxxxxxxxxxx
  have O21xxxxxxxxxxxxx := hide (O21xxxxxxxxxxxx.out.below hb15)
  clear O21xxxxxxxxxxxx
  have H12xxx := hide (H12xx.out.below hb15)
  clear H12xx
  have H13xx := hide (H13x.out.below hb15)
  clear H13x
  have O14x := hide (O14.out.below hb15)
  clear O14
  clear hB14
  have zB15 := hB15.size
  clear hb15
  have O150 := hide (AV.new o150)
  clear o150
  have O151 := hide (AV.new o151)
  clear o151
  have DJ15 := hide dj15
  clear dj15
  clear O14x
  go_wp2_with fail
  refine (eq_av HY0 y80 O150.out O20xxxxxxxxxxxxx.out).mono ?_
  rintro e w16 ⟨rfl, hb16⟩
  have hB16 := hB15.trans (hb16.mono hB15.size)
  have O20xxxxxxxxxxxxxx := hide (O20xxxxxxxxxxxxx.out.below hb16)
  clear O20xxxxxxxxxxxxx
  have O21xxxxxxxxxxxxxx := hide (O21xxxxxxxxxxxxx.out.below hb16)
  clear O21xxxxxxxxxxxxx
  have H12xxxx := hide (H12xxx.out.below hb16)
  clear H12xxx
  have H13xxx := hide (H13xx.out.below hb16)
  clear H13xx
  have O150x := hide (O150.out.below hb16)
  clear O150
  have O151x := hide (O151.out.below hb16)
  clear O151
  clear hB15
  have zB16 := hB16.size
  clear hb16
  go_wp2_with fail
  refine (eq_av HY1 y81 O151x.out O21xxxxxxxxxxxxxx.out).mono ?_
  rintro e w17 ⟨rfl, hb17⟩
  have hB17 := hB16.trans (hb17.mono hB16.size)
  have O20xxxxxxxxxxxxxxx := hide (O20xxxxxxxxxxxxxx.out.below hb17)
  clear O20xxxxxxxxxxxxxx
  have O21xxxxxxxxxxxxxxx := hide (O21xxxxxxxxxxxxxx.out.below hb17)
  clear O21xxxxxxxxxxxxxx
  have H12xxxxx := hide (H12xxxx.out.below hb17)
  clear H12xxxx
  have H13xxxx := hide (H13xxx.out.below hb17)
  clear H13xxx
  have O150xx := hide (O150x.out.below hb17)
  clear O150x
  have O151xx := hide (O151x.out.below hb17)
  clear O151x
  clear hB16
  have zB17 := hB17.size
  clear hb17
  go_wp2_with fail
  refine (held_hv y80 (by omega) (by omega) H12xxxxx.out).mono ?_
  rintro e wz ⟨rfl, hwz⟩
  obtain rfl : w17 = wz := hwz.symm
  go_wp2_with fail
  refine (held_hv y81 (by omega) (by omega) H13xxxx.out).mono ?_
  rintro e wz ⟨rfl, hwz⟩
  obtain rfl : w17 = wz := hwz.symm
  go_wp2_with fail
  go_ret
  exact ⟨rfl, hB17⟩
theorem lCv8_walk {a0 : Option Addr} {c0 : Nat} {xs0 : List (List Bool)} {w : World} (hm0 : xs0.length ≤ maxLen) (hf0 : GFits xs0) (ha0 : GRow w a0 xs0) :
    Calls Try.prog 7 #[.slice a0 xs0.length c0] w fun e w' => e = .returned (.bool true) ∧ Below w.heap.size w w' := by
  by_cases h0 : xs0.length ≤ 1048576
  rotate_left
  · exact lCv8_long hm0 (by omega)
  exact lCv8_main (hide rfl) h0 (hide hf0) (hide ha0)
end Go.Proofs.Ytnhdddclnjgeiaa
