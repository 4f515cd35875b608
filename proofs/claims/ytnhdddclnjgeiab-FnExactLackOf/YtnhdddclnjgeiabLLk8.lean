/-
  At any fits the function answers as the model does, in memory of its own: the law's own walk.
-/
import Derived.Test.YtnhdddclnjgeiabJr
import Derived.Test.YtnhdddclnjgeiabJm
namespace Go.Proofs.Ytnhdddclnjgeiab
open Go.RowKit

set_option maxHeartbeats 400000 in
theorem lLk8_long {a0 : Option Addr} {n0 c0 : Nat} {w : World} (hm : n0 ≤ maxLen) (h : 1048576 < n0) :
    Calls Try.prog 3 #[.slice a0 n0 c0] w fun e w' => e = .returned (.bool true) ∧ Below w.heap.size w w' := by
  go_enter Try.func3, Try.ntmps3
  go_wp2_with fail
  refine (szG_long (by omega) (by omega) hm (by omega)).mono ?_
  rintro e w1 ⟨rfl, rfl⟩
  go_wp2_with fail
  go_ret
  exact ⟨rfl, Below.refl _ _⟩
set_option maxRecDepth 20000 in
set_option maxHeartbeats 8000000 in
theorem lLk8_main {a0 : Option Addr} {n0 c0 : Nat} {xs0 : List (List Bool)} {w : World} (HX0 : Hid (xs0.length = n0)) (hn0 : n0 ≤ 1048576) (HF0 : Hid (GFits xs0)) (HA0 : Hid (GRow w a0 xs0)) :
    Calls Try.prog 3 #[.slice a0 n0 c0] w fun e w' => e = .returned (.bool true) ∧ Below w.heap.size w w' := by
  have HS := hide fun (W : World) (b0 : Nat) (r0 : GRow W (some ⟨b0, 0, none⟩) xs0) => slk_w (w := W) (c := n0) HX0.out hn0 r0
  have HI := hide fun (W : World) (b0 : Nat) (r0 : GRow W (some ⟨b0, 0, none⟩) xs0) => lk_w (w := W) (c := n0) HX0.out r0
  have y80 : (lkL xs0).length ≤ 1048576 := (lkL_le xs0)
  generalize lkL xs0 = Y0 at HS HI y80
  generalize hy0 : Y0.length = N0 at HS HI y80
  have HY0 := hide hy0
  clear hy0
  generalize Ma.goodB xs0 = G at HS HI
  have hneG : (G != G) = false := by simp
  have hnn0 : ¬ (1 : Int) + (N0 : Int) < 0 := by omega
  have hnm : ((1 : Int) + (N0 : Int) != (1 : Int) + (N0 : Int)) = false := by simp
  go_enter Try.func3, Try.ntmps3
  go_wp2_with fail
  refine (szG_any HX0.out (by omega) (by omega) (by omega) HF0.out HA0.out).mono ?_
  rintro e w0 ⟨r, rfl, hr1, hr2, hw0⟩
  obtain rfl : w = w0 := hw0.symm
  rcases hr2 with rfl | ⟨hr0, hsh⟩
  · go_wp2_with fail
    go_ret
    exact ⟨rfl, Below.refl _ _⟩
  have HSh0 := hide hsh
  have hr3 : ¬ r < 0 := by omega
  clear hsh
  go_wp2_with fail
  refine (toG_own HX0.out hn0 HSh0.out HA0.out).mono ?_
  rintro e w1 ⟨rfl, hb1, o1⟩
  have q1 := hb1.size
  have hB1 := hb1
  have zB1 := hB1.size
  clear hb1
  have O1 := hide o1
  have p1 := o1.2.1
  clear o1
  go_wp2_with fail
  refine (HS.out _ _ O1.out.row).mono ?_
  rintro e w2 ⟨v20, rfl, hb2, o20⟩
  have q2 := hb2.size
  have hB2 := hB1.trans (hb2.mono hB1.size)
  have O1x := hide (O1.out.below hb2)
  clear O1
  clear hB1
  have zB2 := hB2.size
  clear hb2
  have O20 := hide (AV.new o20)
  clear o20
  clear O1x
  go_wp2_with fail
  refine (toG_own HX0.out hn0 HSh0.out (HA0.out.below hB2)).mono ?_
  rintro e w3 ⟨rfl, hb3, o3⟩
  have q3 := hb3.size
  have hB3 := hB2.trans (hb3.mono hB2.size)
  have O20x := hide (O20.out.below hb3)
  clear O20
  clear hB2
  have zB3 := hB3.size
  clear hb3
  have O3 := hide o3
  have p3 := o3.2.1
  clear o3
  go_wp2_with fail
  refine (HI.out _ _ O3.out.row).mono ?_
  rintro e w4 ⟨v40, rfl, hb4, o40⟩
  have q4 := hb4.size
  have hB4 := hB3.trans (hb4.mono hB3.size)
  have O20xx := hide (O20x.out.below hb4)
  clear O20x
  have O3x := hide (O3.out.below hb4)
  clear O3
  clear hB3
  have zB4 := hB4.size
  clear hb4
  have O40 := hide (AV.new o40)
  clear o40
  go_wp2_with fail
  refine (eq_av HY0 y80 O40.out O20xx.out).mono ?_
  rintro e w5 ⟨rfl, hb5⟩
  have hB5 := hB4.trans (hb5.mono hB4.size)
  have O20xxx := hide (O20xx.out.below hb5)
  clear O20xx
  have O3xx := hide (O3x.out.below hb5)
  clear O3x
  have O40x := hide (O40.out.below hb5)
  clear O40
  clear hB4
  have zB5 := hB5.size
  clear hb5
  go_wp2_with fail
  refine (toG_own HX0.out hn0 HSh0.out (HA0.out.below hB5)).mono ?_
  rintro e w6 ⟨rfl, hb6, o6⟩
  have q6 := hb6.size
  have hB6 := hB5.trans (hb6.mono hB5.size)
  have O20xxxx := hide (O20xxx.out.below hb6)
  clear O20xxx
  have O3xxx := hide (O3xx.out.below hb6)
  clear O3xx
  have O40xx := hide (O40x.out.below hb6)
  clear O40x
  clear hB5
  have zB6 := hB6.size
  clear hb6
  have O6 := hide o6
  have p6 := o6.2.1
  clear o6
  go_wp2_with fail
  refine (eqG_ow HX0 hn0 HSh0 O3xxx.out O6.out).mono ?_
  rintro e w7 ⟨rfl, hb7⟩
  clear O6
  have hB7 := hB6.trans (hb7.mono hB6.size)
  have O20xxxxx := hide (O20xxxx.out.below hb7)
  clear O20xxxx
  have O3xxxx := hide (O3xxx.out.below hb7)
  clear O3xxx
  have O40xxx := hide (O40xx.out.below hb7)
  clear O40xx
  clear hB6
  have zB7 := hB7.size
  clear hb7
  go_wp2_with fail
  refine (markG_any HX0 hn0 HSh0 O3xxxx.out).mono ?_
  rintro e w8 ⟨q, rfl, hq0, hr8⟩
  have hq1 : ¬ q < 0 := by omega
  clear O3xxxx
  have hB8 := hB7.trans (hr8.below (by omega) (by omega))
  have O20xxxxxx := hide (O20xxxxx.out.rng hr8 (by omega))
  clear O20xxxxx
  have O40xxxx := hide (O40xxx.out.rng hr8 (by omega))
  clear O40xxx
  clear hB7
  have zB8 := hB8.size
  clear hr8
  go_wp2_with fail
  refine (eq_av HY0 y80 O40xxxx.out O20xxxxxx.out).mono ?_
  rintro e w9 ⟨rfl, hb9⟩
  have hB9 := hB8.trans (hb9.mono hB8.size)
  have O20xxxxxxx := hide (O20xxxxxx.out.below hb9)
  clear O20xxxxxx
  have O40xxxxx := hide (O40xxxx.out.below hb9)
  clear O40xxxx
  clear hB8
  have zB9 := hB9.size
  clear hb9
  have hd : Hid True := hide trivial
  go_wp2_with fail
  refine (mark_av HY0 y80 (by omega) (by omega) O40xxxxx.out).mono ?_
  rintro e w10 ⟨rfl, hh10, hg10⟩
  have hB10 := hB9.trans (O40xxxxx.out.under hg10 (by omega) (by omega))
  have O20xxxxxxxx := hide (O20xxxxxxx.out.grown O40xxxxx.out hg10 (Or.inl (by omega)))
  clear O20xxxxxxx
  clear hB9
  have zB10 := hB10.size
  clear hg10
  clear O40xxxxx hd
  have H10 := hide hh10
  clear hh10
  go_wp2_with fail
  refine (held_hv y80 (by omega) (by omega) H10.out).mono ?_
  rintro e wz ⟨rfl, hwz⟩
  obtain rfl : w10 = wz := hwz.symm
  go_wp2_with fail
  refine (toG_own HX0.out hn0 HSh0.out (HA0.out.below hB10)).mono ?_
  rintro e w11 ⟨rfl, hb11, o11⟩
  have q11 := hb11.size
  have hB11 := hB10.trans (hb11.mono hB10.size)
  have O20xxxxxxxxx := hide (O20xxxxxxxx.out.below hb11)
  clear O20xxxxxxxx
  have H10x := hide (H10.out.below hb11)
  clear H10
  clear hB10
  have zB11 := hB11.size
  clear hb11
  have O11 := hide o11
  have p11 := o11.2.1
  clear o11
  go_wp2_with fail
  refine (HI.out _ _ O11.out.row).mono ?_
  rintro e w12 ⟨v120, rfl, hb12, o120⟩
  have q12 := hb12.size
  have hB12 := hB11.trans (hb12.mono hB11.size)
  have O20xxxxxxxxxx := hide (O20xxxxxxxxx.out.below hb12)
  clear O20xxxxxxxxx
  have H10xx := hide (H10x.out.below hb12)
  clear H10x
  have O11x := hide (O11.out.below hb12)
  clear O11
  clear hB11
  have zB12 := hB12.size
  clear hb12
  have O120 := hide (AV.new o120)
  clear o120
  clear O11x
  go_wp2_with fail
  refine (eq_av HY0 y80 O120.out O20xxxxxxxxxx.out).mono ?_
  rintro e w13 ⟨rfl, hb13⟩
  have hB13 := hB12.trans (hb13.mono hB12.size)
  have O20xxxxxxxxxxx := hide (O20xxxxxxxxxx.out.below hb13)
  clear O20xxxxxxxxxx
  have H10xxx := hide (H10xx.out.below hb13)
  clear H10xx
  have O120x := hide (O120.out.below hb13)
  clear O120
  clear hB12
  have zB13 := hB13.size
  clear hb13
  go_wp2_with fail
  refine (held_hv y80 (by omega) (by omega) H10xxx.out).mono ?_
  rintro e wz ⟨rfl, hwz⟩
  obtain rfl : w13 = wz := hwz.symm
  go_wp2_with fail
  go_ret
  exact ⟨rfl, hB13⟩
theorem lLk8_walk {a0 : Option Addr} {c0 : Nat} {xs0 : List (List Bool)} {w : World} (hm0 : xs0.length ≤ maxLen) (hf0 : GFits xs0) (ha0 : GRow w a0 xs0) :
    Calls Try.prog 3 #[.slice a0 xs0.length c0] w fun e w' => e = .returned (.bool true) ∧ Below w.heap.size w w' := by
  by_cases h0 : xs0.length ≤ 1048576
  rotate_left
  · exact lLk8_long hm0 (by omega)
  exact lLk8_main (hide rfl) h0 (hide hf0) (hide ha0)
end Go.Proofs.Ytnhdddclnjgeiab
