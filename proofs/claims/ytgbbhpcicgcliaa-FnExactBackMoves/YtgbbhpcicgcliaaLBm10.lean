/-
  At any arguments the function answers as the model does, in memory of its own: the law's own walk.
-/
import Derived.Test.YtgbbhpcicgcliaaBm10
namespace Go.Proofs.Ytgbbhpcicgcliaa
open Go.RowKit

set_option maxHeartbeats 400000 in
theorem lBm10_long0 {a0 : Option Addr} {n0 c0 : Nat} {w : World} (hm : n0 ≤ maxLen) (h : 1048576 < n0) :
    Calls Try.prog 3 #[.slice a0 n0 c0] w fun e w' => e = .returned (.bool true) ∧ Below w.heap.size w w' := by
  have g0 : (1048576 : Int) < n0 := by omega
  go_enter Try.func3, Try.ntmps3
  go_wp2_with fail
  refine (szF_no _ _ _ _ _ (by omega) (by omega) hm g0).mono ?_
  rintro e w1 ⟨rfl, rfl⟩
  go_wp2_with fail
  go_ret
  exact ⟨rfl, Below.refl _ _⟩
set_option maxRecDepth 100000 in
set_option maxHeartbeats 8000000 in
theorem lBm10_main {a0 : Option Addr} {n0 c0 : Nat} {xs0 : List (Int × Int)} {w : World} (hx0 : Hid (xs0.length = n0)) (hn0 : n0 ≤ 1048576) (HA0 : Hid (FRow w a0 xs0)) :
    Calls Try.prog 3 #[.slice a0 n0 c0] w fun e w' => e = .returned (.bool true) ∧ Below w.heap.size w w' := by
  have g0 : ¬ (1048576 : Int) - n0 < 0 := by omega
  have HS := hide fun (W : World) (b0 : Nat) (r0 : FRow W (some ⟨b0, 0, none⟩) xs0) => sbk_w (w := W) (c := n0) hx0.out hn0 r0
  have HI := hide fun (W : World) (b0 : Nat) (r0 : FRow W (some ⟨b0, 0, none⟩) xs0) => bk_w (w := W) (c := n0) hx0.out r0
  have y8 : (bkL xs0).length ≤ 1048576 := (Nat.le_trans (bkL_le xs0) (by omega))
  generalize bkL xs0 = Y at HS HI y8
  generalize hy : Y.length = N at HS HI y8
  have HY := hide hy
  clear hy
  generalize bkB xs0 = G at HS HI
  have hneG : (G != G) = false := by simp
  have hnn : ¬ (1 : Int) + (N : Int) * 2 < 0 := by omega
  have hnm : ((1 : Int) + (N : Int) * 2 != (1 : Int) + (N : Int) * 2) = false := by simp
  go_enter Try.func3, Try.ntmps3
  go_wp2_with fail
  refine (szF_yes _ _ _ _ _ (by omega) (by omega) (by omega)).mono ?_
  rintro e w0 ⟨rfl, hw0⟩
  obtain rfl : w = w0 := hw0.symm
  go_wp2_with fail
  refine (to_mo (c := c0) hx0.out hn0 HA0.out).mono ?_
  rintro e w1 ⟨B1, rfl, hb1, o1⟩
  have q1 := hb1.size
  have hB1 := hb1
  clear hb1
  have zB1 := hB1.size
  have O1 := hide o1
  clear o1
  go_wp2_with fail
  refine (HS.out _ _ (mo_at O1.out)).mono ?_
  rintro e w2 ⟨v2, rfl, hb2, o2⟩
  have q2 := hb2.size
  have hB2 := hB1.trans (hb2.mono hB1.size)
  have O1x := hide (O1.out.below hb2)
  clear O1
  clear hb2 hB1
  have zB2 := hB2.size
  have O2 := hide o2
  clear o2
  clear O1x
  go_wp2_with fail
  refine (to_mo (c := c0) hx0.out hn0 (HA0.out.below hB2)).mono ?_
  rintro e w3 ⟨B3, rfl, hb3, o3⟩
  have q3 := hb3.size
  have hB3 := hB2.trans (hb3.mono hB2.size)
  have O2x := hide (O2.out.below hb3)
  clear O2
  clear hb3 hB2
  have zB3 := hB3.size
  have O3 := hide o3
  clear o3
  go_wp2_with fail
  refine (HI.out _ _ (mo_at O3.out)).mono ?_
  rintro e w4 ⟨v4, rfl, hb4, o4⟩
  have q4 := hb4.size
  have hB4 := hB3.trans (hb4.mono hB3.size)
  have O2xx := hide (O2x.out.below hb4)
  clear O2x
  have O3x := hide (O3.out.below hb4)
  clear O3
  clear hb4 hB3
  have zB4 := hB4.size
  have O4 := hide o4
  clear o4
  go_wp2_with fail
  refine (eq_mo y8 O4.out O2xx.out).mono ?_
  rintro e w5 ⟨rfl, hb5⟩
  have q5 := hb5.size
  have hB5 := hB4.trans (hb5.mono hB4.size)
  have O2xxx := hide (O2xx.out.below hb5)
  clear O2xx
  have O3xx := hide (O3x.out.below hb5)
  clear O3x
  have O4x := hide (O4.out.below hb5)
  clear O4
  clear hb5 hB4
  have zB5 := hB5.size
  go_wp2_with fail
  refine (to_mo (c := c0) hx0.out hn0 (HA0.out.below hB5)).mono ?_
  rintro e w6 ⟨B6, rfl, hb6, o6⟩
  have q6 := hb6.size
  have hB6 := hB5.trans (hb6.mono hB5.size)
  have O2xxxx := hide (O2xxx.out.below hb6)
  clear O2xxx
  have O3xxx := hide (O3xx.out.below hb6)
  clear O3xx
  have O4xx := hide (O4x.out.below hb6)
  clear O4x
  clear hb6 hB5
  have zB6 := hB6.size
  have O6 := hide o6
  clear o6
  go_wp2_with fail
  refine (eq_mo hn0 O3xxx.out O6.out).mono ?_
  rintro e w7 ⟨rfl, hb7⟩
  clear O6
  have q7 := hb7.size
  have hB7 := hB6.trans (hb7.mono hB6.size)
  have O2xxxxx := hide (O2xxxx.out.below hb7)
  clear O2xxxx
  have O3xxxx := hide (O3xxx.out.below hb7)
  clear O3xxx
  have O4xxx := hide (O4xx.out.below hb7)
  clear O4xx
  clear hb7 hB6
  have zB7 := hB7.size
  go_wp2_with fail
  refine (mark_mo hn0 (by omega) (by omega) O3xxxx.out).mono ?_
  rintro e w8 ⟨rfl, _, hg8⟩
  have SRC := O3xxxx
  have q8 := hg8.size
  have hB8 := hB7.trans (grown_under10 hg8 (fun b e => by have := SRC.out.at_ b e; omega) (by omega))
  have O2xxxxxx := hide (O2xxxxx.out.grown hg8 (fun b e => by have := SRC.out.at_ b e; omega))
  clear O2xxxxx
  have O4xxxx := hide (O4xxx.out.grown hg8 (fun b e => by have := SRC.out.at_ b e; omega))
  clear O4xxx
  clear hg8 hB7
  have zB8 := hB8.size
  clear SRC O3xxxx
  have hk0 : ¬ (1 : Int) + (n0 : Int) * 2 < 0 := by omega
  go_wp2_with fail
  refine (eq_mo y8 O4xxxx.out O2xxxxxx.out).mono ?_
  rintro e w9 ⟨rfl, hb9⟩
  have q9 := hb9.size
  have hB9 := hB8.trans (hb9.mono hB8.size)
  have O2xxxxxxx := hide (O2xxxxxx.out.below hb9)
  clear O2xxxxxx
  have O4xxxxx := hide (O4xxxx.out.below hb9)
  clear O4xxxx
  clear hb9 hB8
  have zB9 := hB9.size
  go_wp2_with fail
  refine (mark_mo y8 (by omega) (by omega) O4xxxxx.out).mono ?_
  rintro e w10 ⟨rfl, hh10, hg10⟩
  have SRC := O4xxxxx
  have q10 := hg10.size
  have hB10 := hB9.trans (grown_under10 hg10 (fun b e => by have := SRC.out.at_ b e; omega) (by omega))
  have O2xxxxxxxx := hide (O2xxxxxxx.out.grown hg10 (fun b e => by have := SRC.out.at_ b e; omega))
  clear O2xxxxxxx
  clear hg10 hB9
  have zB10 := hB10.size
  clear SRC O4xxxxx
  have H10 := hide hh10
  clear hh10
  go_wp2_with fail
  refine (held_mo y8 (by omega) (by omega) H10.out).mono ?_
  rintro e wz ⟨rfl, hwz⟩
  obtain rfl : w10 = wz := hwz.symm
  go_wp2_with fail
  refine (to_mo (c := c0) hx0.out hn0 (HA0.out.below hB10)).mono ?_
  rintro e w11 ⟨B11, rfl, hb11, o11⟩
  have q11 := hb11.size
  have hB11 := hB10.trans (hb11.mono hB10.size)
  have O2xxxxxxxxx := hide (O2xxxxxxxx.out.below hb11)
  clear O2xxxxxxxx
  have H10x := hide (H10.out.below hb11)
  clear H10
  clear hb11 hB10
  have zB11 := hB11.size
  have O11 := hide o11
  clear o11
  go_wp2_with fail
  refine (HI.out _ _ (mo_at O11.out)).mono ?_
  rintro e w12 ⟨v12, rfl, hb12, o12⟩
  have q12 := hb12.size
  have hB12 := hB11.trans (hb12.mono hB11.size)
  have O2xxxxxxxxxx := hide (O2xxxxxxxxx.out.below hb12)
  clear O2xxxxxxxxx
  have H10xx := hide (H10x.out.below hb12)
  clear H10x
  have O11x := hide (O11.out.below hb12)
  clear O11
  clear hb12 hB11
  have zB12 := hB12.size
  have O12 := hide o12
  clear o12
  clear O11x
  go_wp2_with fail
  refine (eq_mo y8 O12.out O2xxxxxxxxxx.out).mono ?_
  rintro e w13 ⟨rfl, hb13⟩
  have q13 := hb13.size
  have hB13 := hB12.trans (hb13.mono hB12.size)
  have O2xxxxxxxxxxx := hide (O2xxxxxxxxxx.out.below hb13)
  clear O2xxxxxxxxxx
  have H10xxx := hide (H10xx.out.below hb13)
  clear H10xx
  have O12x := hide (O12.out.below hb13)
  clear O12
  clear hb13 hB12
  have zB13 := hB13.size
  go_wp2_with fail
  refine (held_mo y8 (by omega) (by omega) H10xxx.out).mono ?_
  rintro e wz ⟨rfl, hwz⟩
  obtain rfl : w13 = wz := hwz.symm
  go_wp2_with fail
  go_ret
  exact ⟨rfl, hB13⟩
theorem lBm10_walk {a0 : Option Addr} {c0 : Nat} {xs0 : List (Int × Int)} {w : World} (hm0 : xs0.length ≤ maxLen) (ha0 : FRow w a0 xs0) :
    Calls Try.prog 3 #[.slice a0 xs0.length c0] w fun e w' => e = .returned (.bool true) ∧ Below w.heap.size w w' := by
  by_cases h0 : xs0.length ≤ 1048576
  rotate_left
  · exact lBm10_long0 hm0 (by omega)
  exact lBm10_main (hide rfl) h0 (hide ha0)
end Go.Proofs.Ytgbbhpcicgcliaa
