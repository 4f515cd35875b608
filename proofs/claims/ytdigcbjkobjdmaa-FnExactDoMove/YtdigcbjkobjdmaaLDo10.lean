/-
  At any arguments the function answers as the model does, in memory of its own: the law's own walk.
-/
import Derived.Test.YtdigcbjkobjdmaaMg10
import Derived.Deep.RegionHeld3
import Derived.Deep.DeepCutAuto
namespace Go.Proofs.Ytdigcbjkobjdmaa
open Go.RowKit

set_option maxHeartbeats 400000 in
theorem lDo10_long0 {a0 : Option Addr} {n0 c0 : Nat} {f1 t1 : Int} {w : World} (h : 1048576 < n0) :
    Calls Try.prog 4 #[.slice a0 n0 c0, .agg #[.int .i64 f1, .int .i64 t1]] w fun e w' => e = .returned (.bool true) ∧ Below w.heap.size w w' := by
  have g0 : (1048576 : Int) < n0 := by omega
  go_enter Try.func4, Try.ntmps4
  go_wp2_with fail
  go_ret
  exact ⟨rfl, below_new _ _⟩
set_option maxRecDepth 100000 in
set_option maxHeartbeats 8000000 in
theorem lDo10_main {a0 : Option Addr} {n0 c0 : Nat} {f1 t1 : Int} {xs0 : List Int} {w : World} (hx0 : Hid (xs0.length = n0)) (hn0 : n0 ≤ 1048576) (HA0 : Hid (ARow w a0 xs0)) :
    Calls Try.prog 4 #[.slice a0 n0 c0, .agg #[.int .i64 f1, .int .i64 t1]] w fun e w' => e = .returned (.bool true) ∧ Below w.heap.size w w' := by
  have g0 : ¬ (1048576 : Int) < n0 := by omega
  have HS := hide fun (W : World) (b0 : Nat) (r0 : ARow W (some ⟨b0, 0, none⟩) xs0) => sdo_w (w := W) (c := n0) (F := f1) (T := t1) hx0.out (Nat.le_refl _) r0
  have HI := hide fun (W : World) (b0 : Nat) (r0 : ARow W (some ⟨b0, 0, none⟩) xs0) => do_w (w := W) (c := n0) (F := f1) (T := t1) hx0.out (Nat.le_refl _) r0
  have y8 : (Mx.dmL xs0 [(f1, t1)]).length ≤ 1048576 := (Nat.le_trans (Mx.dmL_le _ _) (by omega))
  generalize Mx.dmL xs0 [(f1, t1)] = Y at HS HI y8
  generalize hy : Y.length = N at HS HI y8
  have HY := hide hy
  clear hy
  generalize Mx.dmB xs0 [(f1, t1)] = G at HS HI
  have hneG : (G != G) = false := by simp
  have hnn : ¬ (1 : Int) + (N : Int) < 0 := by omega
  have hnm : ((1 : Int) + (N : Int) != (1 : Int) + (N : Int)) = false := by simp
  have hB0 := below_new w (.cells #[.int .i64 f1, .int .i64 t1] 27)
  have pb0 := PBox.new w (.int .i64 f1) (.int .i64 t1) 27
  obtain ⟨w0, hw0⟩ : ∃ W, W = w.alloc (.cells #[.int .i64 f1, .int .i64 t1] 27) := ⟨_, rfl⟩
  rw [← hw0] at hB0 pb0
  have HW0 := hide hw0.symm
  obtain ⟨BM, hBM⟩ : ∃ b, b = w.heap.size := ⟨_, rfl⟩
  rw [← hBM] at pb0
  have HBM := hide hBM.symm
  have hBM0 := pb0.2.2
  have PB := hide pb0
  have zB0 := hB0.size
  clear hw0 hBM pb0
  go_enter Try.func4, Try.ntmps4
  go_upto_region 1 with fail
  rw [HW0.out, HBM.out]
  clear HW0 HBM
  go_upto_region 3 with fail
  have hbD : Below w0.heap.size w0 w0.drew := (Below.refl _ _).drew
  have qd : w0.drew.heap.size = w0.heap.size := rfl
  have hBD := hB0.trans (hbD.mono hB0.size)
  clear hB0
  have PBd := hide (PB.out.below hbD)
  clear PB
  clear hbD
  have hSd := (⟨PBd.out.1, PBd.out.2.1⟩ : _ ∧ _)
  go_region_held3 (fun w' => w'.cell? ⟨BM, 0, none⟩ = some (.int .i64 f1) ∧ w'.cell? ⟨BM, 1, none⟩ = some (.int .i64 t1))
    (first | exact hSd | assumption | fail)
    (first
    | (go_at_call 10; refine (to_av (c := c0) hx0.out hn0 (HA0.out.below hBD)).mono ?_; rintro e w1 ⟨B1, rfl, hb1, o1⟩; have q1 := hb1.size; have hB1 := hBD.trans (hb1.mono hBD.size); have PBdx := hide (PBd.out.below hb1); clear PBd; clear hb1 hBD; have zB1 := hB1.size; have O1 := hide o1; clear o1; have hS1 := (⟨PBdx.out.1, PBdx.out.2.1⟩ : _ ∧ _))
    | (go_at_call 14; have x10 := PBdx.out.1; have x11 := PBdx.out.2.1; refine (toFam_any f1 t1 _).mono ?_; rintro e w2 ⟨rfl, hb2⟩; have q2 := hb2.size; have hB2 := hB1.trans (hb2.mono hB1.size); have PBdxx := hide (PBdx.out.below hb2); clear PBdx; have O1x := hide (O1.out.below hb2); clear O1; clear hb2 hB1; have zB2 := hB2.size; have hS2 := (⟨PBdxx.out.1, PBdxx.out.2.1⟩ : _ ∧ _))
    | (go_at_call 13; refine (HS.out _ _ (av_at hx0.out O1x.out)).mono ?_; rintro e w3 ⟨v3, rfl, hb3, o3⟩; have q3 := hb3.size; have hB3 := hB2.trans (hb3.mono hB2.size); have PBdxxx := hide (PBdxx.out.below hb3); clear PBdxx; have O1xx := hide (O1x.out.below hb3); clear O1x; clear hb3 hB2; have zB3 := hB3.size; have O3 := hide o3; clear o3; have hS3 := (⟨PBdxxx.out.1, PBdxxx.out.2.1⟩ : _ ∧ _))
    | fail)
  clear O1xx
  go_wp2_with fail
  refine (to_av (c := c0) hx0.out hn0 (HA0.out.below hB3)).mono ?_
  rintro e w4 ⟨B4, rfl, hb4, o4⟩
  have q4 := hb4.size
  have hB4 := hB3.trans (hb4.mono hB3.size)
  have PBdxxxx := hide (PBdxxx.out.below hb4)
  clear PBdxxx
  have O3x := hide (O3.out.below hb4)
  clear O3
  clear hb4 hB3
  have zB4 := hB4.size
  have O4 := hide o4
  clear o4
  have x40 := PBdxxxx.out.1
  have x41 := PBdxxxx.out.2.1
  go_wp2_with fail
  refine (toFam_any f1 t1 _).mono ?_
  rintro e w5 ⟨rfl, hb5⟩
  have q5 := hb5.size
  have hB5 := hB4.trans (hb5.mono hB4.size)
  have PBdxxxxx := hide (PBdxxxx.out.below hb5)
  clear PBdxxxx
  have O3xx := hide (O3x.out.below hb5)
  clear O3x
  have O4x := hide (O4.out.below hb5)
  clear O4
  clear hb5 hB4
  have zB5 := hB5.size
  go_wp2_with fail
  refine (HI.out _ _ (av_at hx0.out O4x.out)).mono ?_
  rintro e w6 ⟨v6, rfl, hb6, o6⟩
  have q6 := hb6.size
  have hB6 := hB5.trans (hb6.mono hB5.size)
  have PBdxxxxxx := hide (PBdxxxxx.out.below hb6)
  clear PBdxxxxx
  have O3xxx := hide (O3xx.out.below hb6)
  clear O3xx
  have O4xx := hide (O4x.out.below hb6)
  clear O4x
  clear hb6 hB5
  have zB6 := hB6.size
  have O6 := hide o6
  clear o6
  go_wp2_with fail
  refine (eq_av HY y8 O6.out O3xxx.out).mono ?_
  rintro e w7 ⟨rfl, hb7⟩
  have q7 := hb7.size
  have hB7 := hB6.trans (hb7.mono hB6.size)
  have PBdxxxxxxx := hide (PBdxxxxxx.out.below hb7)
  clear PBdxxxxxx
  have O3xxxx := hide (O3xxx.out.below hb7)
  clear O3xxx
  have O4xxx := hide (O4xx.out.below hb7)
  clear O4xx
  have O6x := hide (O6.out.below hb7)
  clear O6
  clear hb7 hB6
  have zB7 := hB7.size
  go_wp2_with fail
  refine (to_av (c := c0) hx0.out hn0 (HA0.out.below hB7)).mono ?_
  rintro e w8 ⟨B8, rfl, hb8, o8⟩
  have q8 := hb8.size
  have hB8 := hB7.trans (hb8.mono hB7.size)
  have PBdxxxxxxxx := hide (PBdxxxxxxx.out.below hb8)
  clear PBdxxxxxxx
  have O3xxxxx := hide (O3xxxx.out.below hb8)
  clear O3xxxx
  have O4xxxx := hide (O4xxx.out.below hb8)
  clear O4xxx
  have O6xx := hide (O6x.out.below hb8)
  clear O6x
  clear hb8 hB7
  have zB8 := hB8.size
  have O8 := hide o8
  clear o8
  go_wp2_with fail
  refine (eq_av hx0 hn0 O4xxxx.out O8.out).mono ?_
  rintro e w9 ⟨rfl, hb9⟩
  clear O8
  have q9 := hb9.size
  have hB9 := hB8.trans (hb9.mono hB8.size)
  have PBdxxxxxxxxx := hide (PBdxxxxxxxx.out.below hb9)
  clear PBdxxxxxxxx
  have O3xxxxxx := hide (O3xxxxx.out.below hb9)
  clear O3xxxxx
  have O4xxxxx := hide (O4xxxx.out.below hb9)
  clear O4xxxx
  have O6xxx := hide (O6xx.out.below hb9)
  clear O6xx
  clear hb9 hB8
  have zB9 := hB9.size
  go_wp2_with fail
  refine (mark_av hx0 hn0 (by omega) (by omega) O4xxxxx.out).mono ?_
  rintro e w10 ⟨rfl, _, hg10⟩
  have SRC := O4xxxxx
  have q10 := hg10.size
  have hB10 := hB9.trans (grown_under10 hg10 (fun b e => by have := SRC.out.at_ b e; omega) (by omega))
  have PBdxxxxxxxxxx := hide (PBdxxxxxxxxx.out.grown10 hg10 (fun b e => by have := SRC.out.at_ b e; omega))
  clear PBdxxxxxxxxx
  have O3xxxxxxx := hide (O3xxxxxx.out.grownQ hg10 (fun b e => by have := SRC.out.at_ b e; omega))
  clear O3xxxxxx
  have O6xxxx := hide (O6xxx.out.grownQ hg10 (fun b e => by have := SRC.out.at_ b e; omega))
  clear O6xxx
  clear hg10 hB9
  have zB10 := hB10.size
  clear SRC O4xxxxx
  have hk0 : ¬ (1 : Int) + (n0 : Int) < 0 := by omega
  go_wp2_with fail
  refine (eq_av HY y8 O6xxxx.out O3xxxxxxx.out).mono ?_
  rintro e w11 ⟨rfl, hb11⟩
  have q11 := hb11.size
  have hB11 := hB10.trans (hb11.mono hB10.size)
  have PBdxxxxxxxxxxx := hide (PBdxxxxxxxxxx.out.below hb11)
  clear PBdxxxxxxxxxx
  have O3xxxxxxxx := hide (O3xxxxxxx.out.below hb11)
  clear O3xxxxxxx
  have O6xxxxx := hide (O6xxxx.out.below hb11)
  clear O6xxxx
  clear hb11 hB10
  have zB11 := hB11.size
  go_wp2_with fail
  refine (mark_av HY y8 (by omega) (by omega) O6xxxxx.out).mono ?_
  rintro e w12 ⟨rfl, hh12, hg12⟩
  have SRC := O6xxxxx
  have q12 := hg12.size
  have hB12 := hB11.trans (grown_under10 hg12 (fun b e => by have := SRC.out.at_ b e; omega) (by omega))
  have PBdxxxxxxxxxxxx := hide (PBdxxxxxxxxxxx.out.grown10 hg12 (fun b e => by have := SRC.out.at_ b e; omega))
  clear PBdxxxxxxxxxxx
  have O3xxxxxxxxx := hide (O3xxxxxxxx.out.grownQ hg12 (fun b e => by have := SRC.out.at_ b e; omega))
  clear O3xxxxxxxx
  clear hg12 hB11
  have zB12 := hB12.size
  clear SRC O6xxxxx
  have H12 := hide hh12
  clear hh12
  go_wp2_with fail
  refine (held_hv y8 (by omega) (by omega) H12.out).mono ?_
  rintro e wz ⟨rfl, hwz⟩
  obtain rfl : w12 = wz := hwz.symm
  go_upto_region 22 with fail
  have hbD : Below w12.heap.size w12 w12.drew := (Below.refl _ _).drew
  have qd : w12.drew.heap.size = w12.heap.size := rfl
  have hBD := hB12.trans (hbD.mono hB12.size)
  clear hB12
  have PBdxxxxxxxxxxxxd := hide (PBdxxxxxxxxxxxx.out.below hbD)
  clear PBdxxxxxxxxxxxx
  have O3xxxxxxxxxd := hide (O3xxxxxxxxx.out.below hbD)
  clear O3xxxxxxxxx
  have H12d := hide (H12.out.below hbD)
  clear H12
  clear hbD
  have hSd := (⟨PBdxxxxxxxxxxxxd.out.1, PBdxxxxxxxxxxxxd.out.2.1⟩ : _ ∧ _)
  go_region_held3 (fun w' => w'.cell? ⟨BM, 0, none⟩ = some (.int .i64 f1) ∧ w'.cell? ⟨BM, 1, none⟩ = some (.int .i64 t1))
    (first | exact hSd | assumption | fail)
    (first
    | (go_at_call 10; refine (to_av (c := c0) hx0.out hn0 (HA0.out.below hBD)).mono ?_; rintro e w13 ⟨B13, rfl, hb13, o13⟩; have q13 := hb13.size; have hB13 := hBD.trans (hb13.mono hBD.size); have PBdxxxxxxxxxxxxdx := hide (PBdxxxxxxxxxxxxd.out.below hb13); clear PBdxxxxxxxxxxxxd; have O3xxxxxxxxxdx := hide (O3xxxxxxxxxd.out.below hb13); clear O3xxxxxxxxxd; have H12dx := hide (H12d.out.below hb13); clear H12d; clear hb13 hBD; have zB13 := hB13.size; have O13 := hide o13; clear o13; have hS13 := (⟨PBdxxxxxxxxxxxxdx.out.1, PBdxxxxxxxxxxxxdx.out.2.1⟩ : _ ∧ _))
    | (go_at_call 14; have x130 := PBdxxxxxxxxxxxxdx.out.1; have x131 := PBdxxxxxxxxxxxxdx.out.2.1; refine (toFam_any f1 t1 _).mono ?_; rintro e w14 ⟨rfl, hb14⟩; have q14 := hb14.size; have hB14 := hB13.trans (hb14.mono hB13.size); have PBdxxxxxxxxxxxxdxx := hide (PBdxxxxxxxxxxxxdx.out.below hb14); clear PBdxxxxxxxxxxxxdx; have O3xxxxxxxxxdxx := hide (O3xxxxxxxxxdx.out.below hb14); clear O3xxxxxxxxxdx; have H12dxx := hide (H12dx.out.below hb14); clear H12dx; have O13x := hide (O13.out.below hb14); clear O13; clear hb14 hB13; have zB14 := hB14.size; have hS14 := (⟨PBdxxxxxxxxxxxxdxx.out.1, PBdxxxxxxxxxxxxdxx.out.2.1⟩ : _ ∧ _))
    | (go_at_call 15; refine (HI.out _ _ (av_at hx0.out O13x.out)).mono ?_; rintro e w15 ⟨v15, rfl, hb15, o15⟩; have q15 := hb15.size; have hB15 := hB14.trans (hb15.mono hB14.size); have PBdxxxxxxxxxxxxdxxx := hide (PBdxxxxxxxxxxxxdxx.out.below hb15); clear PBdxxxxxxxxxxxxdxx; have O3xxxxxxxxxdxxx := hide (O3xxxxxxxxxdxx.out.below hb15); clear O3xxxxxxxxxdxx; have H12dxxx := hide (H12dxx.out.below hb15); clear H12dxx; have O13xx := hide (O13x.out.below hb15); clear O13x; clear hb15 hB14; have zB15 := hB15.size; have O15 := hide o15; clear o15; have hS15 := (⟨PBdxxxxxxxxxxxxdxxx.out.1, PBdxxxxxxxxxxxxdxxx.out.2.1⟩ : _ ∧ _))
    | fail)
  clear O13xx
  go_wp2_with fail
  refine (eq_av HY y8 O15.out O3xxxxxxxxxdxxx.out).mono ?_
  rintro e w16 ⟨rfl, hb16⟩
  have q16 := hb16.size
  have hB16 := hB15.trans (hb16.mono hB15.size)
  have PBdxxxxxxxxxxxxdxxxx := hide (PBdxxxxxxxxxxxxdxxx.out.below hb16)
  clear PBdxxxxxxxxxxxxdxxx
  have O3xxxxxxxxxdxxxx := hide (O3xxxxxxxxxdxxx.out.below hb16)
  clear O3xxxxxxxxxdxxx
  have H12dxxxx := hide (H12dxxx.out.below hb16)
  clear H12dxxx
  have O15x := hide (O15.out.below hb16)
  clear O15
  clear hb16 hB15
  have zB16 := hB16.size
  go_wp2_with fail
  refine (held_hv y8 (by omega) (by omega) H12dxxxx.out).mono ?_
  rintro e wz ⟨rfl, hwz⟩
  obtain rfl : w16 = wz := hwz.symm
  go_wp2_with fail
  go_ret
  exact ⟨rfl, hB16⟩
theorem lDo10_walk {a0 : Option Addr} {c0 : Nat} {f1 t1 : Int} {xs0 : List Int} {w : World} (ha0 : ARow w a0 xs0) :
    Calls Try.prog 4 #[.slice a0 xs0.length c0, .agg #[.int .i64 f1, .int .i64 t1]] w fun e w' => e = .returned (.bool true) ∧ Below w.heap.size w w' := by
  by_cases h0 : xs0.length ≤ 1048576
  rotate_left
  · exact lDo10_long0 (by omega)
  exact lDo10_main (hide rfl) h0 (hide ha0)
end Go.Proofs.Ytdigcbjkobjdmaa
