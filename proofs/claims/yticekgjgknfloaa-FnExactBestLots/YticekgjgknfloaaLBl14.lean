/-
  At any arguments the function answers as the model does: the law's own walk.
-/
import Derived.Test.YticekgjgknfloaaAq14
namespace Go.Proofs.Yticekgjgknfloaa
open Go.RowKit

set_option maxHeartbeats 400000 in
theorem lBl14_long0 {a0 : Option Addr} {n0 c0 : Nat} {S0 K0 : Int} {w : World} (hm : n0 ≤ maxLen) (h : 1048576 < n0) :
    Calls Try.prog 5 #[.agg #[.slice a0 n0 c0, .int .i64 S0, .int .i64 K0]] w fun e w' => e = .returned (.bool true) ∧ Below w.heap.size w w' := by
  have HB := hide (below_box w (.cells #[.slice a0 n0 c0, .int .i64 S0, .int .i64 K0] 24))
  go_enter Try.func5, Try.ntmps5
  go_wp2_with fail
  refine (szT_no hm h).mono ?_
  rintro e w1 ⟨rfl, hb1⟩
  have HB1 := hide (HB.out.trans (hb1.mono HB.out.size))
  go_wp2_with fail
  go_ret
  exact ⟨rfl, HB1.out⟩
set_option maxRecDepth 100000 in
set_option maxHeartbeats 8000000 in
theorem lBl14_main {a0 : Option Addr} {n0 c0 : Nat} {S0 K0 : Int} {xs0 : List Int} {w : World} (hx0 : Hid (xs0.length = n0)) (hn0 : n0 ≤ 1048576) (HA0 : Hid (ARow w a0 xs0)) :
    Calls Try.prog 5 #[.agg #[.slice a0 n0 c0, .int .i64 S0, .int .i64 K0]] w fun e w' => e = .returned (.bool true) ∧ Below w.heap.size w w' := by
  have g0 : ¬ (1048576 : Int) - n0 < 0 := by omega
  have HS := hide fun (W : World) (b0 : Nat) (r0 : Hid (ARow W (some ⟨b0, 0, none⟩) xs0)) => sbl_w (w := W) (c := n0) (S := S0) (K := K0) hx0 r0
  have HI := hide fun (W : World) (b0 : Nat) (r0 : Hid (ARow W (some ⟨b0, 0, none⟩) xs0)) => bl_w (w := W) (c := n0) (S := S0) (K := K0) (Nat.le_refl _) hx0 r0
  have y8 : (Lo.blL xs0 S0 K0).length ≤ 1048576 := Nat.le_trans Lo.blL_le (by omega)
  generalize Lo.blL xs0 S0 K0 = Y at HS HI y8
  generalize hy : Y.length = N at HS HI y8
  have HY := hide hy
  clear hy
  have hnn : ¬ (1 : Int) + (N : Int) < 0 := by omega
  have hnm : ((1 : Int) + (N : Int) != (1 : Int) + (N : Int)) = false := by simp
  generalize Lo.blI xs0 S0 K0 = V at HS HI
  have hneV : (V != V) = false := by simp
  generalize Lo.goodB xs0 S0 K0 = G at HS HI
  have hneG : (G != G) = false := by simp
  have hB0 := below_new w (.cells #[.slice a0 n0 c0, .int .i64 S0, .int .i64 K0] 24)
  have pb0 := TBox.new w (.slice a0 n0 c0) (.int .i64 S0) (.int .i64 K0) 24
  obtain ⟨w0, hw0⟩ : ∃ W, W = w.alloc (.cells #[.slice a0 n0 c0, .int .i64 S0, .int .i64 K0] 24) := ⟨_, rfl⟩
  rw [← hw0] at hB0 pb0
  have HW0 := hide hw0.symm
  obtain ⟨BM, hBM⟩ : ∃ b, b = w.heap.size := ⟨_, rfl⟩
  rw [← hBM] at pb0
  have HBM := hide hBM.symm
  have hBM0 := pb0.2.2.2
  have hBMw : BM = w.heap.size := hBM
  have HBMw := hide hBMw
  have PB := hide pb0
  have zB0 := hB0.size
  clear hw0 hBM pb0 hBMw
  go_enter Try.func5, Try.ntmps5
  go_upto_region 1 with fail
  rw [HW0.out, HBM.out]
  clear HW0 HBM
  have cBM0 := PB.out.1
  have cBM1 := PB.out.2.1
  have cBM2 := PB.out.2.2.1
  go_wp2_with fail
  clear cBM0 cBM1 cBM2
  refine (szT_yes hn0).mono ?_
  rintro e w1 ⟨rfl, hb1⟩
  have q1 := hb1.size
  have hB1 := hB0.trans (hb1.mono hB0.size)
  have PBx := hide (PB.out.below hb1)
  clear PB
  clear hb1 hB0
  have zB1 := hB1.size
  have cBM0 := PBx.out.1
  have cBM1 := PBx.out.2.1
  have cBM2 := PBx.out.2.2.1
  go_wp2_with fail
  clear cBM0 cBM1 cBM2
  refine (toT_any hx0 hn0 (hide (HA0.out.below hB1))).mono ?_
  rintro e w2 ⟨B2, rfl, hb2, o2⟩
  have q2 := hb2.size
  have hB2 := hB1.trans (hb2.mono hB1.size)
  have PBxx := hide (PBx.out.below hb2)
  clear PBx
  clear hb2 hB1
  have zB2 := hB2.size
  have O2 := hide o2
  have lx2 := o2.blk
  clear o2
  have cBM0 := PBxx.out.1
  have cBM1 := PBxx.out.2.1
  have cBM2 := PBxx.out.2.2.1
  go_wp2_with fail
  clear cBM0 cBM1 cBM2
  refine (HS.out _ _ (hide (av_at hx0.out O2.out))).mono ?_
  rintro e w3 ⟨v3, rfl, hb3, o3⟩
  have q3 := hb3.size
  have hB3 := hB2.trans (hb3.mono hB2.size)
  have PBxxx := hide (PBxx.out.below hb3)
  clear PBxx
  have O2x := hide (O2.out.below hb3)
  clear O2
  clear hb3 hB2
  have zB3 := hB3.size
  have O3 := hide o3
  clear o3
  clear O2x
  have cBM0 := PBxxx.out.1
  have cBM1 := PBxxx.out.2.1
  have cBM2 := PBxxx.out.2.2.1
  go_wp2_with fail
  clear cBM0 cBM1 cBM2
  refine (toT_any hx0 hn0 (hide (HA0.out.below hB3))).mono ?_
  rintro e w4 ⟨B4, rfl, hb4, o4⟩
  have q4 := hb4.size
  have hB4 := hB3.trans (hb4.mono hB3.size)
  have PBxxxx := hide (PBxxx.out.below hb4)
  clear PBxxx
  have O3x := hide (O3.out.below hb4)
  clear O3
  clear hb4 hB3
  have zB4 := hB4.size
  have O4 := hide o4
  have lx4 := o4.blk
  clear o4
  have hb5 := below_new w4 (.cells #[.slice (some ⟨B4, 0, none⟩) n0 n0, .int .i64 S0, .int .i64 K0] 27)
  have pb5 := TBox.new w4 (.slice (some ⟨B4, 0, none⟩) n0 n0) (.int .i64 S0) (.int .i64 K0) 27
  obtain ⟨w5, hw5⟩ : ∃ W, W = w4.alloc (.cells #[.slice (some ⟨B4, 0, none⟩) n0 n0, .int .i64 S0, .int .i64 K0] 27) := ⟨_, rfl⟩
  rw [← hw5] at hb5 pb5
  have HW5 := hide hw5.symm
  obtain ⟨D, hD⟩ : ∃ b, b = w4.heap.size := ⟨_, rfl⟩
  rw [← hD] at pb5
  have HD := hide hD.symm
  have hD0 := pb5.2.2.2
  have hD9 : w4.heap.size ≤ D := by omega
  have hDx : B4 < D := by omega
  have hDb : BM < D := by omega
  have PD := hide pb5
  clear hw5 pb5 hD
  go_upto_region 7 with fail
  rw [HW5.out, HD.out]
  clear HW5 HD
  have q5 := hb5.size
  have hB5 := hB4.trans (hb5.mono hB4.size)
  have PBxxxxx := hide (PBxxxx.out.below hb5)
  clear PBxxxx
  have O3xx := hide (O3x.out.below hb5)
  clear O3x
  have O4x := hide (O4.out.below hb5)
  clear O4
  clear hb5 hB4
  have zB5 := hB5.size
  have cBM0 := PBxxxxx.out.1
  have cBM1 := PBxxxxx.out.2.1
  have cBM2 := PBxxxxx.out.2.2.1
  have cD0 := PD.out.1
  have cD1 := PD.out.2.1
  have cD2 := PD.out.2.2.1
  go_wp2_with fail
  clear cBM0 cBM1 cBM2 cD0 cD1 cD2
  refine (HI.out _ _ (hide (av_at hx0.out O4x.out))).mono ?_
  rintro e w6 ⟨v6, rfl, hb6, o6⟩
  have q6 := hb6.size
  have hB6 := hB5.trans (hb6.mono hB5.size)
  have PBxxxxxx := hide (PBxxxxx.out.below hb6)
  clear PBxxxxx
  have O3xxx := hide (O3xx.out.below hb6)
  clear O3xx
  have O4xx := hide (O4x.out.below hb6)
  clear O4x
  have PDx := hide (PD.out.below hb6)
  clear PD
  clear hb6 hB5
  have zB6 := hB6.size
  have O6 := hide o6
  clear o6
  have cBM0 := PBxxxxxx.out.1
  have cBM1 := PBxxxxxx.out.2.1
  have cBM2 := PBxxxxxx.out.2.2.1
  have cD0 := PDx.out.1
  have cD1 := PDx.out.2.1
  have cD2 := PDx.out.2.2.1
  go_wp2_with fail
  clear cBM0 cBM1 cBM2 cD0 cD1 cD2
  refine (eq_av HY y8 O6.out O3xxx.out).mono ?_
  rintro e w7 ⟨rfl, hb7⟩
  have q7 := hb7.size
  have hB7 := hB6.trans (hb7.mono hB6.size)
  have PBxxxxxxx := hide (PBxxxxxx.out.below hb7)
  clear PBxxxxxx
  have O3xxxx := hide (O3xxx.out.below hb7)
  clear O3xxx
  have O4xxx := hide (O4xx.out.below hb7)
  clear O4xx
  have PDxx := hide (PDx.out.below hb7)
  clear PDx
  have O6x := hide (O6.out.below hb7)
  clear O6
  clear hb7 hB6
  have zB7 := hB7.size
  go_upto_region 10 with fail
  have hbD : Below w7.heap.size w7 w7.drew := (Below.refl _ _).drew
  have qd : w7.drew.heap.size = w7.heap.size := rfl
  have hBD := hB7.trans (hbD.mono hB7.size)
  clear hB7
  have PBxxxxxxxd := hide (PBxxxxxxx.out.below hbD)
  clear PBxxxxxxx
  have O3xxxxd := hide (O3xxxx.out.below hbD)
  clear O3xxxx
  have O4xxxd := hide (O4xxx.out.below hbD)
  clear O4xxx
  have PDxxd := hide (PDxx.out.below hbD)
  clear PDxx
  have O6xd := hide (O6x.out.below hbD)
  clear O6x
  clear hbD
  have hSd := (⟨PBxxxxxxxd.out.1, PBxxxxxxxd.out.2.1, PBxxxxxxxd.out.2.2.1, PDxxd.out.1, PDxxd.out.2.1, PDxxd.out.2.2.1⟩ : _ ∧ _ ∧ _ ∧ _ ∧ _ ∧ _)
  go_region_held3 (fun w' => w'.cell? ⟨BM, 0, none⟩ = some (.slice a0 n0 c0) ∧ w'.cell? ⟨BM, 1, none⟩ = some (.int .i64 S0) ∧ w'.cell? ⟨BM, 2, none⟩ = some (.int .i64 K0) ∧ w'.cell? ⟨D, 0, none⟩ = some (.slice (some ⟨B4, 0, none⟩) n0 n0) ∧ w'.cell? ⟨D, 1, none⟩ = some (.int .i64 S0) ∧ w'.cell? ⟨D, 2, none⟩ = some (.int .i64 K0))
    (first | exact hSd | assumption | fail)
    (first
    | (go_at_call 11; refine (toT_any hx0 hn0 (hide (HA0.out.below hBD))).mono ?_; rintro e w8 ⟨B8, rfl, hb8, o8⟩; have q8 := hb8.size; have hB8 := hBD.trans (hb8.mono hBD.size); have PBxxxxxxxdx := hide (PBxxxxxxxd.out.below hb8); clear PBxxxxxxxd; have O3xxxxdx := hide (O3xxxxd.out.below hb8); clear O3xxxxd; have O4xxxdx := hide (O4xxxd.out.below hb8); clear O4xxxd; have PDxxdx := hide (PDxxd.out.below hb8); clear PDxxd; have O6xdx := hide (O6xd.out.below hb8); clear O6xd; clear hb8 hBD; have zB8 := hB8.size; have O8 := hide o8; have lx8 := o8.blk; clear o8; have hS8 := (⟨PBxxxxxxxdx.out.1, PBxxxxxxxdx.out.2.1, PBxxxxxxxdx.out.2.2.1, PDxxdx.out.1, PDxxdx.out.2.1, PDxxdx.out.2.2.1⟩ : _ ∧ _ ∧ _ ∧ _ ∧ _ ∧ _))
    | (go_at_call 13; refine (eqT_av hx0 hn0 O4xxxdx.out O8.out).mono ?_; rintro e w9 ⟨rfl, hb9⟩; clear O8; have q9 := hb9.size; have hB9 := hB8.trans (hb9.mono hB8.size); have PBxxxxxxxdxx := hide (PBxxxxxxxdx.out.below hb9); clear PBxxxxxxxdx; have O3xxxxdxx := hide (O3xxxxdx.out.below hb9); clear O3xxxxdx; have O4xxxdxx := hide (O4xxxdx.out.below hb9); clear O4xxxdx; have PDxxdxx := hide (PDxxdx.out.below hb9); clear PDxxdx; have O6xdxx := hide (O6xdx.out.below hb9); clear O6xdx; clear hb9 hB8; have zB9 := hB9.size; have hS9 := (⟨PBxxxxxxxdxx.out.1, PBxxxxxxxdxx.out.2.1, PBxxxxxxxdxx.out.2.2.1, PDxxdxx.out.1, PDxxdxx.out.2.1, PDxxdxx.out.2.2.1⟩ : _ ∧ _ ∧ _ ∧ _ ∧ _ ∧ _))
    | fail)
  have cBM0 := PBxxxxxxxdxx.out.1
  have cBM1 := PBxxxxxxxdxx.out.2.1
  have cBM2 := PBxxxxxxxdxx.out.2.2.1
  have cD0 := PDxxdxx.out.1
  have cD1 := PDxxdxx.out.2.1
  have cD2 := PDxxdxx.out.2.2.1
  go_wp2_with fail
  clear cBM0 cBM1 cBM2 cD0 cD1 cD2
  refine (markT_av hx0 hn0 (by omega) (by omega) O4xxxdxx.out).mono ?_
  rintro e w10 ⟨rfl, hg10⟩
  have SRC := O4xxxdxx
  have q10 := hg10.size
  have hB10 := hB9.trans (grown_under10 hg10 (fun b e => by have := SRC.out.at_ b e; have := HBMw.out; omega) (by have := HBMw.out; omega))
  have PBxxxxxxxdxxx := hide (PBxxxxxxxdxx.out.grown hg10 (fun e => by have := SRC.out.at_ _ e; omega))
  clear PBxxxxxxxdxx
  have O3xxxxdxxx := hide (O3xxxxdxx.out.grownQ hg10 (fun b e => by have := SRC.out.at_ b e; omega))
  clear O3xxxxdxx
  have PDxxdxxx := hide (PDxxdxx.out.grown hg10 (fun e => by have := SRC.out.at_ _ e; omega))
  clear PDxxdxx
  have O6xdxxx := hide (O6xdxx.out.grownQ hg10 (fun b e => by have := SRC.out.at_ b e; omega))
  clear O6xdxx
  clear hg10 hB9
  have zB10 := hB10.size
  clear SRC O4xxxdxx
  have hk0 : ¬ (1 : Int) + (n0 : Int) < 0 := by omega
  have cBM0 := PBxxxxxxxdxxx.out.1
  have cBM1 := PBxxxxxxxdxxx.out.2.1
  have cBM2 := PBxxxxxxxdxxx.out.2.2.1
  have cD0 := PDxxdxxx.out.1
  have cD1 := PDxxdxxx.out.2.1
  have cD2 := PDxxdxxx.out.2.2.1
  go_wp2_with fail
  clear cBM0 cBM1 cBM2 cD0 cD1 cD2
  refine (eq_av HY y8 O6xdxxx.out O3xxxxdxxx.out).mono ?_
  rintro e w11 ⟨rfl, hb11⟩
  have q11 := hb11.size
  have hB11 := hB10.trans (hb11.mono hB10.size)
  have PBxxxxxxxdxxxx := hide (PBxxxxxxxdxxx.out.below hb11)
  clear PBxxxxxxxdxxx
  have O3xxxxdxxxx := hide (O3xxxxdxxx.out.below hb11)
  clear O3xxxxdxxx
  have PDxxdxxxx := hide (PDxxdxxx.out.below hb11)
  clear PDxxdxxx
  have O6xdxxxx := hide (O6xdxxx.out.below hb11)
  clear O6xdxxx
  clear hb11 hB10
  have zB11 := hB11.size
  have cBM0 := PBxxxxxxxdxxxx.out.1
  have cBM1 := PBxxxxxxxdxxxx.out.2.1
  have cBM2 := PBxxxxxxxdxxxx.out.2.2.1
  have cD0 := PDxxdxxxx.out.1
  have cD1 := PDxxdxxxx.out.2.1
  have cD2 := PDxxdxxxx.out.2.2.1
  go_wp2_with fail
  clear cBM0 cBM1 cBM2 cD0 cD1 cD2
  refine (mark_av HY y8 (by omega) (by omega) O6xdxxxx.out).mono ?_
  rintro e w12 ⟨rfl, hh12, hg12⟩
  have SRC := O6xdxxxx
  have q12 := hg12.size
  have hB12 := hB11.trans (grown_under10 hg12 (fun b e => by have := SRC.out.at_ b e; have := HBMw.out; omega) (by have := HBMw.out; omega))
  have PBxxxxxxxdxxxxx := hide (PBxxxxxxxdxxxx.out.grown hg12 (fun e => by have := SRC.out.at_ _ e; omega))
  clear PBxxxxxxxdxxxx
  have O3xxxxdxxxxx := hide (O3xxxxdxxxx.out.grownQ hg12 (fun b e => by have := SRC.out.at_ b e; omega))
  clear O3xxxxdxxxx
  have PDxxdxxxxx := hide (PDxxdxxxx.out.grown hg12 (fun e => by have := SRC.out.at_ _ e; omega))
  clear PDxxdxxxx
  clear hg12 hB11
  have zB12 := hB12.size
  clear SRC O6xdxxxx
  have H12 := hide hh12
  clear hh12
  have cBM0 := PBxxxxxxxdxxxxx.out.1
  have cBM1 := PBxxxxxxxdxxxxx.out.2.1
  have cBM2 := PBxxxxxxxdxxxxx.out.2.2.1
  have cD0 := PDxxdxxxxx.out.1
  have cD1 := PDxxdxxxxx.out.2.1
  have cD2 := PDxxdxxxxx.out.2.2.1
  go_wp2_with fail
  clear cBM0 cBM1 cBM2 cD0 cD1 cD2
  refine (held_hv y8 (by omega) (by omega) H12.out).mono ?_
  rintro e wz ⟨rfl, hwz⟩
  obtain rfl : w12 = wz := hwz.symm
  have cBM0 := PBxxxxxxxdxxxxx.out.1
  have cBM1 := PBxxxxxxxdxxxxx.out.2.1
  have cBM2 := PBxxxxxxxdxxxxx.out.2.2.1
  have cD0 := PDxxdxxxxx.out.1
  have cD1 := PDxxdxxxxx.out.2.1
  have cD2 := PDxxdxxxxx.out.2.2.1
  go_wp2_with fail
  clear cBM0 cBM1 cBM2 cD0 cD1 cD2
  refine (toT_any hx0 hn0 (hide (HA0.out.below hB12))).mono ?_
  rintro e w13 ⟨B13, rfl, hb13, o13⟩
  have q13 := hb13.size
  have hB13 := hB12.trans (hb13.mono hB12.size)
  have PBxxxxxxxdxxxxxx := hide (PBxxxxxxxdxxxxx.out.below hb13)
  clear PBxxxxxxxdxxxxx
  have O3xxxxdxxxxxx := hide (O3xxxxdxxxxx.out.below hb13)
  clear O3xxxxdxxxxx
  have PDxxdxxxxxx := hide (PDxxdxxxxx.out.below hb13)
  clear PDxxdxxxxx
  have H12x := hide (H12.out.below hb13)
  clear H12
  clear hb13 hB12
  have zB13 := hB13.size
  have O13 := hide o13
  have lx13 := o13.blk
  clear o13
  have cBM0 := PBxxxxxxxdxxxxxx.out.1
  have cBM1 := PBxxxxxxxdxxxxxx.out.2.1
  have cBM2 := PBxxxxxxxdxxxxxx.out.2.2.1
  have cD0 := PDxxdxxxxxx.out.1
  have cD1 := PDxxdxxxxxx.out.2.1
  have cD2 := PDxxdxxxxxx.out.2.2.1
  go_wp2_with fail
  clear cBM0 cBM1 cBM2 cD0 cD1 cD2
  refine (HI.out _ _ (hide (av_at hx0.out O13.out))).mono ?_
  rintro e w14 ⟨v14, rfl, hb14, o14⟩
  have q14 := hb14.size
  have hB14 := hB13.trans (hb14.mono hB13.size)
  have PBxxxxxxxdxxxxxxx := hide (PBxxxxxxxdxxxxxx.out.below hb14)
  clear PBxxxxxxxdxxxxxx
  have O3xxxxdxxxxxxx := hide (O3xxxxdxxxxxx.out.below hb14)
  clear O3xxxxdxxxxxx
  have PDxxdxxxxxxx := hide (PDxxdxxxxxx.out.below hb14)
  clear PDxxdxxxxxx
  have H12xx := hide (H12x.out.below hb14)
  clear H12x
  have O13x := hide (O13.out.below hb14)
  clear O13
  clear hb14 hB13
  have zB14 := hB14.size
  have O14 := hide o14
  clear o14
  clear O13x
  have cBM0 := PBxxxxxxxdxxxxxxx.out.1
  have cBM1 := PBxxxxxxxdxxxxxxx.out.2.1
  have cBM2 := PBxxxxxxxdxxxxxxx.out.2.2.1
  have cD0 := PDxxdxxxxxxx.out.1
  have cD1 := PDxxdxxxxxxx.out.2.1
  have cD2 := PDxxdxxxxxxx.out.2.2.1
  go_wp2_with fail
  clear cBM0 cBM1 cBM2 cD0 cD1 cD2
  refine (eq_av HY y8 O14.out O3xxxxdxxxxxxx.out).mono ?_
  rintro e w15 ⟨rfl, hb15⟩
  have q15 := hb15.size
  have hB15 := hB14.trans (hb15.mono hB14.size)
  have PBxxxxxxxdxxxxxxxx := hide (PBxxxxxxxdxxxxxxx.out.below hb15)
  clear PBxxxxxxxdxxxxxxx
  have O3xxxxdxxxxxxxx := hide (O3xxxxdxxxxxxx.out.below hb15)
  clear O3xxxxdxxxxxxx
  have PDxxdxxxxxxxx := hide (PDxxdxxxxxxx.out.below hb15)
  clear PDxxdxxxxxxx
  have H12xxx := hide (H12xx.out.below hb15)
  clear H12xx
  have O14x := hide (O14.out.below hb15)
  clear O14
  clear hb15 hB14
  have zB15 := hB15.size
  have cBM0 := PBxxxxxxxdxxxxxxxx.out.1
  have cBM1 := PBxxxxxxxdxxxxxxxx.out.2.1
  have cBM2 := PBxxxxxxxdxxxxxxxx.out.2.2.1
  have cD0 := PDxxdxxxxxxxx.out.1
  have cD1 := PDxxdxxxxxxxx.out.2.1
  have cD2 := PDxxdxxxxxxxx.out.2.2.1
  go_wp2_with fail
  clear cBM0 cBM1 cBM2 cD0 cD1 cD2
  refine (held_hv y8 (by omega) (by omega) H12xxx.out).mono ?_
  rintro e wz ⟨rfl, hwz⟩
  obtain rfl : w15 = wz := hwz.symm
  go_wp2_with fail
  go_ret
  exact ⟨rfl, hB15⟩
theorem lBl14_walk {a0 : Option Addr} {c0 : Nat} {S0 K0 : Int} {xs0 : List Int} {w : World} (hm0 : xs0.length ≤ maxLen) (ha0 : ARow w a0 xs0) :
    Calls Try.prog 5 #[.agg #[.slice a0 xs0.length c0, .int .i64 S0, .int .i64 K0]] w fun e w' => e = .returned (.bool true) ∧ Below w.heap.size w w' := by
  by_cases h0 : xs0.length ≤ 1048576
  rotate_left
  · exact lBl14_long0 hm0 (by omega)
  exact lBl14_main (hide rfl) h0 (hide ha0)
end Go.Proofs.Yticekgjgknfloaa
