/-
  At any arguments the function answers as the model does: the law's own walk.
-/
import Derived.Test.YticekgjgknfloaaAj14
namespace Go.Proofs.Yticekgjgknfloaa
open Go.RowKit

set_option maxHeartbeats 400000 in
theorem lLf14_long1 {a0 : Option Addr} {n0 c0 : Nat} {S0 K0 : Int} {a1 : Option Addr} {n1 c1 : Nat} {w : World} (h : 1048576 < n1) :
    Calls Try.prog 7 #[.agg #[.slice a0 n0 c0, .int .i64 S0, .int .i64 K0], .slice a1 n1 c1] w fun e w' => e = .returned (.bool true) ∧ Below w.heap.size w w' := by
  have g1 : (1048576 : Int) < n1 := by omega
  have HB := hide (below_box w (.cells #[.slice a0 n0 c0, .int .i64 S0, .int .i64 K0] 24))
  go_enter Try.func7, Try.ntmps7
  go_wp2_with fail
  go_ret
  exact ⟨rfl, HB.out⟩
set_option maxHeartbeats 400000 in
theorem lLf14_long0 {a0 : Option Addr} {n0 c0 : Nat} {S0 K0 : Int} {a1 : Option Addr} {n1 c1 : Nat} {w : World} (hm : n0 ≤ maxLen) (h1 : n1 ≤ 1048576) (h : 1048576 < n0) :
    Calls Try.prog 7 #[.agg #[.slice a0 n0 c0, .int .i64 S0, .int .i64 K0], .slice a1 n1 c1] w fun e w' => e = .returned (.bool true) ∧ Below w.heap.size w w' := by
  have g1 : ¬ (1048576 : Int) < n1 := by omega
  have HB := hide (below_box w (.cells #[.slice a0 n0 c0, .int .i64 S0, .int .i64 K0] 24))
  go_enter Try.func7, Try.ntmps7
  go_wp2_with fail
  refine (szT_no hm h).mono ?_
  rintro e w1 ⟨rfl, hb1⟩
  have HB1 := hide (HB.out.trans (hb1.mono HB.out.size))
  go_wp2_with fail
  go_ret
  exact ⟨rfl, HB1.out⟩
set_option maxRecDepth 100000 in
set_option maxHeartbeats 8000000 in
theorem lLf14_main {a0 : Option Addr} {n0 c0 : Nat} {S0 K0 : Int} {a1 : Option Addr} {n1 c1 : Nat} {xs0 xs1 : List Int} {w : World} (hx0 : Hid (xs0.length = n0)) (hn0 : n0 ≤ 1048576) (hx1 : Hid (xs1.length = n1)) (hn1 : n1 ≤ 1048576) (HA0 : Hid (ARow w a0 xs0)) (HA1 : Hid (ARow w a1 xs1)) :
    Calls Try.prog 7 #[.agg #[.slice a0 n0 c0, .int .i64 S0, .int .i64 K0], .slice a1 n1 c1] w fun e w' => e = .returned (.bool true) ∧ Below w.heap.size w w' := by
  have g1 : ¬ (1048576 : Int) < n1 := by omega
  have g0 : ¬ (1048576 : Int) - n0 < 0 := by omega
  have HS := hide fun (W : World) (b0 b1 : Nat) (r0 : Hid (ARow W (some ⟨b0, 0, none⟩) xs0)) (r1 : Hid (ARow W (some ⟨b1, 0, none⟩) xs1)) => slf_v (w := W) (c := n0) (c' := n1) (S := S0) (K := K0) hx0 hx1 hn1 r0 r1
  have HI := hide fun (W : World) (b0 b1 : Nat) (r0 : Hid (ARow W (some ⟨b0, 0, none⟩) xs0)) (r1 : Hid (ARow W (some ⟨b1, 0, none⟩) xs1)) => lf_v (w := W) (c := n0) (c' := n1) (S := S0) (K := K0) hx0 hx1 hn1 r0 r1
  have y8 : (Lo.lfL xs0 S0 K0 xs1).length ≤ 1048576 := Nat.le_trans Lo.lfL_le (by omega)
  generalize Lo.lfL xs0 S0 K0 xs1 = Y at HS HI y8
  generalize hy : Y.length = N at HS HI y8
  have HY := hide hy
  clear hy
  have hnn : ¬ (1 : Int) + (N : Int) < 0 := by omega
  have hnm : ((1 : Int) + (N : Int) != (1 : Int) + (N : Int)) = false := by simp
  generalize Lo.lfB xs0 S0 K0 xs1 = G at HS HI
  have hneG : (G != G) = false := by simp
  have hB0 := below_new w (.cells #[.slice a0 n0 c0, .int .i64 S0, .int .i64 K0] 24)
  have pb0 := TBox.new w (.slice a0 n0 c0) (.int .i64 S0) (.int .i64 K0) 24
  obtain ⟨w0, hw0⟩ : ∃ W, W = w.alloc (.cells #[.slice a0 n0 c0, .int .i64 S0, .int .i64 K0] 24) := ⟨_, rfl⟩
  rw [← hw0] at hB0 pb0
  have HW0 := hide hw0.symm
  obtain ⟨BM, hBM⟩ : ∃ b, b = w.heap.size := ⟨_, rfl⟩
  rw [← hBM] at pb0
  have HBM := hide hBM.symm
  have hBM0 := pb0.2.2.2
  have hBMw : BM = w.heap.size := hBM
  have HBMw := hide hBMw
  have PB := hide pb0
  have zB0 := hB0.size
  clear hw0 hBM pb0 hBMw
  go_enter Try.func7, Try.ntmps7
  go_upto_region 1 with fail
  rw [HW0.out, HBM.out]
  clear HW0 HBM
  have cBM0 := PB.out.1
  have cBM1 := PB.out.2.1
  have cBM2 := PB.out.2.2.1
  go_wp2_with fail
  clear cBM0 cBM1 cBM2
  refine (szT_yes hn0).mono ?_
  rintro e w1 ⟨rfl, hb1⟩
  have q1 := hb1.size
  have hB1 := hB0.trans (hb1.mono hB0.size)
  have PBx := hide (PB.out.below hb1)
  clear PB
  clear hb1 hB0
  have zB1 := hB1.size
  have cBM0 := PBx.out.1
  have cBM1 := PBx.out.2.1
  have cBM2 := PBx.out.2.2.1
  go_wp2_with fail
  clear cBM0 cBM1 cBM2
  refine (toT_any hx0 hn0 (hide (HA0.out.below hB1))).mono ?_
  rintro e w2 ⟨B2, rfl, hb2, o2⟩
  have q2 := hb2.size
  have hB2 := hB1.trans (hb2.mono hB1.size)
  have PBxx := hide (PBx.out.below hb2)
  clear PBx
  clear hb2 hB1
  have zB2 := hB2.size
  have O2 := hide o2
  have lx2 := o2.blk
  clear o2
  have cBM0 := PBxx.out.1
  have cBM1 := PBxx.out.2.1
  have cBM2 := PBxx.out.2.2.1
  go_wp2_with fail
  clear cBM0 cBM1 cBM2
  refine (to_av (c := c1) hx1.out hn1 (HA1.out.below hB2)).mono ?_
  rintro e w3 ⟨B3, rfl, hb3, o3⟩
  have q3 := hb3.size
  have hB3 := hB2.trans (hb3.mono hB2.size)
  have PBxxx := hide (PBxx.out.below hb3)
  clear PBxx
  have O2x := hide (O2.out.below hb3)
  clear O2
  clear hb3 hB2
  have zB3 := hB3.size
  have O3 := hide o3
  have lx3 := o3.blk
  clear o3
  have cBM0 := PBxxx.out.1
  have cBM1 := PBxxx.out.2.1
  have cBM2 := PBxxx.out.2.2.1
  go_wp2_with fail
  clear cBM0 cBM1 cBM2
  refine (HS.out _ _ _ (hide (av_at hx0.out O2x.out)) (hide (av_at hx1.out O3.out))).mono ?_
  rintro e w4 ⟨v4, rfl, hb4, o4⟩
  have q4 := hb4.size
  have hB4 := hB3.trans (hb4.mono hB3.size)
  have PBxxxx := hide (PBxxx.out.below hb4)
  clear PBxxx
  have O2xx := hide (O2x.out.below hb4)
  clear O2x
  have O3x := hide (O3.out.below hb4)
  clear O3
  clear hb4 hB3
  have zB4 := hB4.size
  have O4 := hide o4
  clear o4
  clear O2xx
  clear O3x
  have cBM0 := PBxxxx.out.1
  have cBM1 := PBxxxx.out.2.1
  have cBM2 := PBxxxx.out.2.2.1
  go_wp2_with fail
  clear cBM0 cBM1 cBM2
  refine (toT_any hx0 hn0 (hide (HA0.out.below hB4))).mono ?_
  rintro e w5 ⟨B5, rfl, hb5, o5⟩
  have q5 := hb5.size
  have hB5 := hB4.trans (hb5.mono hB4.size)
  have PBxxxxx := hide (PBxxxx.out.below hb5)
  clear PBxxxx
  have O4x := hide (O4.out.below hb5)
  clear O4
  clear hb5 hB4
  have zB5 := hB5.size
  have O5 := hide o5
  have lx5 := o5.blk
  clear o5
  have hb6 := below_new w5 (.cells #[.slice (some ⟨B5, 0, none⟩) n0 n0, .int .i64 S0, .int .i64 K0] 27)
  have pb6 := TBox.new w5 (.slice (some ⟨B5, 0, none⟩) n0 n0) (.int .i64 S0) (.int .i64 K0) 27
  obtain ⟨w6, hw6⟩ : ∃ W, W = w5.alloc (.cells #[.slice (some ⟨B5, 0, none⟩) n0 n0, .int .i64 S0, .int .i64 K0] 27) := ⟨_, rfl⟩
  rw [← hw6] at hb6 pb6
  have HW6 := hide hw6.symm
  obtain ⟨D, hD⟩ : ∃ b, b = w5.heap.size := ⟨_, rfl⟩
  rw [← hD] at pb6
  have HD := hide hD.symm
  have hD0 := pb6.2.2.2
  have hD9 : w5.heap.size ≤ D := by omega
  have hDx : B5 < D := by omega
  have hDb : BM < D := by omega
  have PD := hide pb6
  clear hw6 pb6 hD
  go_upto_region 9 with fail
  rw [HW6.out, HD.out]
  clear HW6 HD
  have q6 := hb6.size
  have hB6 := hB5.trans (hb6.mono hB5.size)
  have PBxxxxxx := hide (PBxxxxx.out.below hb6)
  clear PBxxxxx
  have O4xx := hide (O4x.out.below hb6)
  clear O4x
  have O5x := hide (O5.out.below hb6)
  clear O5
  clear hb6 hB5
  have zB6 := hB6.size
  have cBM0 := PBxxxxxx.out.1
  have cBM1 := PBxxxxxx.out.2.1
  have cBM2 := PBxxxxxx.out.2.2.1
  have cD0 := PD.out.1
  have cD1 := PD.out.2.1
  have cD2 := PD.out.2.2.1
  go_wp2_with fail
  clear cBM0 cBM1 cBM2 cD0 cD1 cD2
  refine (to_av (c := c1) hx1.out hn1 (HA1.out.below hB6)).mono ?_
  rintro e w7 ⟨B7, rfl, hb7, o7⟩
  have q7 := hb7.size
  have hB7 := hB6.trans (hb7.mono hB6.size)
  have PBxxxxxxx := hide (PBxxxxxx.out.below hb7)
  clear PBxxxxxx
  have O4xxx := hide (O4xx.out.below hb7)
  clear O4xx
  have O5xx := hide (O5x.out.below hb7)
  clear O5x
  have PDx := hide (PD.out.below hb7)
  clear PD
  clear hb7 hB6
  have zB7 := hB7.size
  have O7 := hide o7
  have lx7 := o7.blk
  clear o7
  have cBM0 := PBxxxxxxx.out.1
  have cBM1 := PBxxxxxxx.out.2.1
  have cBM2 := PBxxxxxxx.out.2.2.1
  have cD0 := PDx.out.1
  have cD1 := PDx.out.2.1
  have cD2 := PDx.out.2.2.1
  go_wp2_with fail
  clear cBM0 cBM1 cBM2 cD0 cD1 cD2
  refine (HI.out _ _ _ (hide (av_at hx0.out O5xx.out)) (hide (av_at hx1.out O7.out))).mono ?_
  rintro e w8 ⟨v8, rfl, hb8, o8⟩
  have q8 := hb8.size
  have hB8 := hB7.trans (hb8.mono hB7.size)
  have PBxxxxxxxx := hide (PBxxxxxxx.out.below hb8)
  clear PBxxxxxxx
  have O4xxxx := hide (O4xxx.out.below hb8)
  clear O4xxx
  have O5xxx := hide (O5xx.out.below hb8)
  clear O5xx
  have PDxx := hide (PDx.out.below hb8)
  clear PDx
  have O7x := hide (O7.out.below hb8)
  clear O7
  clear hb8 hB7
  have zB8 := hB8.size
  have O8 := hide o8
  clear o8
  have cBM0 := PBxxxxxxxx.out.1
  have cBM1 := PBxxxxxxxx.out.2.1
  have cBM2 := PBxxxxxxxx.out.2.2.1
  have cD0 := PDxx.out.1
  have cD1 := PDxx.out.2.1
  have cD2 := PDxx.out.2.2.1
  go_wp2_with fail
  clear cBM0 cBM1 cBM2 cD0 cD1 cD2
  refine (eq_av HY y8 O8.out O4xxxx.out).mono ?_
  rintro e w9 ⟨rfl, hb9⟩
  have q9 := hb9.size
  have hB9 := hB8.trans (hb9.mono hB8.size)
  have PBxxxxxxxxx := hide (PBxxxxxxxx.out.below hb9)
  clear PBxxxxxxxx
  have O4xxxxx := hide (O4xxxx.out.below hb9)
  clear O4xxxx
  have O5xxxx := hide (O5xxx.out.below hb9)
  clear O5xxx
  have PDxxx := hide (PDxx.out.below hb9)
  clear PDxx
  have O7xx := hide (O7x.out.below hb9)
  clear O7x
  have O8x := hide (O8.out.below hb9)
  clear O8
  clear hb9 hB8
  have zB9 := hB9.size
  go_upto_region 13 with fail
  have hbD : Below w9.heap.size w9 w9.drew := (Below.refl _ _).drew
  have qd : w9.drew.heap.size = w9.heap.size := rfl
  have hBD := hB9.trans (hbD.mono hB9.size)
  clear hB9
  have PBxxxxxxxxxd := hide (PBxxxxxxxxx.out.below hbD)
  clear PBxxxxxxxxx
  have O4xxxxxd := hide (O4xxxxx.out.below hbD)
  clear O4xxxxx
  have O5xxxxd := hide (O5xxxx.out.below hbD)
  clear O5xxxx
  have PDxxxd := hide (PDxxx.out.below hbD)
  clear PDxxx
  have O7xxd := hide (O7xx.out.below hbD)
  clear O7xx
  have O8xd := hide (O8x.out.below hbD)
  clear O8x
  clear hbD
  have hSd := (⟨PBxxxxxxxxxd.out.1, PBxxxxxxxxxd.out.2.1, PBxxxxxxxxxd.out.2.2.1, PDxxxd.out.1, PDxxxd.out.2.1, PDxxxd.out.2.2.1⟩ : _ ∧ _ ∧ _ ∧ _ ∧ _ ∧ _)
  go_region_held3 (fun w' => w'.cell? ⟨BM, 0, none⟩ = some (.slice a0 n0 c0) ∧ w'.cell? ⟨BM, 1, none⟩ = some (.int .i64 S0) ∧ w'.cell? ⟨BM, 2, none⟩ = some (.int .i64 K0) ∧ w'.cell? ⟨D, 0, none⟩ = some (.slice (some ⟨B5, 0, none⟩) n0 n0) ∧ w'.cell? ⟨D, 1, none⟩ = some (.int .i64 S0) ∧ w'.cell? ⟨D, 2, none⟩ = some (.int .i64 K0))
    (first | exact hSd | assumption | fail)
    (first
    | (go_at_call 11; refine (toT_any hx0 hn0 (hide (HA0.out.below hBD))).mono ?_; rintro e w10 ⟨B10, rfl, hb10, o10⟩; have q10 := hb10.size; have hB10 := hBD.trans (hb10.mono hBD.size); have PBxxxxxxxxxdx := hide (PBxxxxxxxxxd.out.below hb10); clear PBxxxxxxxxxd; have O4xxxxxdx := hide (O4xxxxxd.out.below hb10); clear O4xxxxxd; have O5xxxxdx := hide (O5xxxxd.out.below hb10); clear O5xxxxd; have PDxxxdx := hide (PDxxxd.out.below hb10); clear PDxxxd; have O7xxdx := hide (O7xxd.out.below hb10); clear O7xxd; have O8xdx := hide (O8xd.out.below hb10); clear O8xd; clear hb10 hBD; have zB10 := hB10.size; have O10 := hide o10; have lx10 := o10.blk; clear o10; have hS10 := (⟨PBxxxxxxxxxdx.out.1, PBxxxxxxxxxdx.out.2.1, PBxxxxxxxxxdx.out.2.2.1, PDxxxdx.out.1, PDxxxdx.out.2.1, PDxxxdx.out.2.2.1⟩ : _ ∧ _ ∧ _ ∧ _ ∧ _ ∧ _))
    | (go_at_call 13; refine (eqT_av hx0 hn0 O5xxxxdx.out O10.out).mono ?_; rintro e w11 ⟨rfl, hb11⟩; clear O10; have q11 := hb11.size; have hB11 := hB10.trans (hb11.mono hB10.size); have PBxxxxxxxxxdxx := hide (PBxxxxxxxxxdx.out.below hb11); clear PBxxxxxxxxxdx; have O4xxxxxdxx := hide (O4xxxxxdx.out.below hb11); clear O4xxxxxdx; have O5xxxxdxx := hide (O5xxxxdx.out.below hb11); clear O5xxxxdx; have PDxxxdxx := hide (PDxxxdx.out.below hb11); clear PDxxxdx; have O7xxdxx := hide (O7xxdx.out.below hb11); clear O7xxdx; have O8xdxx := hide (O8xdx.out.below hb11); clear O8xdx; clear hb11 hB10; have zB11 := hB11.size; have hS11 := (⟨PBxxxxxxxxxdxx.out.1, PBxxxxxxxxxdxx.out.2.1, PBxxxxxxxxxdxx.out.2.2.1, PDxxxdxx.out.1, PDxxxdxx.out.2.1, PDxxxdxx.out.2.2.1⟩ : _ ∧ _ ∧ _ ∧ _ ∧ _ ∧ _))
    | fail)
  have cBM0 := PBxxxxxxxxxdxx.out.1
  have cBM1 := PBxxxxxxxxxdxx.out.2.1
  have cBM2 := PBxxxxxxxxxdxx.out.2.2.1
  have cD0 := PDxxxdxx.out.1
  have cD1 := PDxxxdxx.out.2.1
  have cD2 := PDxxxdxx.out.2.2.1
  go_wp2_with fail
  clear cBM0 cBM1 cBM2 cD0 cD1 cD2
  refine (to_av (c := c1) hx1.out hn1 (HA1.out.below hB11)).mono ?_
  rintro e w12 ⟨B12, rfl, hb12, o12⟩
  have q12 := hb12.size
  have hB12 := hB11.trans (hb12.mono hB11.size)
  have PBxxxxxxxxxdxxx := hide (PBxxxxxxxxxdxx.out.below hb12)
  clear PBxxxxxxxxxdxx
  have O4xxxxxdxxx := hide (O4xxxxxdxx.out.below hb12)
  clear O4xxxxxdxx
  have O5xxxxdxxx := hide (O5xxxxdxx.out.below hb12)
  clear O5xxxxdxx
  have PDxxxdxxx := hide (PDxxxdxx.out.below hb12)
  clear PDxxxdxx
  have O7xxdxxx := hide (O7xxdxx.out.below hb12)
  clear O7xxdxx
  have O8xdxxx := hide (O8xdxx.out.below hb12)
  clear O8xdxx
  clear hb12 hB11
  have zB12 := hB12.size
  have O12 := hide o12
  have lx12 := o12.blk
  clear o12
  have cBM0 := PBxxxxxxxxxdxxx.out.1
  have cBM1 := PBxxxxxxxxxdxxx.out.2.1
  have cBM2 := PBxxxxxxxxxdxxx.out.2.2.1
  have cD0 := PDxxxdxxx.out.1
  have cD1 := PDxxxdxxx.out.2.1
  have cD2 := PDxxxdxxx.out.2.2.1
  go_wp2_with fail
  clear cBM0 cBM1 cBM2 cD0 cD1 cD2
  refine (eq_av hx1 hn1 O7xxdxxx.out O12.out).mono ?_
  rintro e w13 ⟨rfl, hb13⟩
  clear O12
  have q13 := hb13.size
  have hB13 := hB12.trans (hb13.mono hB12.size)
  have PBxxxxxxxxxdxxxx := hide (PBxxxxxxxxxdxxx.out.below hb13)
  clear PBxxxxxxxxxdxxx
  have O4xxxxxdxxxx := hide (O4xxxxxdxxx.out.below hb13)
  clear O4xxxxxdxxx
  have O5xxxxdxxxx := hide (O5xxxxdxxx.out.below hb13)
  clear O5xxxxdxxx
  have PDxxxdxxxx := hide (PDxxxdxxx.out.below hb13)
  clear PDxxxdxxx
  have O7xxdxxxx := hide (O7xxdxxx.out.below hb13)
  clear O7xxdxxx
  have O8xdxxxx := hide (O8xdxxx.out.below hb13)
  clear O8xdxxx
  clear hb13 hB12
  have zB13 := hB13.size
  have cBM0 := PBxxxxxxxxxdxxxx.out.1
  have cBM1 := PBxxxxxxxxxdxxxx.out.2.1
  have cBM2 := PBxxxxxxxxxdxxxx.out.2.2.1
  have cD0 := PDxxxdxxxx.out.1
  have cD1 := PDxxxdxxxx.out.2.1
  have cD2 := PDxxxdxxxx.out.2.2.1
  go_wp2_with fail
  clear cBM0 cBM1 cBM2 cD0 cD1 cD2
  refine (markT_av hx0 hn0 (by omega) (by omega) O5xxxxdxxxx.out).mono ?_
  rintro e w14 ⟨rfl, hg14⟩
  have SRC := O5xxxxdxxxx
  have q14 := hg14.size
  have hB14 := hB13.trans (grown_under10 hg14 (fun b e => by have := SRC.out.at_ b e; have := HBMw.out; omega) (by have := HBMw.out; omega))
  have PBxxxxxxxxxdxxxxx := hide (PBxxxxxxxxxdxxxx.out.grown hg14 (fun e => by have := SRC.out.at_ _ e; omega))
  clear PBxxxxxxxxxdxxxx
  have O4xxxxxdxxxxx := hide (O4xxxxxdxxxx.out.grownQ hg14 (fun b e => by have := SRC.out.at_ b e; omega))
  clear O4xxxxxdxxxx
  have PDxxxdxxxxx := hide (PDxxxdxxxx.out.grown hg14 (fun e => by have := SRC.out.at_ _ e; omega))
  clear PDxxxdxxxx
  have O7xxdxxxxx := hide (O7xxdxxxx.out.grownQ hg14 (fun b e => by have := SRC.out.at_ b e; omega))
  clear O7xxdxxxx
  have O8xdxxxxx := hide (O8xdxxxx.out.grownQ hg14 (fun b e => by have := SRC.out.at_ b e; omega))
  clear O8xdxxxx
  clear hg14 hB13
  have zB14 := hB14.size
  clear SRC O5xxxxdxxxx
  have cBM0 := PBxxxxxxxxxdxxxxx.out.1
  have cBM1 := PBxxxxxxxxxdxxxxx.out.2.1
  have cBM2 := PBxxxxxxxxxdxxxxx.out.2.2.1
  have cD0 := PDxxxdxxxxx.out.1
  have cD1 := PDxxxdxxxxx.out.2.1
  have cD2 := PDxxxdxxxxx.out.2.2.1
  go_wp2_with fail
  clear cBM0 cBM1 cBM2 cD0 cD1 cD2
  refine (mark_av hx1 hn1 (by omega) (by omega) O7xxdxxxxx.out).mono ?_
  rintro e w15 ⟨rfl, _, hg15⟩
  have SRC := O7xxdxxxxx
  have q15 := hg15.size
  have hB15 := hB14.trans (grown_under10 hg15 (fun b e => by have := SRC.out.at_ b e; have := HBMw.out; omega) (by have := HBMw.out; omega))
  have PBxxxxxxxxxdxxxxxx := hide (PBxxxxxxxxxdxxxxx.out.grown hg15 (fun e => by have := SRC.out.at_ _ e; omega))
  clear PBxxxxxxxxxdxxxxx
  have O4xxxxxdxxxxxx := hide (O4xxxxxdxxxxx.out.grownQ hg15 (fun b e => by have := SRC.out.at_ b e; omega))
  clear O4xxxxxdxxxxx
  have PDxxxdxxxxxx := hide (PDxxxdxxxxx.out.grown hg15 (fun e => by have := SRC.out.at_ _ e; omega))
  clear PDxxxdxxxxx
  have O8xdxxxxxx := hide (O8xdxxxxx.out.grownQ hg15 (fun b e => by have := SRC.out.at_ b e; omega))
  clear O8xdxxxxx
  clear hg15 hB14
  have zB15 := hB15.size
  clear SRC O7xxdxxxxx
  have hk0 : ¬ (1 : Int) + (n0 : Int) + (n1 : Int) < 0 := by omega
  have cBM0 := PBxxxxxxxxxdxxxxxx.out.1
  have cBM1 := PBxxxxxxxxxdxxxxxx.out.2.1
  have cBM2 := PBxxxxxxxxxdxxxxxx.out.2.2.1
  have cD0 := PDxxxdxxxxxx.out.1
  have cD1 := PDxxxdxxxxxx.out.2.1
  have cD2 := PDxxxdxxxxxx.out.2.2.1
  go_wp2_with fail
  clear cBM0 cBM1 cBM2 cD0 cD1 cD2
  refine (eq_av HY y8 O8xdxxxxxx.out O4xxxxxdxxxxxx.out).mono ?_
  rintro e w16 ⟨rfl, hb16⟩
  have q16 := hb16.size
  have hB16 := hB15.trans (hb16.mono hB15.size)
  have PBxxxxxxxxxdxxxxxxx := hide (PBxxxxxxxxxdxxxxxx.out.below hb16)
  clear PBxxxxxxxxxdxxxxxx
  have O4xxxxxdxxxxxxx := hide (O4xxxxxdxxxxxx.out.below hb16)
  clear O4xxxxxdxxxxxx
  have PDxxxdxxxxxxx := hide (PDxxxdxxxxxx.out.below hb16)
  clear PDxxxdxxxxxx
  have O8xdxxxxxxx := hide (O8xdxxxxxx.out.below hb16)
  clear O8xdxxxxxx
  clear hb16 hB15
  have zB16 := hB16.size
  have cBM0 := PBxxxxxxxxxdxxxxxxx.out.1
  have cBM1 := PBxxxxxxxxxdxxxxxxx.out.2.1
  have cBM2 := PBxxxxxxxxxdxxxxxxx.out.2.2.1
  have cD0 := PDxxxdxxxxxxx.out.1
  have cD1 := PDxxxdxxxxxxx.out.2.1
  have cD2 := PDxxxdxxxxxxx.out.2.2.1
  go_wp2_with fail
  clear cBM0 cBM1 cBM2 cD0 cD1 cD2
  refine (mark_av HY y8 (by omega) (by omega) O8xdxxxxxxx.out).mono ?_
  rintro e w17 ⟨rfl, hh17, hg17⟩
  have SRC := O8xdxxxxxxx
  have q17 := hg17.size
  have hB17 := hB16.trans (grown_under10 hg17 (fun b e => by have := SRC.out.at_ b e; have := HBMw.out; omega) (by have := HBMw.out; omega))
  have PBxxxxxxxxxdxxxxxxxx := hide (PBxxxxxxxxxdxxxxxxx.out.grown hg17 (fun e => by have := SRC.out.at_ _ e; omega))
  clear PBxxxxxxxxxdxxxxxxx
  have O4xxxxxdxxxxxxxx := hide (O4xxxxxdxxxxxxx.out.grownQ hg17 (fun b e => by have := SRC.out.at_ b e; omega))
  clear O4xxxxxdxxxxxxx
  have PDxxxdxxxxxxxx := hide (PDxxxdxxxxxxx.out.grown hg17 (fun e => by have := SRC.out.at_ _ e; omega))
  clear PDxxxdxxxxxxx
  clear hg17 hB16
  have zB17 := hB17.size
  clear SRC O8xdxxxxxxx
  have H17 := hide hh17
  clear hh17
  have cBM0 := PBxxxxxxxxxdxxxxxxxx.out.1
  have cBM1 := PBxxxxxxxxxdxxxxxxxx.out.2.1
  have cBM2 := PBxxxxxxxxxdxxxxxxxx.out.2.2.1
  have cD0 := PDxxxdxxxxxxxx.out.1
  have cD1 := PDxxxdxxxxxxxx.out.2.1
  have cD2 := PDxxxdxxxxxxxx.out.2.2.1
  go_wp2_with fail
  clear cBM0 cBM1 cBM2 cD0 cD1 cD2
  refine (held_hv y8 (by omega) (by omega) H17.out).mono ?_
  rintro e wz ⟨rfl, hwz⟩
  obtain rfl : w17 = wz := hwz.symm
  have cBM0 := PBxxxxxxxxxdxxxxxxxx.out.1
  have cBM1 := PBxxxxxxxxxdxxxxxxxx.out.2.1
  have cBM2 := PBxxxxxxxxxdxxxxxxxx.out.2.2.1
  have cD0 := PDxxxdxxxxxxxx.out.1
  have cD1 := PDxxxdxxxxxxxx.out.2.1
  have cD2 := PDxxxdxxxxxxxx.out.2.2.1
  go_wp2_with fail
  clear cBM0 cBM1 cBM2 cD0 cD1 cD2
  refine (toT_any hx0 hn0 (hide (HA0.out.below hB17))).mono ?_
  rintro e w18 ⟨B18, rfl, hb18, o18⟩
  have q18 := hb18.size
  have hB18 := hB17.trans (hb18.mono hB17.size)
  have PBxxxxxxxxxdxxxxxxxxx := hide (PBxxxxxxxxxdxxxxxxxx.out.below hb18)
  clear PBxxxxxxxxxdxxxxxxxx
  have O4xxxxxdxxxxxxxxx := hide (O4xxxxxdxxxxxxxx.out.below hb18)
  clear O4xxxxxdxxxxxxxx
  have PDxxxdxxxxxxxxx := hide (PDxxxdxxxxxxxx.out.below hb18)
  clear PDxxxdxxxxxxxx
  have H17x := hide (H17.out.below hb18)
  clear H17
  clear hb18 hB17
  have zB18 := hB18.size
  have O18 := hide o18
  have lx18 := o18.blk
  clear o18
  have cBM0 := PBxxxxxxxxxdxxxxxxxxx.out.1
  have cBM1 := PBxxxxxxxxxdxxxxxxxxx.out.2.1
  have cBM2 := PBxxxxxxxxxdxxxxxxxxx.out.2.2.1
  have cD0 := PDxxxdxxxxxxxxx.out.1
  have cD1 := PDxxxdxxxxxxxxx.out.2.1
  have cD2 := PDxxxdxxxxxxxxx.out.2.2.1
  go_wp2_with fail
  clear cBM0 cBM1 cBM2 cD0 cD1 cD2
  refine (to_av (c := c1) hx1.out hn1 (HA1.out.below hB18)).mono ?_
  rintro e w19 ⟨B19, rfl, hb19, o19⟩
  have q19 := hb19.size
  have hB19 := hB18.trans (hb19.mono hB18.size)
  have PBxxxxxxxxxdxxxxxxxxxx := hide (PBxxxxxxxxxdxxxxxxxxx.out.below hb19)
  clear PBxxxxxxxxxdxxxxxxxxx
  have O4xxxxxdxxxxxxxxxx := hide (O4xxxxxdxxxxxxxxx.out.below hb19)
  clear O4xxxxxdxxxxxxxxx
  have PDxxxdxxxxxxxxxx := hide (PDxxxdxxxxxxxxx.out.below hb19)
  clear PDxxxdxxxxxxxxx
  have H17xx := hide (H17x.out.below hb19)
  clear H17x
  have O18x := hide (O18.out.below hb19)
  clear O18
  clear hb19 hB18
  have zB19 := hB19.size
  have O19 := hide o19
  have lx19 := o19.blk
  clear o19
  have cBM0 := PBxxxxxxxxxdxxxxxxxxxx.out.1
  have cBM1 := PBxxxxxxxxxdxxxxxxxxxx.out.2.1
  have cBM2 := PBxxxxxxxxxdxxxxxxxxxx.out.2.2.1
  have cD0 := PDxxxdxxxxxxxxxx.out.1
  have cD1 := PDxxxdxxxxxxxxxx.out.2.1
  have cD2 := PDxxxdxxxxxxxxxx.out.2.2.1
  go_wp2_with fail
  clear cBM0 cBM1 cBM2 cD0 cD1 cD2
  refine (HI.out _ _ _ (hide (av_at hx0.out O18x.out)) (hide (av_at hx1.out O19.out))).mono ?_
  rintro e w20 ⟨v20, rfl, hb20, o20⟩
  have q20 := hb20.size
  have hB20 := hB19.trans (hb20.mono hB19.size)
  have PBxxxxxxxxxdxxxxxxxxxxx := hide (PBxxxxxxxxxdxxxxxxxxxx.out.below hb20)
  clear PBxxxxxxxxxdxxxxxxxxxx
  have O4xxxxxdxxxxxxxxxxx := hide (O4xxxxxdxxxxxxxxxx.out.below hb20)
  clear O4xxxxxdxxxxxxxxxx
  have PDxxxdxxxxxxxxxxx := hide (PDxxxdxxxxxxxxxx.out.below hb20)
  clear PDxxxdxxxxxxxxxx
  have H17xxx := hide (H17xx.out.below hb20)
  clear H17xx
  have O18xx := hide (O18x.out.below hb20)
  clear O18x
  have O19x := hide (O19.out.below hb20)
  clear O19
  clear hb20 hB19
  have zB20 := hB20.size
  have O20 := hide o20
  clear o20
  clear O18xx
  clear O19x
  have cBM0 := PBxxxxxxxxxdxxxxxxxxxxx.out.1
  have cBM1 := PBxxxxxxxxxdxxxxxxxxxxx.out.2.1
  have cBM2 := PBxxxxxxxxxdxxxxxxxxxxx.out.2.2.1
  have cD0 := PDxxxdxxxxxxxxxxx.out.1
  have cD1 := PDxxxdxxxxxxxxxxx.out.2.1
  have cD2 := PDxxxdxxxxxxxxxxx.out.2.2.1
  go_wp2_with fail
  clear cBM0 cBM1 cBM2 cD0 cD1 cD2
  refine (eq_av HY y8 O20.out O4xxxxxdxxxxxxxxxxx.out).mono ?_
  rintro e w21 ⟨rfl, hb21⟩
  have q21 := hb21.size
  have hB21 := hB20.trans (hb21.mono hB20.size)
  have PBxxxxxxxxxdxxxxxxxxxxxx := hide (PBxxxxxxxxxdxxxxxxxxxxx.out.below hb21)
  clear PBxxxxxxxxxdxxxxxxxxxxx
  have O4xxxxxdxxxxxxxxxxxx := hide (O4xxxxxdxxxxxxxxxxx.out.below hb21)
  clear O4xxxxxdxxxxxxxxxxx
  have PDxxxdxxxxxxxxxxxx := hide (PDxxxdxxxxxxxxxxx.out.below hb21)
  clear PDxxxdxxxxxxxxxxx
  have H17xxxx := hide (H17xxx.out.below hb21)
  clear H17xxx
  have O20x := hide (O20.out.below hb21)
  clear O20
  clear hb21 hB20
  have zB21 := hB21.size
  have cBM0 := PBxxxxxxxxxdxxxxxxxxxxxx.out.1
  have cBM1 := PBxxxxxxxxxdxxxxxxxxxxxx.out.2.1
  have cBM2 := PBxxxxxxxxxdxxxxxxxxxxxx.out.2.2.1
  have cD0 := PDxxxdxxxxxxxxxxxx.out.1
  have cD1 := PDxxxdxxxxxxxxxxxx.out.2.1
  have cD2 := PDxxxdxxxxxxxxxxxx.out.2.2.1
  go_wp2_with fail
  clear cBM0 cBM1 cBM2 cD0 cD1 cD2
  refine (held_hv y8 (by omega) (by omega) H17xxxx.out).mono ?_
  rintro e wz ⟨rfl, hwz⟩
  obtain rfl : w21 = wz := hwz.symm
  go_wp2_with fail
  go_ret
  exact ⟨rfl, hB21⟩
theorem lLf14_walk {a0 : Option Addr} {c0 : Nat} {S0 K0 : Int} {xs0 : List Int} {a1 : Option Addr} {c1 : Nat} {xs1 : List Int} {w : World} (hm0 : xs0.length ≤ maxLen) (ha0 : ARow w a0 xs0) (ha1 : ARow w a1 xs1) :
    Calls Try.prog 7 #[.agg #[.slice a0 xs0.length c0, .int .i64 S0, .int .i64 K0], .slice a1 xs1.length c1] w fun e w' => e = .returned (.bool true) ∧ Below w.heap.size w w' := by
  by_cases h1 : xs1.length ≤ 1048576
  rotate_left
  · exact lLf14_long1 (by omega)
  by_cases h0 : xs0.length ≤ 1048576
  rotate_left
  · exact lLf14_long0 hm0 h1 (by omega)
  exact lLf14_main (hide rfl) h0 (hide rfl) h1 (hide ha0) (hide ha1)
end Go.Proofs.Yticekgjgknfloaa
