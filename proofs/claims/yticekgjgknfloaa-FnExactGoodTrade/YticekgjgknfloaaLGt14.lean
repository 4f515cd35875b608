/-
  At any arguments the function answers as the model does: the law's own walk.
-/
import Derived.Test.YticekgjgknfloaaAc14
import Derived.Test.YticekgjgknfloaaMm14
namespace Go.Proofs.Yticekgjgknfloaa
open Go.RowKit

set_option maxHeartbeats 400000 in
theorem lGt14_long0 {a0 : Option Addr} {n0 c0 : Nat} {S0 K0 : Int} {w : World} (hm : n0 ≤ maxLen) (h : 1048576 < n0) :
    Calls Try.prog 3 #[.agg #[.slice a0 n0 c0, .int .i64 S0, .int .i64 K0]] w fun e w' => e = .returned (.bool true) ∧ Below w.heap.size w w' := by
  have HB := hide (below_box w (.cells #[.slice a0 n0 c0, .int .i64 S0, .int .i64 K0] 24))
  go_enter Try.func3, Try.ntmps3
  go_wp2_with fail
  refine (szT_no hm h).mono ?_
  rintro e w1 ⟨rfl, hb1⟩
  have HB1 := hide (HB.out.trans (hb1.mono HB.out.size))
  go_wp2_with fail
  go_ret
  exact ⟨rfl, HB1.out⟩
set_option maxRecDepth 100000 in
set_option maxHeartbeats 8000000 in
theorem lGt14_main {a0 : Option Addr} {n0 c0 : Nat} {S0 K0 : Int} {xs0 : List Int} {w : World} (hx0 : Hid (xs0.length = n0)) (hn0 : n0 ≤ 1048576) (HA0 : Hid (ARow w a0 xs0)) :
    Calls Try.prog 3 #[.agg #[.slice a0 n0 c0, .int .i64 S0, .int .i64 K0]] w fun e w' => e = .returned (.bool true) ∧ Below w.heap.size w w' := by
  have g0 : ¬ (1048576 : Int) - n0 < 0 := by omega
  have HS := hide fun (W : World) (b0 : Nat) (r0 : Hid (ARow W (some ⟨b0, 0, none⟩) xs0)) => sgt_any (w := W) (c := n0) (S := S0) (K := K0) hx0 r0
  have HI := hide fun (W : World) (b0 : Nat) (r0 : Hid (ARow W (some ⟨b0, 0, none⟩) xs0)) => gt_any (w := W) (c := n0) (S := S0) (K := K0) hx0 r0
  generalize Lo.goodB xs0 S0 K0 = G at HS HI
  have hneG : (G != G) = false := by simp
  have hB0 := below_new w (.cells #[.slice a0 n0 c0, .int .i64 S0, .int .i64 K0] 24)
  have pb0 := TBox.new w (.slice a0 n0 c0) (.int .i64 S0) (.int .i64 K0) 24
  obtain ⟨w0, hw0⟩ : ∃ W, W = w.alloc (.cells #[.slice a0 n0 c0, .int .i64 S0, .int .i64 K0] 24) := ⟨_, rfl⟩
  rw [← hw0] at hB0 pb0
  have HW0 := hide hw0.symm
  obtain ⟨BM, hBM⟩ : ∃ b, b = w.heap.size := ⟨_, rfl⟩
  rw [← hBM] at pb0
  have HBM := hide hBM.symm
  have hBM0 := pb0.2.2.2
  have hBMw : BM = w.heap.size := hBM
  have HBMw := hide hBMw
  have PB := hide pb0
  have zB0 := hB0.size
  clear hw0 hBM pb0 hBMw
  go_enter Try.func3, Try.ntmps3
  go_upto_region 1 with fail
  rw [HW0.out, HBM.out]
  clear HW0 HBM
  have cBM0 := PB.out.1
  have cBM1 := PB.out.2.1
  have cBM2 := PB.out.2.2.1
  go_wp2_with fail
  clear cBM0 cBM1 cBM2
  refine (szT_yes hn0).mono ?_
  rintro e w1 ⟨rfl, hb1⟩
  have q1 := hb1.size
  have hB1 := hB0.trans (hb1.mono hB0.size)
  have PBx := hide (PB.out.below hb1)
  clear PB
  clear hb1 hB0
  have zB1 := hB1.size
  have cBM0 := PBx.out.1
  have cBM1 := PBx.out.2.1
  have cBM2 := PBx.out.2.2.1
  go_wp2_with fail
  clear cBM0 cBM1 cBM2
  refine (toT_any hx0 hn0 (hide (HA0.out.below hB1))).mono ?_
  rintro e w2 ⟨B2, rfl, hb2, o2⟩
  have q2 := hb2.size
  have hB2 := hB1.trans (hb2.mono hB1.size)
  have PBxx := hide (PBx.out.below hb2)
  clear PBx
  clear hb2 hB1
  have zB2 := hB2.size
  have O2 := hide o2
  have lx2 := o2.blk
  clear o2
  have cBM0 := PBxx.out.1
  have cBM1 := PBxx.out.2.1
  have cBM2 := PBxx.out.2.2.1
  go_wp2_with fail
  clear cBM0 cBM1 cBM2
  refine (HS.out _ _ (hide (av_at hx0.out O2.out))).mono ?_
  rintro e w3 ⟨rfl, hb3⟩
  have q3 := hb3.size
  have hB3 := hB2.trans (hb3.mono hB2.size)
  have PBxxx := hide (PBxx.out.below hb3)
  clear PBxx
  have O2x := hide (O2.out.below hb3)
  clear O2
  clear hb3 hB2
  have zB3 := hB3.size
  clear O2x
  have cBM0 := PBxxx.out.1
  have cBM1 := PBxxx.out.2.1
  have cBM2 := PBxxx.out.2.2.1
  go_wp2_with fail
  clear cBM0 cBM1 cBM2
  refine (toT_any hx0 hn0 (hide (HA0.out.below hB3))).mono ?_
  rintro e w4 ⟨B4, rfl, hb4, o4⟩
  have q4 := hb4.size
  have hB4 := hB3.trans (hb4.mono hB3.size)
  have PBxxxx := hide (PBxxx.out.below hb4)
  clear PBxxx
  clear hb4 hB3
  have zB4 := hB4.size
  have O4 := hide o4
  have lx4 := o4.blk
  clear o4
  have hb5 := below_new w4 (.cells #[.slice (some ⟨B4, 0, none⟩) n0 n0, .int .i64 S0, .int .i64 K0] 27)
  have pb5 := TBox.new w4 (.slice (some ⟨B4, 0, none⟩) n0 n0) (.int .i64 S0) (.int .i64 K0) 27
  obtain ⟨w5, hw5⟩ : ∃ W, W = w4.alloc (.cells #[.slice (some ⟨B4, 0, none⟩) n0 n0, .int .i64 S0, .int .i64 K0] 27) := ⟨_, rfl⟩
  rw [← hw5] at hb5 pb5
  have HW5 := hide hw5.symm
  obtain ⟨D, hD⟩ : ∃ b, b = w4.heap.size := ⟨_, rfl⟩
  rw [← hD] at pb5
  have HD := hide hD.symm
  have hD0 := pb5.2.2.2
  have hDx : B4 < D := by omega
  have hDb : BM < D := by omega
  have PD := hide pb5
  clear hw5 pb5 hD
  go_upto_region 7 with fail
  rw [HW5.out, HD.out]
  clear HW5 HD
  have q5 := hb5.size
  have hB5 := hB4.trans (hb5.mono hB4.size)
  have PBxxxxx := hide (PBxxxx.out.below hb5)
  clear PBxxxx
  have O4x := hide (O4.out.below hb5)
  clear O4
  clear hb5 hB4
  have zB5 := hB5.size
  have cBM0 := PBxxxxx.out.1
  have cBM1 := PBxxxxx.out.2.1
  have cBM2 := PBxxxxx.out.2.2.1
  have cD0 := PD.out.1
  have cD1 := PD.out.2.1
  have cD2 := PD.out.2.2.1
  go_wp2_with fail
  clear cBM0 cBM1 cBM2 cD0 cD1 cD2
  refine (HI.out _ _ (hide (av_at hx0.out O4x.out))).mono ?_
  rintro e w6 ⟨rfl, hb6⟩
  have q6 := hb6.size
  have hB6 := hB5.trans (hb6.mono hB5.size)
  have PBxxxxxx := hide (PBxxxxx.out.below hb6)
  clear PBxxxxx
  have O4xx := hide (O4x.out.below hb6)
  clear O4x
  have PDx := hide (PD.out.below hb6)
  clear PD
  clear hb6 hB5
  have zB6 := hB6.size
  go_upto_region 10 with fail
  have hbD : Below w6.heap.size w6 w6.drew := (Below.refl _ _).drew
  have qd : w6.drew.heap.size = w6.heap.size := rfl
  have hBD := hB6.trans (hbD.mono hB6.size)
  clear hB6
  have PBxxxxxxd := hide (PBxxxxxx.out.below hbD)
  clear PBxxxxxx
  have O4xxd := hide (O4xx.out.below hbD)
  clear O4xx
  have PDxd := hide (PDx.out.below hbD)
  clear PDx
  clear hbD
  have hSd := (⟨PBxxxxxxd.out.1, PBxxxxxxd.out.2.1, PBxxxxxxd.out.2.2.1, PDxd.out.1, PDxd.out.2.1, PDxd.out.2.2.1⟩ : _ ∧ _ ∧ _ ∧ _ ∧ _ ∧ _)
  go_region_held3 (fun w' => w'.cell? ⟨BM, 0, none⟩ = some (.slice a0 n0 c0) ∧ w'.cell? ⟨BM, 1, none⟩ = some (.int .i64 S0) ∧ w'.cell? ⟨BM, 2, none⟩ = some (.int .i64 K0) ∧ w'.cell? ⟨D, 0, none⟩ = some (.slice (some ⟨B4, 0, none⟩) n0 n0) ∧ w'.cell? ⟨D, 1, none⟩ = some (.int .i64 S0) ∧ w'.cell? ⟨D, 2, none⟩ = some (.int .i64 K0))
    (first | exact hSd | assumption | fail)
    (first
    | (go_at_call 11; refine (toT_any hx0 hn0 (hide (HA0.out.below hBD))).mono ?_; rintro e w7 ⟨B7, rfl, hb7, o7⟩; have q7 := hb7.size; have hB7 := hBD.trans (hb7.mono hBD.size); have PBxxxxxxdx := hide (PBxxxxxxd.out.below hb7); clear PBxxxxxxd; have O4xxdx := hide (O4xxd.out.below hb7); clear O4xxd; have PDxdx := hide (PDxd.out.below hb7); clear PDxd; clear hb7 hBD; have zB7 := hB7.size; have O7 := hide o7; have lx7 := o7.blk; clear o7; have hS7 := (⟨PBxxxxxxdx.out.1, PBxxxxxxdx.out.2.1, PBxxxxxxdx.out.2.2.1, PDxdx.out.1, PDxdx.out.2.1, PDxdx.out.2.2.1⟩ : _ ∧ _ ∧ _ ∧ _ ∧ _ ∧ _))
    | (go_at_call 13; refine (eqT_av hx0 hn0 O4xxdx.out O7.out).mono ?_; rintro e w8 ⟨rfl, hb8⟩; clear O7; have q8 := hb8.size; have hB8 := hB7.trans (hb8.mono hB7.size); have PBxxxxxxdxx := hide (PBxxxxxxdx.out.below hb8); clear PBxxxxxxdx; have O4xxdxx := hide (O4xxdx.out.below hb8); clear O4xxdx; have PDxdxx := hide (PDxdx.out.below hb8); clear PDxdx; clear hb8 hB7; have zB8 := hB8.size; have hS8 := (⟨PBxxxxxxdxx.out.1, PBxxxxxxdxx.out.2.1, PBxxxxxxdxx.out.2.2.1, PDxdxx.out.1, PDxdxx.out.2.1, PDxdxx.out.2.2.1⟩ : _ ∧ _ ∧ _ ∧ _ ∧ _ ∧ _))
    | fail)
  go_wp2_with fail
  go_ret
  exact ⟨rfl, hB8⟩
theorem lGt14_walk {a0 : Option Addr} {c0 : Nat} {S0 K0 : Int} {xs0 : List Int} {w : World} (hm0 : xs0.length ≤ maxLen) (ha0 : ARow w a0 xs0) :
    Calls Try.prog 3 #[.agg #[.slice a0 xs0.length c0, .int .i64 S0, .int .i64 K0]] w fun e w' => e = .returned (.bool true) ∧ Below w.heap.size w w' := by
  by_cases h0 : xs0.length ≤ 1048576
  rotate_left
  · exact lGt14_long0 hm0 (by omega)
  exact lGt14_main (hide rfl) h0 (hide ha0)
end Go.Proofs.Yticekgjgknfloaa
