/-
  At any arguments the function answers as the model does: the law's own walk.
-/
import Derived.Test.YticekgjgknfloaaAg14
namespace Go.Proofs.Yticekgjgknfloaa
open Go.RowKit

set_option maxHeartbeats 400000 in
theorem lIl14_long1 {a0 : Option Addr} {n0 c0 : Nat} {S0 K0 : Int} {a1 : Option Addr} {n1 c1 : Nat} {w : World} (h : 1048576 < n1) :
    Calls Try.prog 6 #[.agg #[.slice a0 n0 c0, .int .i64 S0, .int .i64 K0], .slice a1 n1 c1] w fun e w' => e = .returned (.bool true) ∧ Below w.heap.size w w' := by
  have g1 : (1048576 : Int) < n1 := by omega
  have HB := hide (below_box w (.cells #[.slice a0 n0 c0, .int .i64 S0, .int .i64 K0] 24))
  go_enter Try.func6, Try.ntmps6
  go_wp2_with fail
  go_ret
  exact ⟨rfl, HB.out⟩
set_option maxHeartbeats 400000 in
theorem lIl14_long0 {a0 : Option Addr} {n0 c0 : Nat} {S0 K0 : Int} {a1 : Option Addr} {n1 c1 : Nat} {w : World} (hm : n0 ≤ maxLen) (h1 : n1 ≤ 1048576) (h : 1048576 < n0) :
    Calls Try.prog 6 #[.agg #[.slice a0 n0 c0, .int .i64 S0, .int .i64 K0], .slice a1 n1 c1] w fun e w' => e = .returned (.bool true) ∧ Below w.heap.size w w' := by
  have g1 : ¬ (1048576 : Int) < n1 := by omega
  have HB := hide (below_box w (.cells #[.slice a0 n0 c0, .int .i64 S0, .int .i64 K0] 24))
  go_enter Try.func6, Try.ntmps6
  go_wp2_with fail
  refine (szT_no hm h).mono ?_
  rintro e w1 ⟨rfl, hb1⟩
  have HB1 := hide (HB.out.trans (hb1.mono HB.out.size))
  go_wp2_with fail
  go_ret
  exact ⟨rfl, HB1.out⟩
set_option maxRecDepth 100000 in
set_option maxHeartbeats 8000000 in
theorem lIl14_main {a0 : Option Addr} {n0 c0 : Nat} {S0 K0 : Int} {a1 : Option Addr} {n1 c1 : Nat} {xs0 xs1 : List Int} {w : World} (hx0 : Hid (xs0.length = n0)) (hn0 : n0 ≤ 1048576) (hx1 : Hid (xs1.length = n1)) (hn1 : n1 ≤ 1048576) (HA0 : Hid (ARow w a0 xs0)) (HA1 : Hid (ARow w a1 xs1)) :
    Calls Try.prog 6 #[.agg #[.slice a0 n0 c0, .int .i64 S0, .int .i64 K0], .slice a1 n1 c1] w fun e w' => e = .returned (.bool true) ∧ Below w.heap.size w w' := by
  have g1 : ¬ (1048576 : Int) < n1 := by omega
  have g0 : ¬ (1048576 : Int) - n0 < 0 := by omega
  have HS := hide fun (W : World) (b0 b1 : Nat) (r0 : Hid (ARow W (some ⟨b0, 0, none⟩) xs0)) (r1 : Hid (ARow W (some ⟨b1, 0, none⟩) xs1)) => sil_any (w := W) (c := n0) (c' := n1) (S := S0) (K := K0) hx0 hx1 r0 r1
  have HI := hide fun (W : World) (b0 b1 : Nat) (r0 : Hid (ARow W (some ⟨b0, 0, none⟩) xs0)) (r1 : Hid (ARow W (some ⟨b1, 0, none⟩) xs1)) => il_any (w := W) (c := n0) (c' := n1) (S := S0) (K := K0) (Nat.le_refl _) hx0 hx1 r0 r1
  generalize Lo.ilB xs0 S0 K0 xs1 = V at HS HI
  have hneV : (V != V) = false := by simp
  generalize Lo.okB xs0 S0 K0 xs1 = G at HS HI
  have hneG : (G != G) = false := by simp
  have hB0 := below_new w (.cells #[.slice a0 n0 c0, .int .i64 S0, .int .i64 K0] 24)
  have pb0 := TBox.new w (.slice a0 n0 c0) (.int .i64 S0) (.int .i64 K0) 24
  obtain ⟨w0, hw0⟩ : ∃ W, W = w.alloc (.cells #[.slice a0 n0 c0, .int .i64 S0, .int .i64 K0] 24) := ⟨_, rfl⟩
  rw [← hw0] at hB0 pb0
  have HW0 := hide hw0.symm
  obtain ⟨BM, hBM⟩ : ∃ b, b = w.heap.size := ⟨_, rfl⟩
  rw [← hBM] at pb0
  have HBM := hide hBM.symm
  have hBM0 := pb0.2.2.2
  have hBMw : BM = w.heap.size := hBM
  have HBMw := hide hBMw
  have PB := hide pb0
  have zB0 := hB0.size
  clear hw0 hBM pb0 hBMw
  go_enter Try.func6, Try.ntmps6
  go_upto_region 1 with fail
  rw [HW0.out, HBM.out]
  clear HW0 HBM
  have cBM0 := PB.out.1
  have cBM1 := PB.out.2.1
  have cBM2 := PB.out.2.2.1
  go_wp2_with fail
  clear cBM0 cBM1 cBM2
  refine (szT_yes hn0).mono ?_
  rintro e w1 ⟨rfl, hb1⟩
  have q1 := hb1.size
  have hB1 := hB0.trans (hb1.mono hB0.size)
  have PBx := hide (PB.out.below hb1)
  clear PB
  clear hb1 hB0
  have zB1 := hB1.size
  have cBM0 := PBx.out.1
  have cBM1 := PBx.out.2.1
  have cBM2 := PBx.out.2.2.1
  go_wp2_with fail
  clear cBM0 cBM1 cBM2
  refine (toT_any hx0 hn0 (hide (HA0.out.below hB1))).mono ?_
  rintro e w2 ⟨B2, rfl, hb2, o2⟩
  have q2 := hb2.size
  have hB2 := hB1.trans (hb2.mono hB1.size)
  have PBxx := hide (PBx.out.below hb2)
  clear PBx
  clear hb2 hB1
  have zB2 := hB2.size
  have O2 := hide o2
  have lx2 := o2.blk
  clear o2
  have cBM0 := PBxx.out.1
  have cBM1 := PBxx.out.2.1
  have cBM2 := PBxx.out.2.2.1
  go_wp2_with fail
  clear cBM0 cBM1 cBM2
  refine (to_av (c := c1) hx1.out hn1 (HA1.out.below hB2)).mono ?_
  rintro e w3 ⟨B3, rfl, hb3, o3⟩
  have q3 := hb3.size
  have hB3 := hB2.trans (hb3.mono hB2.size)
  have PBxxx := hide (PBxx.out.below hb3)
  clear PBxx
  have O2x := hide (O2.out.below hb3)
  clear O2
  clear hb3 hB2
  have zB3 := hB3.size
  have O3 := hide o3
  have lx3 := o3.blk
  clear o3
  have cBM0 := PBxxx.out.1
  have cBM1 := PBxxx.out.2.1
  have cBM2 := PBxxx.out.2.2.1
  go_wp2_with fail
  clear cBM0 cBM1 cBM2
  refine (HS.out _ _ _ (hide (av_at hx0.out O2x.out)) (hide (av_at hx1.out O3.out))).mono ?_
  rintro e w4 ⟨rfl, hb4⟩
  have q4 := hb4.size
  have hB4 := hB3.trans (hb4.mono hB3.size)
  have PBxxxx := hide (PBxxx.out.below hb4)
  clear PBxxx
  have O2xx := hide (O2x.out.below hb4)
  clear O2x
  have O3x := hide (O3.out.below hb4)
  clear O3
  clear hb4 hB3
  have zB4 := hB4.size
  clear O2xx
  clear O3x
  have cBM0 := PBxxxx.out.1
  have cBM1 := PBxxxx.out.2.1
  have cBM2 := PBxxxx.out.2.2.1
  go_wp2_with fail
  clear cBM0 cBM1 cBM2
  refine (toT_any hx0 hn0 (hide (HA0.out.below hB4))).mono ?_
  rintro e w5 ⟨B5, rfl, hb5, o5⟩
  have q5 := hb5.size
  have hB5 := hB4.trans (hb5.mono hB4.size)
  have PBxxxxx := hide (PBxxxx.out.below hb5)
  clear PBxxxx
  clear hb5 hB4
  have zB5 := hB5.size
  have O5 := hide o5
  have lx5 := o5.blk
  clear o5
  have hb6 := below_new w5 (.cells #[.slice (some ⟨B5, 0, none⟩) n0 n0, .int .i64 S0, .int .i64 K0] 27)
  have pb6 := TBox.new w5 (.slice (some ⟨B5, 0, none⟩) n0 n0) (.int .i64 S0) (.int .i64 K0) 27
  obtain ⟨w6, hw6⟩ : ∃ W, W = w5.alloc (.cells #[.slice (some ⟨B5, 0, none⟩) n0 n0, .int .i64 S0, .int .i64 K0] 27) := ⟨_, rfl⟩
  rw [← hw6] at hb6 pb6
  have HW6 := hide hw6.symm
  obtain ⟨D, hD⟩ : ∃ b, b = w5.heap.size := ⟨_, rfl⟩
  rw [← hD] at pb6
  have HD := hide hD.symm
  have hD0 := pb6.2.2.2
  have hDx : B5 < D := by omega
  have hDb : BM < D := by omega
  have PD := hide pb6
  clear hw6 pb6 hD
  go_upto_region 9 with fail
  rw [HW6.out, HD.out]
  clear HW6 HD
  have q6 := hb6.size
  have hB6 := hB5.trans (hb6.mono hB5.size)
  have PBxxxxxx := hide (PBxxxxx.out.below hb6)
  clear PBxxxxx
  have O5x := hide (O5.out.below hb6)
  clear O5
  clear hb6 hB5
  have zB6 := hB6.size
  have cBM0 := PBxxxxxx.out.1
  have cBM1 := PBxxxxxx.out.2.1
  have cBM2 := PBxxxxxx.out.2.2.1
  have cD0 := PD.out.1
  have cD1 := PD.out.2.1
  have cD2 := PD.out.2.2.1
  go_wp2_with fail
  clear cBM0 cBM1 cBM2 cD0 cD1 cD2
  refine (to_av (c := c1) hx1.out hn1 (HA1.out.below hB6)).mono ?_
  rintro e w7 ⟨B7, rfl, hb7, o7⟩
  have q7 := hb7.size
  have hB7 := hB6.trans (hb7.mono hB6.size)
  have PBxxxxxxx := hide (PBxxxxxx.out.below hb7)
  clear PBxxxxxx
  have O5xx := hide (O5x.out.below hb7)
  clear O5x
  have PDx := hide (PD.out.below hb7)
  clear PD
  clear hb7 hB6
  have zB7 := hB7.size
  have O7 := hide o7
  have lx7 := o7.blk
  clear o7
  have cBM0 := PBxxxxxxx.out.1
  have cBM1 := PBxxxxxxx.out.2.1
  have cBM2 := PBxxxxxxx.out.2.2.1
  have cD0 := PDx.out.1
  have cD1 := PDx.out.2.1
  have cD2 := PDx.out.2.2.1
  go_wp2_with fail
  clear cBM0 cBM1 cBM2 cD0 cD1 cD2
  refine (HI.out _ _ _ (hide (av_at hx0.out O5xx.out)) (hide (av_at hx1.out O7.out))).mono ?_
  rintro e w8 ⟨rfl, hb8⟩
  have q8 := hb8.size
  have hB8 := hB7.trans (hb8.mono hB7.size)
  have PBxxxxxxxx := hide (PBxxxxxxx.out.below hb8)
  clear PBxxxxxxx
  have O5xxx := hide (O5xx.out.below hb8)
  clear O5xx
  have PDxx := hide (PDx.out.below hb8)
  clear PDx
  have O7x := hide (O7.out.below hb8)
  clear O7
  clear hb8 hB7
  have zB8 := hB8.size
  go_upto_region 13 with fail
  have hbD : Below w8.heap.size w8 w8.drew := (Below.refl _ _).drew
  have qd : w8.drew.heap.size = w8.heap.size := rfl
  have hBD := hB8.trans (hbD.mono hB8.size)
  clear hB8
  have PBxxxxxxxxd := hide (PBxxxxxxxx.out.below hbD)
  clear PBxxxxxxxx
  have O5xxxd := hide (O5xxx.out.below hbD)
  clear O5xxx
  have PDxxd := hide (PDxx.out.below hbD)
  clear PDxx
  have O7xd := hide (O7x.out.below hbD)
  clear O7x
  clear hbD
  have hSd := (⟨PBxxxxxxxxd.out.1, PBxxxxxxxxd.out.2.1, PBxxxxxxxxd.out.2.2.1, PDxxd.out.1, PDxxd.out.2.1, PDxxd.out.2.2.1⟩ : _ ∧ _ ∧ _ ∧ _ ∧ _ ∧ _)
  go_region_held3 (fun w' => w'.cell? ⟨BM, 0, none⟩ = some (.slice a0 n0 c0) ∧ w'.cell? ⟨BM, 1, none⟩ = some (.int .i64 S0) ∧ w'.cell? ⟨BM, 2, none⟩ = some (.int .i64 K0) ∧ w'.cell? ⟨D, 0, none⟩ = some (.slice (some ⟨B5, 0, none⟩) n0 n0) ∧ w'.cell? ⟨D, 1, none⟩ = some (.int .i64 S0) ∧ w'.cell? ⟨D, 2, none⟩ = some (.int .i64 K0))
    (first | exact hSd | assumption | fail)
    (first
    | (go_at_call 11; refine (toT_any hx0 hn0 (hide (HA0.out.below hBD))).mono ?_; rintro e w9 ⟨B9, rfl, hb9, o9⟩; have q9 := hb9.size; have hB9 := hBD.trans (hb9.mono hBD.size); have PBxxxxxxxxdx := hide (PBxxxxxxxxd.out.below hb9); clear PBxxxxxxxxd; have O5xxxdx := hide (O5xxxd.out.below hb9); clear O5xxxd; have PDxxdx := hide (PDxxd.out.below hb9); clear PDxxd; have O7xdx := hide (O7xd.out.below hb9); clear O7xd; clear hb9 hBD; have zB9 := hB9.size; have O9 := hide o9; have lx9 := o9.blk; clear o9; have hS9 := (⟨PBxxxxxxxxdx.out.1, PBxxxxxxxxdx.out.2.1, PBxxxxxxxxdx.out.2.2.1, PDxxdx.out.1, PDxxdx.out.2.1, PDxxdx.out.2.2.1⟩ : _ ∧ _ ∧ _ ∧ _ ∧ _ ∧ _))
    | (go_at_call 13; refine (eqT_av hx0 hn0 O5xxxdx.out O9.out).mono ?_; rintro e w10 ⟨rfl, hb10⟩; clear O9; have q10 := hb10.size; have hB10 := hB9.trans (hb10.mono hB9.size); have PBxxxxxxxxdxx := hide (PBxxxxxxxxdx.out.below hb10); clear PBxxxxxxxxdx; have O5xxxdxx := hide (O5xxxdx.out.below hb10); clear O5xxxdx; have PDxxdxx := hide (PDxxdx.out.below hb10); clear PDxxdx; have O7xdxx := hide (O7xdx.out.below hb10); clear O7xdx; clear hb10 hB9; have zB10 := hB10.size; have hS10 := (⟨PBxxxxxxxxdxx.out.1, PBxxxxxxxxdxx.out.2.1, PBxxxxxxxxdxx.out.2.2.1, PDxxdxx.out.1, PDxxdxx.out.2.1, PDxxdxx.out.2.2.1⟩ : _ ∧ _ ∧ _ ∧ _ ∧ _ ∧ _))
    | fail)
  have cBM0 := PBxxxxxxxxdxx.out.1
  have cBM1 := PBxxxxxxxxdxx.out.2.1
  have cBM2 := PBxxxxxxxxdxx.out.2.2.1
  have cD0 := PDxxdxx.out.1
  have cD1 := PDxxdxx.out.2.1
  have cD2 := PDxxdxx.out.2.2.1
  go_wp2_with fail
  clear cBM0 cBM1 cBM2 cD0 cD1 cD2
  refine (to_av (c := c1) hx1.out hn1 (HA1.out.below hB10)).mono ?_
  rintro e w11 ⟨B11, rfl, hb11, o11⟩
  have q11 := hb11.size
  have hB11 := hB10.trans (hb11.mono hB10.size)
  have PBxxxxxxxxdxxx := hide (PBxxxxxxxxdxx.out.below hb11)
  clear PBxxxxxxxxdxx
  have O5xxxdxxx := hide (O5xxxdxx.out.below hb11)
  clear O5xxxdxx
  have PDxxdxxx := hide (PDxxdxx.out.below hb11)
  clear PDxxdxx
  have O7xdxxx := hide (O7xdxx.out.below hb11)
  clear O7xdxx
  clear hb11 hB10
  have zB11 := hB11.size
  have O11 := hide o11
  have lx11 := o11.blk
  clear o11
  have cBM0 := PBxxxxxxxxdxxx.out.1
  have cBM1 := PBxxxxxxxxdxxx.out.2.1
  have cBM2 := PBxxxxxxxxdxxx.out.2.2.1
  have cD0 := PDxxdxxx.out.1
  have cD1 := PDxxdxxx.out.2.1
  have cD2 := PDxxdxxx.out.2.2.1
  go_wp2_with fail
  clear cBM0 cBM1 cBM2 cD0 cD1 cD2
  refine (eq_av hx1 hn1 O7xdxxx.out O11.out).mono ?_
  rintro e w12 ⟨rfl, hb12⟩
  clear O11
  have q12 := hb12.size
  have hB12 := hB11.trans (hb12.mono hB11.size)
  have PBxxxxxxxxdxxxx := hide (PBxxxxxxxxdxxx.out.below hb12)
  clear PBxxxxxxxxdxxx
  have O5xxxdxxxx := hide (O5xxxdxxx.out.below hb12)
  clear O5xxxdxxx
  have PDxxdxxxx := hide (PDxxdxxx.out.below hb12)
  clear PDxxdxxx
  have O7xdxxxx := hide (O7xdxxx.out.below hb12)
  clear O7xdxxx
  clear hb12 hB11
  have zB12 := hB12.size
  go_wp2_with fail
  go_ret
  exact ⟨rfl, hB12⟩
theorem lIl14_walk {a0 : Option Addr} {c0 : Nat} {S0 K0 : Int} {xs0 : List Int} {a1 : Option Addr} {c1 : Nat} {xs1 : List Int} {w : World} (hm0 : xs0.length ≤ maxLen) (ha0 : ARow w a0 xs0) (ha1 : ARow w a1 xs1) :
    Calls Try.prog 6 #[.agg #[.slice a0 xs0.length c0, .int .i64 S0, .int .i64 K0], .slice a1 xs1.length c1] w fun e w' => e = .returned (.bool true) ∧ Below w.heap.size w w' := by
  by_cases h1 : xs1.length ≤ 1048576
  rotate_left
  · exact lIl14_long1 (by omega)
  by_cases h0 : xs0.length ≤ 1048576
  rotate_left
  · exact lIl14_long0 hm0 h1 (by omega)
  exact lIl14_main (hide rfl) h0 (hide rfl) h1 (hide ha0) (hide ha1)
end Go.Proofs.Yticekgjgknfloaa
