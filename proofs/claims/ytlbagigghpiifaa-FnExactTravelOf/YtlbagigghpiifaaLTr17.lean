/-
  At any arguments the function answers as the model does: the law's own walk.
-/
import Derived.Test.YtlbagigghpiifaaHm17
import Derived.Test.YtlbagigghpiifaaSk
namespace Go.Proofs.Ytlbagigghpiifaa
open Go.RowKit

set_option maxHeartbeats 400000 in
theorem lTr17_long0 {a0 a1 a2 a3 : Option Addr} {n0 c0 n1 c1 n2 c2 n3 c3 : Nat} {w : World} (h : 1048576 < n0) :
    Calls Try.prog 4 #[.slice a0 n0 c0, .slice a1 n1 c1, .slice a2 n2 c2, .slice a3 n3 c3] w fun e w' => e = .returned (.bool true) ∧ Below w.heap.size w w' := by
  have g0 : (1048576 : Int) < n0 := by omega
  go_enter Try.func4, Try.ntmps4
  go_wp2_with fail
  go_ret
  exact ⟨rfl, Below.refl _ _⟩
set_option maxHeartbeats 400000 in
theorem lTr17_long1 {a0 a1 a2 a3 : Option Addr} {n0 c0 n1 c1 n2 c2 n3 c3 : Nat} {w : World} (h0 : n0 ≤ 1048576) (h : 1048576 < n1) :
    Calls Try.prog 4 #[.slice a0 n0 c0, .slice a1 n1 c1, .slice a2 n2 c2, .slice a3 n3 c3] w fun e w' => e = .returned (.bool true) ∧ Below w.heap.size w w' := by
  have g0 : ¬ (1048576 : Int) < n0 := by omega
  have g1 : (1048576 : Int) < n1 := by omega
  go_enter Try.func4, Try.ntmps4
  go_wp2_with fail
  go_ret
  exact ⟨rfl, Below.refl _ _⟩
set_option maxHeartbeats 400000 in
theorem lTr17_long2 {a0 a1 a2 a3 : Option Addr} {n0 c0 n1 c1 n2 c2 n3 c3 : Nat} {w : World} (h0 : n0 ≤ 1048576) (h1 : n1 ≤ 1048576) (h : 1048576 < n2) :
    Calls Try.prog 4 #[.slice a0 n0 c0, .slice a1 n1 c1, .slice a2 n2 c2, .slice a3 n3 c3] w fun e w' => e = .returned (.bool true) ∧ Below w.heap.size w w' := by
  have g0 : ¬ (1048576 : Int) < n0 := by omega
  have g1 : ¬ (1048576 : Int) < n1 := by omega
  have g2 : (1048576 : Int) < n2 := by omega
  go_enter Try.func4, Try.ntmps4
  go_wp2_with fail
  go_ret
  exact ⟨rfl, Below.refl _ _⟩
set_option maxHeartbeats 400000 in
theorem lTr17_long3 {a0 a1 a2 a3 : Option Addr} {n0 c0 n1 c1 n2 c2 n3 c3 : Nat} {w : World} (h0 : n0 ≤ 1048576) (h1 : n1 ≤ 1048576) (h2 : n2 ≤ 1048576) (h : 1048576 < n3) :
    Calls Try.prog 4 #[.slice a0 n0 c0, .slice a1 n1 c1, .slice a2 n2 c2, .slice a3 n3 c3] w fun e w' => e = .returned (.bool true) ∧ Below w.heap.size w w' := by
  have g0 : ¬ (1048576 : Int) < n0 := by omega
  have g1 : ¬ (1048576 : Int) < n1 := by omega
  have g2 : ¬ (1048576 : Int) < n2 := by omega
  have g3 : (1048576 : Int) < n3 := by omega
  go_enter Try.func4, Try.ntmps4
  go_wp2_with fail
  go_ret
  exact ⟨rfl, Below.refl _ _⟩
set_option maxHeartbeats 4000000 in
theorem lTr17_main {a0 a1 a2 a3 : Option Addr} {n0 c0 n1 c1 n2 c2 n3 c3 : Nat} {xs0 : List Int} {xs1 : List Int} {xs2 : List Int} {xs3 : List Int} {w : World} (hx0 : Hid (xs0.length = n0)) (hn0 : n0 ≤ 1048576) (hx1 : Hid (xs1.length = n1)) (hn1 : n1 ≤ 1048576) (hx2 : Hid (xs2.length = n2)) (hn2 : n2 ≤ 1048576) (hx3 : Hid (xs3.length = n3)) (hn3 : n3 ≤ 1048576) (HA0 : Hid (ARow w a0 xs0)) (HA1 : Hid (ARow w a1 xs1)) (HA2 : Hid (ARow w a2 xs2)) (HA3 : Hid (ARow w a3 xs3)) :
    Calls Try.prog 4 #[.slice a0 n0 c0, .slice a1 n1 c1, .slice a2 n2 c2, .slice a3 n3 c3] w fun e w' => e = .returned (.bool true) ∧ Below w.heap.size w w' := by
  have g0 : ¬ (1048576 : Int) < n0 := by omega
  have g1 : ¬ (1048576 : Int) < n1 := by omega
  have g2 : ¬ (1048576 : Int) < n2 := by omega
  have g3 : ¬ (1048576 : Int) < n3 := by omega
  have HS := hide fun (W : World) (b0 : Nat) (b1 : Nat) (b2 : Nat) (b3 : Nat) (r0 : ARow W (some ⟨b0, 0, none⟩) xs0) (r1 : ARow W (some ⟨b1, 0, none⟩) xs1) (r2 : ARow W (some ⟨b2, 0, none⟩) xs2) (r3 : ARow W (some ⟨b3, 0, none⟩) xs3) => str_any (c := n2) (d := n1) (e := n3) (f := n0) hx0 hx1 hx2 hn2 hx3 hn3 (hide r0) (hide r1) (hide r2) (hide r3)
  have HI := hide fun (W : World) (b0 : Nat) (b1 : Nat) (b2 : Nat) (b3 : Nat) (r0 : ARow W (some ⟨b0, 0, none⟩) xs0) (r1 : ARow W (some ⟨b1, 0, none⟩) xs1) (r2 : ARow W (some ⟨b2, 0, none⟩) xs2) (r3 : ARow W (some ⟨b3, 0, none⟩) xs3) => tr_any (c := n2) (d := n1) (e := n3) (f := n0) hx0 hx1 hx2 hx3 hn3 (hide r0) (hide r1) (hide r2) (hide r3)
  simp only [fb_eq] at HS HI
  generalize (Hs.trF xs0 xs1 xs2 xs3) = X at HS HI
  generalize (Hs.trG xs0 xs1 xs2 xs3) = G at HS HI
  obtain ⟨x1, x2⟩ := X
  have hne : (G != G) = false := by simp
  go_enter Try.func4, Try.ntmps4
  go_wp2_with fail
  refine (toI_a c0 hx0 hn0 HA0.out).mono ?_
  rintro e w1 ⟨rfl, hb1, l1⟩
  have hB1 := hb1
  clear hb1
  have R1 := hide l1
  clear l1
  go_wp2_with fail
  refine (toI_a c1 hx1 hn1 (HA1.out.below hB1)).mono ?_
  rintro e w2 ⟨rfl, hb2, l2⟩
  have hB2 := hB1.trans (hb2.mono hB1.size)
  have R1x := hide (R1.out.below hb2)
  clear hb2 R1 hB1
  have R2 := hide l2
  clear l2
  go_wp2_with fail
  refine (toI_a c2 hx2 hn2 (HA2.out.below hB2)).mono ?_
  rintro e w3 ⟨rfl, hb3, l3⟩
  have hB3 := hB2.trans (hb3.mono hB2.size)
  have R1xx := hide (R1x.out.below hb3)
  have R2x := hide (R2.out.below hb3)
  clear hb3 R1x R2 hB2
  have R3 := hide l3
  clear l3
  go_wp2_with fail
  refine (toI_a c3 hx3 hn3 (HA3.out.below hB3)).mono ?_
  rintro e w4 ⟨rfl, hb4, l4⟩
  have hB4 := hB3.trans (hb4.mono hB3.size)
  have R1xxx := hide (R1xx.out.below hb4)
  have R2xx := hide (R2x.out.below hb4)
  have R3x := hide (R3.out.below hb4)
  clear hb4 R1xx R2x R3 hB3
  have R4 := hide l4
  clear l4
  go_wp2_with fail
  refine (HS.out _ _ _ _ _ R1xxx.out R2xx.out R3x.out R4.out).mono ?_
  rintro e w5 ⟨rfl, hb5⟩
  have hB5 := hB4.trans (hb5.mono hB4.size)
  have R1xxxx := hide (R1xxx.out.below hb5)
  have R2xxx := hide (R2xx.out.below hb5)
  have R3xx := hide (R3x.out.below hb5)
  have R4x := hide (R4.out.below hb5)
  clear hb5 R1xxx R2xx R3x R4 hB4
  clear R1xxxx R2xxx R3xx R4x
  have hb6 := below_new w5 (.cells #[.int .i64 x1, .int .i64 x2] 30)
  have P6 := hide (PBox.new w5 (.int .i64 x1) (.int .i64 x2) 30)
  have hB6 := hB5.trans (hb6.mono hB5.size)
  clear hb6 hB5
  go_wp2_with fail
  generalize w5.alloc (.cells #[.int .i64 x1, .int .i64 x2] 30) = w6 at *
  generalize w5.heap.size = V6 at *
  go_wp2_with fail
  refine (toI_a c0 hx0 hn0 (HA0.out.below hB6)).mono ?_
  rintro e w7 ⟨rfl, hb7, l7⟩
  have hB7 := hB6.trans (hb7.mono hB6.size)
  have P6x := hide (P6.out.below hb7)
  clear hb7 P6 hB6
  have R7 := hide l7
  clear l7
  go_wp2_with fail
  refine (toI_a c1 hx1 hn1 (HA1.out.below hB7)).mono ?_
  rintro e w8 ⟨rfl, hb8, l8⟩
  have hB8 := hB7.trans (hb8.mono hB7.size)
  have R7x := hide (R7.out.below hb8)
  have P6xx := hide (P6x.out.below hb8)
  clear hb8 R7 P6x hB7
  have R8 := hide l8
  clear l8
  go_wp2_with fail
  refine (toI_a c2 hx2 hn2 (HA2.out.below hB8)).mono ?_
  rintro e w9 ⟨rfl, hb9, l9⟩
  have hB9 := hB8.trans (hb9.mono hB8.size)
  have R7xx := hide (R7x.out.below hb9)
  have R8x := hide (R8.out.below hb9)
  have P6xxx := hide (P6xx.out.below hb9)
  clear hb9 R7x R8 P6xx hB8
  have R9 := hide l9
  clear l9
  go_wp2_with fail
  refine (toI_a c3 hx3 hn3 (HA3.out.below hB9)).mono ?_
  rintro e w10 ⟨rfl, hb10, l10⟩
  have hB10 := hB9.trans (hb10.mono hB9.size)
  have R7xxx := hide (R7xx.out.below hb10)
  have R8xx := hide (R8x.out.below hb10)
  have R9x := hide (R9.out.below hb10)
  have P6xxxx := hide (P6xxx.out.below hb10)
  clear hb10 R7xx R8x R9 P6xxx hB9
  have R10 := hide l10
  clear l10
  go_wp2_with fail
  refine (HI.out _ _ _ _ _ R7xxx.out R8xx.out R9x.out R10.out).mono ?_
  rintro e w11 ⟨rfl, hb11⟩
  have hB11 := hB10.trans (hb11.mono hB10.size)
  have R7xxxx := hide (R7xxx.out.below hb11)
  have R8xxx := hide (R8xx.out.below hb11)
  have R9xx := hide (R9x.out.below hb11)
  have R10x := hide (R10.out.below hb11)
  have P6xxxxx := hide (P6xxxx.out.below hb11)
  clear hb11 R7xxx R8xx R9x R10 P6xxxx hB10
  obtain ⟨v0, v1, _⟩ := P6xxxxx.out
  go_wp2_with fail
  have hb12 := below_new w11 (.cells #[.int .i64 x1, .int .i64 x2] 30)
  have hB12 := hB11.trans (hb12.mono hB11.size)
  have R7xxxxx := hide (R7xxxx.out.below hb12)
  have R8xxxx := hide (R8xxx.out.below hb12)
  have R9xxx := hide (R9xx.out.below hb12)
  have R10xx := hide (R10x.out.below hb12)
  have P6xxxxxx := hide (P6xxxxx.out.below hb12)
  clear hb12 R7xxxx R8xxx R9xx R10x P6xxxxx hB11
  generalize w11.alloc (.cells #[.int .i64 x1, .int .i64 x2] 30) = w12 at *
  refine (eqFrac_same _ _ _).mono ?_
  rintro e w13 ⟨rfl, hb13⟩
  clear v0 v1
  have hB13 := hB12.trans (hb13.mono hB12.size)
  have R7xxxxxx := hide (R7xxxxx.out.below hb13)
  have R8xxxxx := hide (R8xxxx.out.below hb13)
  have R9xxxx := hide (R9xxx.out.below hb13)
  have R10xxx := hide (R10xx.out.below hb13)
  have P6xxxxxxx := hide (P6xxxxxx.out.below hb13)
  clear hb13 R7xxxxx R8xxxx R9xxx R10xx P6xxxxxx hB12
  clear P6xxxxxxx
  go_wp2_with fail
  refine (toI_a c0 hx0 hn0 (HA0.out.below hB13)).mono ?_
  rintro e w14 ⟨rfl, hb14, l14⟩
  have hB14 := hB13.trans (hb14.mono hB13.size)
  have R7xxxxxxx := hide (R7xxxxxx.out.below hb14)
  have R8xxxxxx := hide (R8xxxxx.out.below hb14)
  have R9xxxxx := hide (R9xxxx.out.below hb14)
  have R10xxxx := hide (R10xxx.out.below hb14)
  clear hb14 R7xxxxxx R8xxxxx R9xxxx R10xxx hB13
  have R14 := hide l14
  clear l14
  go_wp2_with fail
  refine (eqI_b hx0.out hn0 R7xxxxxxx.out R14.out).mono ?_
  rintro e w15 ⟨rfl, hb15⟩
  clear R14
  clear R7xxxxxxx
  have hB15 := hB14.trans (hb15.mono hB14.size)
  have R8xxxxxxx := hide (R8xxxxxx.out.below hb15)
  have R9xxxxxx := hide (R9xxxxx.out.below hb15)
  have R10xxxxx := hide (R10xxxx.out.below hb15)
  clear hb15 R8xxxxxx R9xxxxx R10xxxx hB14
  go_wp2_with fail
  refine (toI_a c1 hx1 hn1 (HA1.out.below hB15)).mono ?_
  rintro e w16 ⟨rfl, hb16, l16⟩
  have hB16 := hB15.trans (hb16.mono hB15.size)
  have R8xxxxxxxx := hide (R8xxxxxxx.out.below hb16)
  have R9xxxxxxx := hide (R9xxxxxx.out.below hb16)
  have R10xxxxxx := hide (R10xxxxx.out.below hb16)
  clear hb16 R8xxxxxxx R9xxxxxx R10xxxxx hB15
  have R16 := hide l16
  clear l16
  go_wp2_with fail
  refine (eqI_b hx1.out hn1 R8xxxxxxxx.out R16.out).mono ?_
  rintro e w17 ⟨rfl, hb17⟩
  clear R16
  clear R8xxxxxxxx
  have hB17 := hB16.trans (hb17.mono hB16.size)
  have R9xxxxxxxx := hide (R9xxxxxxx.out.below hb17)
  have R10xxxxxxx := hide (R10xxxxxx.out.below hb17)
  clear hb17 R9xxxxxxx R10xxxxxx hB16
  go_wp2_with fail
  refine (toI_a c2 hx2 hn2 (HA2.out.below hB17)).mono ?_
  rintro e w18 ⟨rfl, hb18, l18⟩
  have hB18 := hB17.trans (hb18.mono hB17.size)
  have R9xxxxxxxxx := hide (R9xxxxxxxx.out.below hb18)
  have R10xxxxxxxx := hide (R10xxxxxxx.out.below hb18)
  clear hb18 R9xxxxxxxx R10xxxxxxx hB17
  have R18 := hide l18
  clear l18
  go_wp2_with fail
  refine (eqI_b hx2.out hn2 R9xxxxxxxxx.out R18.out).mono ?_
  rintro e w19 ⟨rfl, hb19⟩
  clear R18
  clear R9xxxxxxxxx
  have hB19 := hB18.trans (hb19.mono hB18.size)
  have R10xxxxxxxxx := hide (R10xxxxxxxx.out.below hb19)
  clear hb19 R10xxxxxxxx hB18
  go_wp2_with fail
  refine (toI_a c3 hx3 hn3 (HA3.out.below hB19)).mono ?_
  rintro e w20 ⟨rfl, hb20, l20⟩
  have hB20 := hB19.trans (hb20.mono hB19.size)
  have R10xxxxxxxxxx := hide (R10xxxxxxxxx.out.below hb20)
  clear hb20 R10xxxxxxxxx hB19
  have R20 := hide l20
  clear l20
  go_wp2_with fail
  refine (eqI_b hx3.out hn3 R10xxxxxxxxxx.out R20.out).mono ?_
  rintro e w21 ⟨rfl, hb21⟩
  clear R20
  clear R10xxxxxxxxxx
  have hB21 := hB20.trans (hb21.mono hB20.size)
  clear hb21 hB20
  go_wp2_with fail
  go_ret
  exact ⟨rfl, hB21⟩
theorem lTr17_walk {a0 a1 a2 a3 : Option Addr} {c0 c1 c2 c3 : Nat} {xs0 : List Int} {xs1 : List Int} {xs2 : List Int} {xs3 : List Int} {w : World} (ha0 : ARow w a0 xs0) (ha1 : ARow w a1 xs1) (ha2 : ARow w a2 xs2) (ha3 : ARow w a3 xs3) :
    Calls Try.prog 4 #[.slice a0 xs0.length c0, .slice a1 xs1.length c1, .slice a2 xs2.length c2, .slice a3 xs3.length c3] w fun e w' => e = .returned (.bool true) ∧ Below w.heap.size w w' := by
  by_cases h0 : xs0.length ≤ 1048576
  rotate_left
  · exact lTr17_long0 (by omega)
  by_cases h1 : xs1.length ≤ 1048576
  rotate_left
  · exact lTr17_long1 h0 (by omega)
  by_cases h2 : xs2.length ≤ 1048576
  rotate_left
  · exact lTr17_long2 h0 h1 (by omega)
  by_cases h3 : xs3.length ≤ 1048576
  rotate_left
  · exact lTr17_long3 h0 h1 h2 (by omega)
  exact lTr17_main (hide rfl) h0 (hide rfl) h1 (hide rfl) h2 (hide rfl) h3 (hide ha0) (hide ha1) (hide ha2) (hide ha3)
end Go.Proofs.Ytlbagigghpiifaa
