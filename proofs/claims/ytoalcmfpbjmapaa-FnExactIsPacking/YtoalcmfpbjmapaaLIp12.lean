/-
  At any arguments the function answers as the model does: the law's own walk.
-/
import Derived.Test.YtoalcmfpbjmapaaIe12
import Derived.Test.YtoalcmfpbjmapaaSk
namespace Go.Proofs.Ytoalcmfpbjmapaa
open Go.RowKit

set_option maxHeartbeats 400000 in
theorem lIp12_long0 {a0 a1 : Option Addr} {n0 c0 n1 c1 : Nat} {w : World} (h : 1048576 < n0) :
    Calls Try.prog 7 #[.slice a0 n0 c0, .slice a1 n1 c1] w fun e w' => e = .returned (.bool true) ∧ Below w.heap.size w w' := by
  have g0 : (1048576 : Int) < n0 := by omega
  go_enter Try.func7, Try.ntmps7
  go_wp2_with fail
  go_ret
  exact ⟨rfl, Below.refl _ _⟩
set_option maxHeartbeats 400000 in
theorem lIp12_long1 {a0 a1 : Option Addr} {n0 c0 n1 c1 : Nat} {w : World} (h0 : n0 ≤ 1048576) (hm : n1 ≤ maxLen) (h : 1048576 < n1) :
    Calls Try.prog 7 #[.slice a0 n0 c0, .slice a1 n1 c1] w fun e w' => e = .returned (.bool true) ∧ Below w.heap.size w w' := by
  have g0 : ¬ (1048576 : Int) < n0 := by omega
  go_enter Try.func7, Try.ntmps7
  go_wp2_with fail
  refine (szC_long (by omega) (by omega) hm (by omega)).mono ?_
  rintro e w1 ⟨rfl, rfl⟩
  go_wp2_with fail
  go_ret
  exact ⟨rfl, Below.refl _ _⟩
set_option maxHeartbeats 4000000 in
theorem lIp12_main {a0 a1 : Option Addr} {n0 c0 n1 c1 : Nat} {xs0 : List Int} {xs1 : List (List Int)} {w : World} (HX0 : Hid (xs0.length = n0)) (hn0 : n0 ≤ 1048576) (HX1 : Hid (xs1.length = n1)) (hn1 : n1 ≤ 1048576) (HF1 : Hid (CFits xs1)) (HA0 : Hid (ARow w a0 xs0)) (HA1 : Hid (CRow w a1 xs1)) :
    Calls Try.prog 7 #[.slice a0 n0 c0, .slice a1 n1 c1] w fun e w' => e = .returned (.bool true) ∧ Below w.heap.size w w' := by
  have g0 : ¬ (1048576 : Int) < n0 := by omega
  have HS := hide fun (W : World) (b0 : Nat) (b1 : Nat) (r0 : ARow W (some ⟨b0, 0, none⟩) xs0) (r1 : CRow W (some ⟨b1, 0, none⟩) xs1) (hsh : ∀ i, i < n1 → (xs1.getD i []).length ≤ 1048576) => sip_w (w := W) (c := n0) (d := n1) HX0.out HX1.out hn1 hsh r0 r1
  have HI := hide fun (W : World) (b0 : Nat) (b1 : Nat) (r0 : ARow W (some ⟨b0, 0, none⟩) xs0) (r1 : CRow W (some ⟨b1, 0, none⟩) xs1) (hsh : ∀ i, i < n1 → (xs1.getD i []).length ≤ 1048576) => ip_w (w := W) (c := n0) (d := n1) HX0.out HX1.out hn1 hsh r0 r1
  generalize It.ipB xs0 xs1 = G at HS HI
  have hneG : (G != G) = false := by simp
  generalize It.goodB xs0 = T at HS HI
  have hneT : (T != T) = false := by simp
  go_enter Try.func7, Try.ntmps7
  go_wp2_with fail
  refine (szC_any HX1.out (by omega) (by omega) (by omega) HF1.out HA1.out).mono ?_
  rintro e w0 ⟨r, rfl, hr1, hr2, hw0⟩
  obtain rfl : w = w0 := hw0.symm
  rcases hr2 with rfl | ⟨hr0, hsh⟩
  · go_wp2_with fail
    go_ret
    exact ⟨rfl, Below.refl _ _⟩
  have HSh1 := hide hsh
  have hr3 : ¬ r < 0 := by omega
  clear hsh
  go_wp2_with fail
  refine (toI_a c0 HX0 hn0 HA0.out).mono ?_
  rintro e w1 ⟨rfl, hb1, l1⟩
  have hB1 := hb1
  clear hb1
  have R1 := hide l1
  clear l1
  go_wp2_with fail
  refine (toC_own HX1.out hn1 HSh1.out (HA1.out.below hB1)).mono ?_
  rintro e w2 ⟨rfl, hb2, o2⟩
  have hB2 := hB1.trans (hb2.mono hB1.size)
  have R1x := hide (R1.out.below hb2)
  clear R1
  clear hB1
  clear hb2
  have R2 := hide o2.row
  clear o2
  go_wp2_with fail
  refine (HS.out _ _ _ R1x.out R2.out HSh1.out).mono ?_
  rintro e w3 ⟨rfl, hb3⟩
  have hB3 := hB2.trans (hb3.mono hB2.size)
  have R1xx := hide (R1x.out.below hb3)
  clear R1x
  have R2x := hide (R2.out.below hb3)
  clear R2
  clear hB2
  clear hb3
  clear R1xx
  clear R2x
  go_wp2_with fail
  refine (toI_a c0 HX0 hn0 (HA0.out.below hB3)).mono ?_
  rintro e w4 ⟨rfl, hb4, l4⟩
  have hB4 := hB3.trans (hb4.mono hB3.size)
  clear hB3
  clear hb4
  have R4 := hide l4
  clear l4
  go_wp2_with fail
  refine (toC_own HX1.out hn1 HSh1.out (HA1.out.below hB4)).mono ?_
  rintro e w5 ⟨rfl, hb5, o5⟩
  have hB5 := hB4.trans (hb5.mono hB4.size)
  have R4x := hide (R4.out.below hb5)
  clear R4
  clear hB4
  clear hb5
  have R5 := hide o5.row
  clear o5
  go_wp2_with fail
  refine (HI.out _ _ _ R4x.out R5.out HSh1.out).mono ?_
  rintro e w6 ⟨rfl, hb6⟩
  have hB6 := hB5.trans (hb6.mono hB5.size)
  have R4xx := hide (R4x.out.below hb6)
  clear R4x
  have R5x := hide (R5.out.below hb6)
  clear R5
  clear hB5
  clear hb6
  go_wp2_with fail
  refine (toI_a c0 HX0 hn0 (HA0.out.below hB6)).mono ?_
  rintro e w7 ⟨rfl, hb7, l7⟩
  have hB7 := hB6.trans (hb7.mono hB6.size)
  have R4xxx := hide (R4xx.out.below hb7)
  clear R4xx
  have R5xx := hide (R5x.out.below hb7)
  clear R5x
  clear hB6
  clear hb7
  have R7 := hide l7
  clear l7
  go_wp2_with fail
  refine (eqI_b HX0.out hn0 R4xxx.out R7.out).mono ?_
  rintro e w8 ⟨rfl, hb8⟩
  clear R7
  have hB8 := hB7.trans (hb8.mono hB7.size)
  have R4xxxx := hide (R4xxx.out.below hb8)
  clear R4xxx
  have R5xxx := hide (R5xx.out.below hb8)
  clear R5xx
  clear hB7
  clear hb8
  go_wp2_with fail
  refine (toC_own HX1.out hn1 HSh1.out (HA1.out.below hB8)).mono ?_
  rintro e w9 ⟨rfl, hb9, o9⟩
  have hB9 := hB8.trans (hb9.mono hB8.size)
  have R4xxxxx := hide (R4xxxx.out.below hb9)
  clear R4xxxx
  have R5xxxx := hide (R5xxx.out.below hb9)
  clear R5xxx
  clear hB8
  clear hb9
  have R9 := hide o9.row
  clear o9
  go_wp2_with fail
  refine (eqC_b HX1.out hn1 HSh1.out R5xxxx.out R9.out).mono ?_
  rintro e w10 ⟨rfl, hb10⟩
  clear R9
  have hB10 := hB9.trans (hb10.mono hB9.size)
  have R4xxxxxx := hide (R4xxxxx.out.below hb10)
  clear R4xxxxx
  have R5xxxxx := hide (R5xxxx.out.below hb10)
  clear R5xxxx
  clear hB9
  clear hb10
  go_wp2_with fail
  go_ret
  exact ⟨rfl, hB10⟩
theorem lIp12_walk {a0 a1 : Option Addr} {c0 c1 : Nat} {xs0 : List Int} {xs1 : List (List Int)} {w : World} (ha0 : ARow w a0 xs0) (hm1 : xs1.length ≤ maxLen) (hf1 : CFits xs1) (ha1 : CRow w a1 xs1) :
    Calls Try.prog 7 #[.slice a0 xs0.length c0, .slice a1 xs1.length c1] w fun e w' => e = .returned (.bool true) ∧ Below w.heap.size w w' := by
  by_cases h0 : xs0.length ≤ 1048576
  rotate_left
  · exact lIp12_long0 (by omega)
  by_cases h1 : xs1.length ≤ 1048576
  rotate_left
  · exact lIp12_long1 h0 hm1 (by omega)
  exact lIp12_main (hide rfl) h0 (hide rfl) h1 (hide hf1) (hide ha0) (hide ha1)
end Go.Proofs.Ytoalcmfpbjmapaa
