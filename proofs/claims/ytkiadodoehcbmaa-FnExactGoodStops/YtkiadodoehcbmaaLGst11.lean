/-
  At any stops GoodStops answers as the model does: the law's own walk.
-/
import Derived.Test.YtkiadodoehcbmaaRb11
import Derived.Test.YtkiadodoehcbmaaHk11
namespace Go.Proofs.Ytkiadodoehcbmaa
open Go.RowKit

set_option maxHeartbeats 400000 in
theorem lGst11_long {a0 : Option Addr} {n0 c0 : Nat} {w : World} (hm : n0 ≤ maxLen) (h : 1048576 < n0) :
    Calls Try.prog 3 #[.slice a0 n0 c0] w fun e w' => e = .returned (.bool true) ∧ Below w.heap.size w w' := by
  have g0 : (1048576 : Int) < n0 := by omega
  go_enter Try.func3, Try.ntmps3
  go_wp2_with fail
  refine (szF_no _ _ _ _ _ (by omega) (by omega) hm g0).mono ?_
  rintro e w1 ⟨rfl, rfl⟩
  go_wp2_with fail
  go_ret
  exact ⟨rfl, Below.refl _ _⟩
set_option maxHeartbeats 4000000 in
theorem lGst11_main {a0 : Option Addr} {n0 c0 : Nat} {xs0 : List (Int × Int)} {w : World} (hx0 : Hid (xs0.length = n0)) (hn0 : n0 ≤ 1048576) (HA0 : Hid (FRow w a0 xs0)) :
    Calls Try.prog 3 #[.slice a0 n0 c0] w fun e w' => e = .returned (.bool true) ∧ Below w.heap.size w w' := by
  have g0 : ¬ (1048576 : Int) - n0 < 0 := by omega
  have HS := hide fun (W : World) (b0 : Nat) (r0 : FRow W (some ⟨b0, 0, none⟩) xs0) => sgst_any (w := W) (c := n0) hx0.out hn0 r0
  have HI := hide fun (W : World) (b0 : Nat) (r0 : FRow W (some ⟨b0, 0, none⟩) xs0) => gst_any (w := W) (c := n0) hx0.out r0
  generalize Rt.stopsB xs0 = G at HS HI
  have hne : (G != G) = false := by simp
  go_enter Try.func3, Try.ntmps3
  go_wp2_with fail
  refine (szF_yes _ _ _ _ _ (by omega) (by omega) (by omega)).mono ?_
  rintro e w0 ⟨rfl, hw0⟩
  obtain rfl : w = w0 := hw0.symm
  go_wp2_with fail
  refine (to_fow c0 hx0 hn0 HA0.out).mono ?_
  rintro e w1 ⟨rfl, hb1, l1⟩
  have B1 := hide hb1
  have R1 := hide l1
  clear hb1 l1
  go_wp2_with fail
  refine (HS.out _ _ R1.out.row).mono ?_
  rintro e w3 ⟨rfl, hb3⟩
  have B3 := hide (B1.out.trans (hb3.mono B1.out.size))
  clear hb3 R1 B1
  go_wp2_with fail
  refine (to_fow c0 hx0 hn0 (HA0.out.below B3.out)).mono ?_
  rintro e w4 ⟨rfl, hb4, l4⟩
  have B4 := hide (B3.out.trans (hb4.mono B3.out.size))
  have R4 := hide l4
  clear hb4 l4 B3
  go_wp2_with fail
  refine (HI.out _ _ R4.out.row).mono ?_
  rintro e w6 ⟨rfl, hb6⟩
  have B6 := hide (B4.out.trans (hb6.mono B4.out.size))
  have R6 := hide (R4.out.below hb6)
  clear hb6 R4 B4
  go_wp2_with fail
  refine (to_fow c0 hx0 hn0 (HA0.out.below B6.out)).mono ?_
  rintro e w7 ⟨rfl, hb7, l7⟩
  have B7 := hide (B6.out.trans (hb7.mono B6.out.size))
  have R7 := hide (R6.out.below hb7)
  have S7 := hide l7
  clear hb7 R6 B6 l7
  go_wp2_with fail
  refine (eq_fow hx0 hn0 R7.out S7.out).mono ?_
  rintro e w8 ⟨rfl, hb8⟩
  have B8 := hide (B7.out.trans (hb8.mono B7.out.size))
  clear hb8 R7 S7 B7
  go_wp2_with fail
  go_ret
  exact ⟨rfl, B8.out⟩
theorem lGst11_walk {a0 : Option Addr} {c0 : Nat} {xs0 : List (Int × Int)} {w : World} (hm0 : xs0.length ≤ maxLen) (ha0 : FRow w a0 xs0) :
    Calls Try.prog 3 #[.slice a0 xs0.length c0] w fun e w' => e = .returned (.bool true) ∧ Below w.heap.size w w' := by
  by_cases h0 : xs0.length ≤ 1048576
  · exact lGst11_main (hide rfl) h0 (hide ha0)
  · exact lGst11_long hm0 (by omega)
end Go.Proofs.Ytkiadodoehcbmaa
