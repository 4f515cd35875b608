/-
  At any arguments the function answers as the model does: the law's own walk.
-/
import Derived.Test.YtcniegaogdggaaaQb
import Derived.Test.YtcniegaogdggaaaSk
namespace Go.Proofs.Ytcniegaogdggaaa
open Go.RowKit

set_option maxHeartbeats 400000 in
theorem lGc9_long0 {a0 : Option Addr} {n0 c0 : Nat} {w : World} (hm : n0 ≤ maxLen) (h : 1048576 < n0) :
    Calls Try.prog 3 #[.slice a0 n0 c0] w fun e w' => e = .returned (.bool true) ∧ Below w.heap.size w w' := by
  go_enter Try.func3, Try.ntmps3
  go_wp2_with fail
  refine (szC_long (by omega) (by omega) hm (by omega)).mono ?_
  rintro e w1 ⟨rfl, rfl⟩
  go_wp2_with fail
  go_ret
  exact ⟨rfl, Below.refl _ _⟩
set_option maxHeartbeats 4000000 in
theorem lGc9_main {a0 : Option Addr} {n0 c0 : Nat} {xs0 : List (List Int)} {w : World} (HX0 : Hid (xs0.length = n0)) (hn0 : n0 ≤ 1048576) (HF0 : Hid (CFits xs0)) (HA0 : Hid (CRow w a0 xs0)) :
    Calls Try.prog 3 #[.slice a0 n0 c0] w fun e w' => e = .returned (.bool true) ∧ Below w.heap.size w w' := by
  have HS := hide fun (W : World) (b0 : Nat) (r0 : CRow W (some ⟨b0, 0, none⟩) xs0) => sgc_any (w := W) (c := n0) HX0.out hn0 r0
  have HI := hide fun (W : World) (b0 : Nat) (r0 : CRow W (some ⟨b0, 0, none⟩) xs0) => gc_any (w := W) (c := n0) HX0.out r0
  generalize Hu.costB xs0 = G at HS HI
  have hneG : (G != G) = false := by simp
  go_enter Try.func3, Try.ntmps3
  go_wp2_with fail
  refine (szC_any HX0.out (by omega) (by omega) (by omega) HF0.out HA0.out).mono ?_
  rintro e w0 ⟨r, rfl, hr1, hr2, hw0⟩
  obtain rfl : w = w0 := hw0.symm
  rcases hr2 with rfl | ⟨hr0, hsh⟩
  · go_wp2_with fail
    go_ret
    exact ⟨rfl, Below.refl _ _⟩
  have HSh0 := hide hsh
  have hr3 : ¬ r < 0 := by omega
  clear hsh
  go_wp2_with fail
  refine (toC_own HX0.out hn0 HSh0.out HA0.out).mono ?_
  rintro e w1 ⟨rfl, hb1, o1⟩
  have hB1 := hb1
  clear hb1
  have R1 := hide o1.row
  clear o1
  go_wp2_with fail
  refine (HS.out _ _ R1.out).mono ?_
  rintro e w2 ⟨rfl, hw2⟩
  obtain rfl : w1 = w2 := hw2.symm
  clear R1
  go_wp2_with fail
  refine (toC_own HX0.out hn0 HSh0.out (HA0.out.below hB1)).mono ?_
  rintro e w3 ⟨rfl, hb3, o3⟩
  have hB3 := hB1.trans (hb3.mono hB1.size)
  clear hB1
  clear hb3
  have R3 := hide o3.row
  clear o3
  go_wp2_with fail
  refine (HI.out _ _ R3.out).mono ?_
  rintro e w4 ⟨rfl, hw4⟩
  obtain rfl : w3 = w4 := hw4.symm
  go_wp2_with fail
  refine (toC_own HX0.out hn0 HSh0.out (HA0.out.below hB3)).mono ?_
  rintro e w5 ⟨rfl, hb5, o5⟩
  have hB5 := hB3.trans (hb5.mono hB3.size)
  have R3x := hide (R3.out.below hb5)
  clear R3
  clear hB3
  clear hb5
  have R5 := hide o5.row
  clear o5
  go_wp2_with fail
  refine (eqC_b HX0.out hn0 HSh0.out R3x.out R5.out).mono ?_
  rintro e w6 ⟨rfl, hb6⟩
  clear R5
  have hB6 := hB5.trans (hb6.mono hB5.size)
  have R3xx := hide (R3x.out.below hb6)
  clear R3x
  clear hB5
  clear hb6
  go_wp2_with fail
  go_ret
  exact ⟨rfl, hB6⟩
theorem lGc9_walk {a0 : Option Addr} {c0 : Nat} {xs0 : List (List Int)} {w : World} (hm0 : xs0.length ≤ maxLen) (hf0 : CFits xs0) (ha0 : CRow w a0 xs0) :
    Calls Try.prog 3 #[.slice a0 xs0.length c0] w fun e w' => e = .returned (.bool true) ∧ Below w.heap.size w w' := by
  by_cases h0 : xs0.length ≤ 1048576
  rotate_left
  · exact lGc9_long0 hm0 (by omega)
  exact lGc9_main (hide rfl) h0 (hide hf0) (hide ha0)
end Go.Proofs.Ytcniegaogdggaaa
