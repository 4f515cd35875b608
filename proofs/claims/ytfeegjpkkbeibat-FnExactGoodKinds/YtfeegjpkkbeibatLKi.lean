/-
  At any list and any number GoodKinds answers as the model does: the law's own walk.
-/
import Derived.Test.YtfeegjpkkbeibatSb
import Derived.Test.YtfeegjpkkbeibatSk
namespace Go.Proofs.Ytfeegjpkkbeibat
open Go.RowKit

set_option maxHeartbeats 400000 in
theorem lKi_long {a : Option Addr} {n c : Nat} {k : Int} {w : World} (h : 1048576 < n) :
    Calls Try.prog 8 #[.slice a n c, .int .i64 k] w fun e w' => e = .returned (.bool true) ∧ Below w.heap.size w w' := by
  have h1 : (1048576 : Int) < n := by omega
  go_enter Try.func8, Try.ntmps8
  go_wp2_with fail
  go_ret
  exact ⟨rfl, Below.refl _ _⟩
set_option maxHeartbeats 1000000 in
theorem lKi_main {a : Option Addr} {n c : Nat} {k : Int} {xs : List Int} {w : World} (hx : Hid (xs.length = n)) (hn : n ≤ 1048576) (h : Hid (ARow w a xs)) :
    Calls Try.prog 8 #[.slice a n c, .int .i64 k] w fun e w' => e = .returned (.bool true) ∧ Below w.heap.size w w' := by
  have h1 : ¬ (1048576 : Int) < n := by omega
  have HS := hide (fun (w' : World) (a : Option Addr) (c : Nat) (ha : ARow w' a xs) => skinds_any (c := c) (p := k) (hide ha) hx)
  have HI := hide (fun (w' : World) (a : Option Addr) (c : Nat) (ha : ARow w' a xs) => kinds_any (c := c) (p := k) (hide ha) hx)
  generalize Sh.kindsB xs k = rb at *
  have hnb : (rb != rb) = false := by simp
  go_enter Try.func8, Try.ntmps8
  go_wp2_with fail
  refine (toI_a c hx hn h.out).mono ?_
  rintro e w1 ⟨rfl, hb1, L1⟩
  have HL1 := hide L1
  clear L1
  go_wp2_with fail
  refine (HS.out _ _ _ HL1.out).mono ?_
  rintro e w2 ⟨rfl, hw⟩
  obtain rfl : w1 = w2 := hw.symm
  go_wp2_with fail
  refine (toI_a c hx hn (h.out.below hb1)).mono ?_
  rintro e w3 ⟨rfl, hb3, L3⟩
  have HL3 := hide L3
  have hB3 := hb1.trans (hb3.mono hb1.size)
  clear L3
  go_wp2_with fail
  refine (HI.out _ _ _ HL3.out).mono ?_
  rintro e w4 ⟨rfl, hw⟩
  obtain rfl : w3 = w4 := hw.symm
  go_wp2_with fail
  refine (toI_a c hx hn (h.out.below hB3)).mono ?_
  rintro e w5 ⟨rfl, hb5, L5⟩
  have HL5 := hide L5
  have K5 := hide (HL3.out.below hb5)
  have hB5 := hB3.trans (hb5.mono hB3.size)
  clear L5
  go_wp2_with fail
  refine (eqI_b hx.out hn K5.out HL5.out).mono ?_
  rintro e w6 ⟨rfl, hb6⟩
  go_wp2_with fail
  go_ret
  exact ⟨rfl, hB5.trans (hb6.mono hB5.size)⟩
theorem lKi_walk {a : Option Addr} {c : Nat} {k : Int} {xs : List Int} {w : World} (ha : ARow w a xs) :
    Calls Try.prog 8 #[.slice a xs.length c, .int .i64 k] w fun e w' => e = .returned (.bool true) ∧ Below w.heap.size w w' := by
  by_cases hx : xs.length ≤ 1048576
  · exact lKi_main (hide rfl) hx (hide ha)
  · exact lKi_long (by omega)
end Go.Proofs.Ytfeegjpkkbeibat
