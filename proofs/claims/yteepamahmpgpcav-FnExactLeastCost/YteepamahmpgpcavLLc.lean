/-
  At any list and any two numbers LeastCost answers as the model does: the law's own walk.
-/
import Derived.Test.YteepamahmpgpcavUv
import Derived.Test.YteepamahmpgpcavSk
import Derived.Test.YteepamahmpgpcavLRootBounds
namespace Go.Proofs.Yteepamahmpgpcav
open Go.RowKit

set_option maxHeartbeats 400000 in
theorem lLc_long {a : Option Addr} {n c : Nat} {r f : Int} {w : World} (h : 1048576 < n) :
    Calls Try.prog 7 #[.slice a n c, .int .i64 r, .int .i64 f] w fun e w' => e = .returned (.bool true) ∧ Below w.heap.size w w' := by
  have h1 : (1048576 : Int) < n := by omega
  go_enter Try.func7, Try.ntmps7
  go_wp2_with fail
  go_ret
  exact ⟨rfl, Below.refl _ _⟩
set_option maxHeartbeats 2000000 in
theorem lLc_main {a : Option Addr} {n c : Nat} {r f : Int} {xs : List Int} {w : World} (hx : Hid (xs.length = n)) (hn : n ≤ 1048576) (h : Hid (Car w w a a xs xs)) :
    Calls Try.prog 7 #[.slice a n c, .int .i64 r, .int .i64 f] w fun e w' => e = .returned (.bool true) ∧ Below w.heap.size w w' := by
  have h1 : ¬ (1048576 : Int) < n := by omega
  have HS := hide (fun (w' : World) (a : Option Addr) (c : Nat) (ha : ARow w' a xs) => slc_any (r := r) (f := f) (c := c) (hide ha) hx)
  have HI := hide (fun (w' : World) (a : Option Addr) (c : Nat) (ha : ARow w' a xs) => lc_any (r := r) (f := f) (c := c) (hide ha) hx)
  simp only [bv_eq] at HS HI
  generalize leastLo xs r f = p at *
  generalize leastHi xs r f = q at *
  generalize leastB xs r f = rb at *
  obtain ⟨p1, p2⟩ := p
  obtain ⟨q1, q2⟩ := q
  have hnb : (rb != rb) = false := by simp
  go_enter Try.func7, Try.ntmps7
  go_wp2_with fail
  refine (toI_a c hx hn h.out.1).mono ?_
  rintro e w1 ⟨rfl, hb1, L1⟩
  have C1 := hide (h.out.step hb1)
  have HL1 := hide L1
  clear L1
  go_wp2_with fail
  refine (HS.out _ _ _ HL1.out).mono ?_
  rintro e w3 ⟨rfl, hb3⟩
  have C3 := hide (C1.out.step hb3)
  clear HL1 C1 hb1 hb3
  go_wp2_with fail
  have C3a := hide (C3.out.alloc (.cells #[.int .i64 p1, .int .i64 p2, .int .i64 q1, .int .i64 q2] 35))
  have P3 := hide (Four.new w3 p1 p2 q1 q2 35)
  clear C3
  generalize w3.alloc (.cells #[.int .i64 p1, .int .i64 p2, .int .i64 q1, .int .i64 q2] 35) = W3 at *
  generalize w3.heap.size = V3 at *
  refine (toI_a c hx hn C3a.out.1).mono ?_
  rintro e w4 ⟨rfl, hb4, L4⟩
  have C4 := hide (C3a.out.step hb4)
  have P4 := hide (P3.out.below hb4 P3.out.2.2.2.2.2.2.2.2)
  have HL4 := hide L4
  clear L4
  go_wp2_with fail
  refine (HI.out _ _ _ HL4.out).mono ?_
  rintro e w6 ⟨rfl, hb6⟩
  have C6 := hide (C4.out.step hb6)
  obtain ⟨v0, v1, v2, v3, _, _, _, _, vl⟩ := P4.out.below hb6 P4.out.2.2.2.2.2.2.2.2
  have K4 := hide (HL4.out.below hb6)
  clear HL4 C3a C4 P3 P4 hb4 hb6
  go_wp2_with fail
  have C6a := hide (C6.out.alloc (.cells #[.int .i64 p1, .int .i64 p2, .int .i64 q1, .int .i64 q2] 35))
  have K4b := hide (K4.out.alloc (.cells #[.int .i64 p1, .int .i64 p2, .int .i64 q1, .int .i64 q2] 35))
  generalize w6.alloc (.cells #[.int .i64 p1, .int .i64 p2, .int .i64 q1, .int .i64 q2] 35) = W6 at *
  refine (eqBounds_same _ _ _ _ _).mono ?_
  rintro e w6' ⟨rfl, hb6'⟩
  have C6' := hide (C6a.out.step hb6')
  have K4a := hide (K4b.out.below hb6')
  clear C6 K4 v0 v1 v2 v3 vl hb6'
  go_wp2_with fail
  refine (toI_a c hx hn C6'.out.1).mono ?_
  rintro e w7 ⟨rfl, hb7, L7⟩
  have C7 := hide (C6'.out.step hb7)
  have HL7 := hide L7
  have K4' := hide (K4a.out.below hb7)
  clear L7
  go_wp2_with fail
  refine (eqI_b hx.out hn K4'.out HL7.out).mono ?_
  rintro e w8 ⟨rfl, hb8⟩
  have C8 := hide (C7.out.step hb8)
  go_wp2_with fail
  go_ret
  exact ⟨rfl, C8.out.2.2⟩
theorem lLc_walk {a : Option Addr} {c : Nat} {r f : Int} {xs : List Int} {w : World} (ha : ARow w a xs) :
    Calls Try.prog 7 #[.slice a xs.length c, .int .i64 r, .int .i64 f] w fun e w' => e = .returned (.bool true) ∧ Below w.heap.size w w' := by
  by_cases hx : xs.length ≤ 1048576
  · exact lLc_main (hide rfl) hx (hide ⟨ha, ha, Below.refl _ _⟩)
  · exact lLc_long (by omega)
end Go.Proofs.Yteepamahmpgpcav
