/-
  At any two lists NextFor answers as the model does: the law's own walk.
-/
import Derived.Test.YtemdgnjefkphlaaSd
import Derived.Test.YtemdgnjefkphlaaSk
namespace Go.Proofs.Ytemdgnjefkphlaa
open Go.RowKit

set_option maxHeartbeats 400000 in
theorem lNf_long1 {a b : Option Addr} {n m c d : Nat} {w : World} (h : 1048576 < n) :
    Calls Try.prog 4 #[.slice a n c, .slice b m d] w fun e w' => e = .returned (.bool true) ∧ Below w.heap.size w w' := by
  have h1 : (1048576 : Int) < n := by omega
  go_enter Try.func4, Try.ntmps4
  go_wp2_with fail
  go_ret
  exact ⟨rfl, Below.refl _ _⟩
set_option maxHeartbeats 400000 in
theorem lNf_long2 {a b : Option Addr} {n m c d : Nat} {w : World} (h0 : n ≤ 1048576) (h : 1048576 < m) :
    Calls Try.prog 4 #[.slice a n c, .slice b m d] w fun e w' => e = .returned (.bool true) ∧ Below w.heap.size w w' := by
  have h1 : (1048576 : Int) < m := by omega
  have h2 : ¬ (1048576 : Int) < n := by omega
  go_enter Try.func4, Try.ntmps4
  go_wp2_with fail
  go_ret
  exact ⟨rfl, Below.refl _ _⟩
set_option maxHeartbeats 2000000 in
theorem lNf_main {a b : Option Addr} {n m c d : Nat} {xs ys : List Int} {w : World} (hx : Hid (xs.length = n)) (hy : Hid (ys.length = m)) (hn : n ≤ 1048576) (hm : m ≤ 1048576) (h : Hid (Car w w a b xs ys)) :
    Calls Try.prog 4 #[.slice a n c, .slice b m d] w fun e w' => e = .returned (.bool true) ∧ Below w.heap.size w w' := by
  have h1 : ¬ (1048576 : Int) < n := by omega
  have h2 : ¬ (1048576 : Int) < m := by omega
  have HS := hide (fun (w' : World) (a b : Option Addr) (c d : Nat) (ha : ARow w' a xs) (hb : ARow w' b ys) => snf_any (c := c) (d := d) (hide ha) hx (hide hb) hy)
  have HI := hide (fun (w' : World) (a b : Option Addr) (c d : Nat) (ha : ARow w' a xs) (hb : ARow w' b ys) => nf_any (c := c) (d := d) (hide ha) hx (hide hb) hy)
  generalize nextN xs ys = rv at *
  generalize Sh.sharedB xs ys = rb at *
  have hne : (rv != rv) = false := by simp
  have hnb : (rb != rb) = false := by simp
  go_enter Try.func4, Try.ntmps4
  go_wp2_with fail
  refine (toI_a c hx hn h.out.1).mono ?_
  rintro e w1 ⟨rfl, hb1, L1⟩
  have C1 := hide (h.out.step hb1)
  have HL1 := hide L1
  clear L1
  go_wp2_with fail
  refine (toI_a d hy hm C1.out.2.1).mono ?_
  rintro e w2 ⟨rfl, hb2, L2⟩
  have C2 := hide (C1.out.step hb2)
  have HL2 := hide L2
  have HL1' := hide (HL1.out.below hb2)
  clear L2
  go_wp2_with fail
  refine (HS.out _ _ _ _ _ HL1'.out HL2.out).mono ?_
  rintro e w3 ⟨rfl, hb3⟩
  have C3 := hide (C2.out.step hb3)
  clear HL1 HL1' HL2 C1 C2 hb1 hb2 hb3
  go_wp2_with fail
  refine (toI_a c hx hn C3.out.1).mono ?_
  rintro e w4 ⟨rfl, hb4, L4⟩
  have C4 := hide (C3.out.step hb4)
  have HL4 := hide L4
  clear L4
  go_wp2_with fail
  refine (toI_a d hy hm C4.out.2.1).mono ?_
  rintro e w5 ⟨rfl, hb5, L5⟩
  have C5 := hide (C4.out.step hb5)
  have HL5 := hide L5
  have HL4' := hide (HL4.out.below hb5)
  clear L5
  go_wp2_with fail
  refine (HI.out _ _ _ _ _ HL4'.out HL5.out).mono ?_
  rintro e w6 ⟨rfl, hb6⟩
  have C6 := hide (C5.out.step hb6)
  have K4 := hide (HL4'.out.below hb6)
  have K5 := hide (HL5.out.below hb6)
  clear HL4 HL4' HL5 C3 C4 C5 hb4 hb5 hb6
  go_wp2_with fail
  refine (toI_a c hx hn C6.out.1).mono ?_
  rintro e w7 ⟨rfl, hb7, L7⟩
  have C7 := hide (C6.out.step hb7)
  have HL7 := hide L7
  have K4' := hide (K4.out.below hb7)
  have K5' := hide (K5.out.below hb7)
  clear L7
  go_wp2_with fail
  refine (eqI_b hx.out hn K4'.out HL7.out).mono ?_
  rintro e w8 ⟨rfl, hb8⟩
  have C8 := hide (C7.out.step hb8)
  have K8 := hide (K5'.out.below hb8)
  go_wp2_with fail
  refine (toI_a d hy hm C8.out.2.1).mono ?_
  rintro e w9 ⟨rfl, hb9, L9⟩
  have C9 := hide (C8.out.step hb9)
  have HL9 := hide L9
  have K9 := hide (K8.out.below hb9)
  clear L9
  go_wp2_with fail
  refine (eqI_b hy.out hm K9.out HL9.out).mono ?_
  rintro e w10 ⟨rfl, hb10⟩
  have C10 := hide (C9.out.step hb10)
  go_wp2_with fail
  go_ret
  exact ⟨rfl, C10.out.2.2⟩
theorem lNf_walk {a b : Option Addr} {c d : Nat} {xs ys : List Int} {w : World} (ha : ARow w a xs) (hb : ARow w b ys) :
    Calls Try.prog 4 #[.slice a xs.length c, .slice b ys.length d] w fun e w' => e = .returned (.bool true) ∧ Below w.heap.size w w' := by
  by_cases hx : xs.length ≤ 1048576
  · by_cases hy : ys.length ≤ 1048576
    · exact lNf_main (hide rfl) (hide rfl) hx hy (hide ⟨ha, hb, Below.refl _ _⟩)
    · exact lNf_long2 hx (by omega)
  · exact lNf_long1 (by omega)
end Go.Proofs.Ytemdgnjefkphlaa
