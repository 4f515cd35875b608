/-
  At any two lists and any number GainOf answers as the model does: the law's own walk.
-/
import Derived.Test.YtemdgnjefkphlaaSe
import Derived.Test.YtemdgnjefkphlaaSk
namespace Go.Proofs.Ytemdgnjefkphlaa
open Go.RowKit

set_option maxHeartbeats 400000 in
theorem lGo_long1 {a b : Option Addr} {n m c d : Nat} {k : Int} {w : World} (h : 1048576 < n) :
    Calls Try.prog 6 #[.slice a n c, .slice b m d, .int .i64 k] w fun e w' => e = .returned (.bool true) ∧ Below w.heap.size w w' := by
  have h1 : (1048576 : Int) < n := by omega
  go_enter Try.func6, Try.ntmps6
  go_wp2_with fail
  go_ret
  exact ⟨rfl, Below.refl _ _⟩
set_option maxHeartbeats 400000 in
theorem lGo_long2 {a b : Option Addr} {n m c d : Nat} {k : Int} {w : World} (h0 : n ≤ 1048576) (h : 1048576 < m) :
    Calls Try.prog 6 #[.slice a n c, .slice b m d, .int .i64 k] w fun e w' => e = .returned (.bool true) ∧ Below w.heap.size w w' := by
  have h1 : (1048576 : Int) < m := by omega
  have h2 : ¬ (1048576 : Int) < n := by omega
  go_enter Try.func6, Try.ntmps6
  go_wp2_with fail
  go_ret
  exact ⟨rfl, Below.refl _ _⟩
set_option maxHeartbeats 2000000 in
theorem lGo_main {a b : Option Addr} {n m c d : Nat} {k : Int} {xs ys : List Int} {w : World} (hx : Hid (xs.length = n)) (hy : Hid (ys.length = m)) (hn : n ≤ 1048576) (hm : m ≤ 1048576) (h : Hid (Car w w a b xs ys)) :
    Calls Try.prog 6 #[.slice a n c, .slice b m d, .int .i64 k] w fun e w' => e = .returned (.bool true) ∧ Below w.heap.size w w' := by
  have h1 : ¬ (1048576 : Int) < n := by omega
  have h2 : ¬ (1048576 : Int) < m := by omega
  have HS := hide (fun (w' : World) (a b : Option Addr) (c d : Nat) (ha : ARow w' a xs) (hb : ARow w' b ys) => sgo_any (c := c) (d := d) (k := k) (hide ha) hx (hide hb) hy)
  have HI := hide (fun (w' : World) (a b : Option Addr) (c d : Nat) (ha : ARow w' a xs) (hb : ARow w' b ys) => go_any (c := c) (d := d) (k := k) (hide ha) hx (hide hb) hy)
  simp only [fb_eq] at HS HI
  generalize gainF xs ys k = p at *
  generalize gainB xs ys k = rb at *
  obtain ⟨p1, p2⟩ := p
  have hnb : (rb != rb) = false := by simp
  go_enter Try.func6, Try.ntmps6
  go_wp2_with fail
  refine (toI_a c hx hn h.out.1).mono ?_
  rintro e w1 ⟨rfl, hb1, L1⟩
  have C1 := hide (h.out.step hb1)
  have HL1 := hide L1
  clear L1
  go_wp2_with fail
  refine (toI_a d hy hm C1.out.2.1).mono ?_
  rintro e w2 ⟨rfl, hb2, L2⟩
  have C2 := hide (C1.out.step hb2)
  have HL2 := hide L2
  have HL1' := hide (HL1.out.below hb2)
  clear L2
  go_wp2_with fail
  refine (HS.out _ _ _ _ _ HL1'.out HL2.out).mono ?_
  rintro e w3 ⟨rfl, hb3⟩
  have C3 := hide (C2.out.step hb3)
  clear HL1 HL1' HL2 C1 C2 hb1 hb2 hb3
  go_wp2_with fail
  have C3a := hide (C3.out.alloc (.cells #[.int .i64 p1, .int .i64 p2] 24))
  have P3 := hide (PBox.new w3 (.int .i64 p1) (.int .i64 p2) 24)
  clear C3
  generalize w3.alloc (.cells #[.int .i64 p1, .int .i64 p2] 24) = W3 at *
  generalize w3.heap.size = V3 at *
  refine (toI_a c hx hn C3a.out.1).mono ?_
  rintro e w4 ⟨rfl, hb4, L4⟩
  have C4 := hide (C3a.out.step hb4)
  have P4 := hide (P3.out.below hb4)
  have HL4 := hide L4
  clear L4
  go_wp2_with fail
  refine (toI_a d hy hm C4.out.2.1).mono ?_
  rintro e w5 ⟨rfl, hb5, L5⟩
  have C5 := hide (C4.out.step hb5)
  have P5 := hide (P4.out.below hb5)
  have HL5 := hide L5
  have HL4' := hide (HL4.out.below hb5)
  clear L5
  go_wp2_with fail
  refine (HI.out _ _ _ _ _ HL4'.out HL5.out).mono ?_
  rintro e w6 ⟨rfl, hb6⟩
  have C6 := hide (C5.out.step hb6)
  obtain ⟨v0, v1, vl⟩ := P5.out.below hb6
  have K4 := hide (HL4'.out.below hb6)
  have K5 := hide (HL5.out.below hb6)
  clear HL4 HL4' HL5 C3a C4 C5 P3 P4 P5 hb4 hb5 hb6
  go_wp2_with fail
  have C6a := hide (C6.out.alloc (.cells #[.int .i64 p1, .int .i64 p2] 24))
  have K4b := hide (K4.out.alloc (.cells #[.int .i64 p1, .int .i64 p2] 24))
  have K5b := hide (K5.out.alloc (.cells #[.int .i64 p1, .int .i64 p2] 24))
  generalize w6.alloc (.cells #[.int .i64 p1, .int .i64 p2] 24) = W6 at *
  refine (eqFrac_same _ _ _).mono ?_
  rintro e w6' ⟨rfl, hb6'⟩
  have C6' := hide (C6a.out.step hb6')
  have K4a := hide (K4b.out.below hb6')
  have K5a := hide (K5b.out.below hb6')
  clear C6 K4 K5 v0 v1 vl hb6'
  go_wp2_with fail
  refine (toI_a c hx hn C6'.out.1).mono ?_
  rintro e w7 ⟨rfl, hb7, L7⟩
  have C7 := hide (C6'.out.step hb7)
  have HL7 := hide L7
  have K4' := hide (K4a.out.below hb7)
  have K5' := hide (K5a.out.below hb7)
  clear L7
  go_wp2_with fail
  refine (eqI_b hx.out hn K4'.out HL7.out).mono ?_
  rintro e w8 ⟨rfl, hb8⟩
  have C8 := hide (C7.out.step hb8)
  have K8 := hide (K5'.out.below hb8)
  go_wp2_with fail
  refine (toI_a d hy hm C8.out.2.1).mono ?_
  rintro e w9 ⟨rfl, hb9, L9⟩
  have C9 := hide (C8.out.step hb9)
  have HL9 := hide L9
  have K9 := hide (K8.out.below hb9)
  clear L9
  go_wp2_with fail
  refine (eqI_b hy.out hm K9.out HL9.out).mono ?_
  rintro e w10 ⟨rfl, hb10⟩
  have C10 := hide (C9.out.step hb10)
  go_wp2_with fail
  go_ret
  exact ⟨rfl, C10.out.2.2⟩
theorem lGo_walk {a b : Option Addr} {c d : Nat} {k : Int} {xs ys : List Int} {w : World} (ha : ARow w a xs) (hb : ARow w b ys) :
    Calls Try.prog 6 #[.slice a xs.length c, .slice b ys.length d, .int .i64 k] w fun e w' => e = .returned (.bool true) ∧ Below w.heap.size w w' := by
  by_cases hx : xs.length ≤ 1048576
  · by_cases hy : ys.length ≤ 1048576
    · exact lGo_main (hide rfl) (hide rfl) hx hy (hide ⟨ha, hb, Below.refl _ _⟩)
    · exact lGo_long2 hx (by omega)
  · exact lGo_long1 (by omega)
end Go.Proofs.Ytemdgnjefkphlaa
