/-
  At any prices PriceSum answers as the model does: the law's own walk.
-/
import Derived.Test.YtjcieddfookpbaaQq
namespace Go.Proofs.Ytjcieddfookpbaa
open Go.RowKit

set_option maxHeartbeats 1000000 in
theorem lPs9_long {a b : Option Addr} {n m c d : Nat} {w : World} (hn : n ≤ maxLen) (hm : m ≤ maxLen) (h : 1048576 < n + m) :
    Calls Try.prog 7 #[.agg #[.slice a n c, .slice b m d]] w fun e w' => e = .returned (.bool true) ∧ Below w.heap.size w w' := by
  go_enter Try.func7, Try.ntmps7
  go_wp2_with fail
  refine (szPr_no (by omega) (by omega) hn hm (by omega)).mono ?_
  rintro e w1 ⟨rfl, hb1⟩
  go_wp2_with fail
  go_ret
  exact ⟨rfl, ((Below.refl _ _).alloc (Nat.le_refl _) _).trans (hb1.mono (by simp))⟩

set_option maxHeartbeats 4000000 in
theorem lPs9_short {a b : Option Addr} {n m c d : Nat} {ps fs : List Int} {w : World} (hn : ps.length = n) (hm : fs.length = m) (h : n + m ≤ 1048576) (ha : ARow w a ps) (hb : ARow w b fs) :
    Calls Try.prog 7 #[.agg #[.slice a n c, .slice b m d]] w fun e w' => e = .returned (.bool true) ∧ Below w.heap.size w w' := by
  have HA := hide ha
  have HB := hide hb
  have HN := hide hn
  have HM := hide hm
  have HS := hide fun (W : World) (x y : Nat) (r : ARow W (some ⟨x, 0, none⟩) ps) (r' : ARow W (some ⟨y, 0, none⟩) fs) => sps_w (c := n) (d := m) hn hm r r'
  have HI := hide fun (W : World) (x y : Nat) (r : ARow W (some ⟨x, 0, none⟩) ps) (r' : ARow W (some ⟨y, 0, none⟩) fs) => ps_w (c := n) (d := m) hn hm r r'
  generalize Hu.psI ps fs = G at HS HI
  generalize Hu.prB ps fs = T at HS HI
  have hneG : (G != G) = false := by simp
  have hneT : (T != T) = false := by simp
  have hl : ¬ (1048576 : Int) - (n : Int) - (m : Int) < 0 := by omega
  clear ha hb hn hm
  go_enter Try.func7, Try.ntmps7
  go_wp2_with fail
  refine (szPr_yes (by omega) (by omega) (by omega)).mono ?_
  rintro e w1 ⟨rfl, hb1⟩
  have hB1 : Below w.heap.size w w1 := (below_new _ _).trans (hb1.mono (by simp))
  obtain ⟨p0, p1, z1⟩ := (PBox.new w _ _ _).below hb1
  go_wp2_with fail
  refine (toPr_any HN.out HM.out (by omega) (by omega) (HA.out.below hB1) (HB.out.below hB1)).mono ?_
  rintro e w2 ⟨x1, y1, rfl, hb2, _, _, _, own1, own2⟩
  have hB2 : Below w.heap.size w w2 := hB1.trans (hb2.mono hB1.size)
  obtain ⟨p0', p1', z2⟩ := PBox.below ⟨p0, p1, z1⟩ hb2
  have R1 := hide (arow_owns HN.out.symm own1)
  have R2 := hide (arow_owns HM.out.symm own2)
  clear p0 p1 own1 own2
  go_wp2_with fail
  refine (HS.out _ _ _ R1.out R2.out).mono ?_
  rintro e w3 ⟨rfl, hb3⟩
  have hB3 : Below w.heap.size w w3 := hB2.trans (hb3.mono hB2.size)
  obtain ⟨p0, p1, z3⟩ := PBox.below ⟨p0', p1', z2⟩ hb3
  clear p0' p1' R1 R2
  go_wp2_with fail
  refine (toPr_any HN.out HM.out (by omega) (by omega) (HA.out.below hB3) (HB.out.below hB3)).mono ?_
  rintro e w4 ⟨x2, y2, rfl, hb4, _, _, _, own1, own2⟩
  have hB4 : Below w.heap.size w w4 := hB3.trans (hb4.mono hB3.size)
  have bn := below_new w4 (.cells #[.slice (some ⟨x2, 0, none⟩) n n, .slice (some ⟨y2, 0, none⟩) m m] 29)
  obtain ⟨p0', p1', z4⟩ := (PBox.below ⟨p0, p1, z3⟩ hb4)
  have R1 := hide ((arow_owns HN.out.symm own1).below bn)
  have R2 := hide ((arow_owns HM.out.symm own2).below bn)
  have HPB := hide (PBox.below ⟨p0', p1', z4⟩ bn)
  have hB5 := hB4.trans (bn.mono hB4.size)
  clear p0 p1 own1 own2 p0' p1'
  go_wp2_with fail
  refine (HI.out _ _ _ R1.out R2.out).mono ?_
  rintro e w5 ⟨rfl, hb5⟩
  obtain ⟨p0, p1, z5⟩ := HPB.out.below hb5
  obtain ⟨p2, p3, z6⟩ := (PBox.new w4 _ _ _).below hb5
  have hR : Rst9 w w4.heap.size x2 y2 ps fs w5 := ⟨hB5.trans (hb5.mono hB5.size), z6, R1.out.below hb5, R2.out.below hb5⟩
  have hlt : w.heap.size < w4.heap.size := z4
  clear HPB R1 R2 hb5 hB5 hB4 hB3 hB2 hB1 bn
  go_wp2_with fail
  go_region_held3 (fun w' => w'.cell? ⟨w.heap.size, 0, none⟩ = some (.slice a n c) ∧ w'.cell? ⟨w.heap.size, 1, none⟩ = some (.slice b m d) ∧ w'.cell? ⟨w4.heap.size, 0, none⟩ = some (.slice (some ⟨x2, 0, none⟩) n n) ∧ w'.cell? ⟨w4.heap.size, 1, none⟩ = some (.slice (some ⟨y2, 0, none⟩) m m) ∧ Rst9 w w4.heap.size x2 y2 ps fs w')
    (first | exact ⟨p0, p1, p2, p3, hR.below (below_drewN (Below.refl _ _) 1)⟩ | assumption | exact rst9_step hlt ‹_› (by assumption))
    (first
    | (go_at_call 28; refine (toPr_held HA HB HN HM h (by assumption)).mono ?_; rintro e w1 ⟨x3, y3, rfl, hb1, R3, R4⟩)
    | (go_at_call 17; refine (eqPr_held HN HM h (by assumption) (by assumption) (by assumption)).mono ?_; rintro e w1 ⟨rfl, hb1⟩))
  obtain ⟨_, _, _, _, hR'⟩ := ‹_ ∧ _ ∧ _ ∧ _ ∧ _›
  have hBe := hR'.1
  clear hR hR'
  go_wp2_with fail
  go_ret
  exact ⟨rfl, hBe⟩
theorem lPs9_walk {a b : Option Addr} {n m c d : Nat} {ps fs : List Int} {w : World} (hn : ps.length = n) (hm : fs.length = m) (ln : n ≤ maxLen) (lm : m ≤ maxLen) (ha : ARow w a ps) (hb : ARow w b fs) :
    Calls Try.prog 7 #[.agg #[.slice a n c, .slice b m d]] w fun e w' => e = .returned (.bool true) ∧ Below w.heap.size w w' := by
  by_cases h : n + m ≤ 1048576
  · exact lPs9_short hn hm h ha hb
  · exact lPs9_long ln lm (by omega)
end Go.Proofs.Ytjcieddfookpbaa
