/-
  At any profile GoodProfile answers as the model does: the law's own walk.
-/
import Derived.Test.YtnpajgmlkbfjgasPg
namespace Go.Proofs.Ytnpajgmlkbfjgas
open Go.RowKit

/-- What stays while a profile is held against its copy. -/
def Rest (w : World) (B x y : Nat) (ps fs : List Int) (w' : World) : Prop := Below w.heap.size w w' ∧ B < w'.heap.size ∧ ARow w' (some ⟨x, 0, none⟩) ps ∧ ARow w' (some ⟨y, 0, none⟩) fs
theorem Rest.below {w w1 w2 : World} {B x y : Nat} {ps fs : List Int} (h : Rest w B x y ps fs w1) (hb : Below w1.heap.size w1 w2) : Rest w B x y ps fs w2 :=
  ⟨h.1.trans (hb.mono h.1.size), Nat.lt_of_lt_of_le h.2.1 hb.size, h.2.2.1.below hb, h.2.2.2.below hb⟩
theorem rest_step {w w1 w2 : World} {B x y : Nat} {ps fs : List Int} {v0 v1 v2 v3 : Value} (hB : w.heap.size < B)
    (s : w1.cell? ⟨w.heap.size, 0, none⟩ = some v0 ∧ w1.cell? ⟨w.heap.size, 1, none⟩ = some v1 ∧ w1.cell? ⟨B, 0, none⟩ = some v2 ∧ w1.cell? ⟨B, 1, none⟩ = some v3 ∧ Rest w B x y ps fs w1) (hb : Below w1.heap.size w1 w2) :
    w2.cell? ⟨w.heap.size, 0, none⟩ = some v0 ∧ w2.cell? ⟨w.heap.size, 1, none⟩ = some v1 ∧ w2.cell? ⟨B, 0, none⟩ = some v2 ∧ w2.cell? ⟨B, 1, none⟩ = some v3 ∧ Rest w B x y ps fs w2 := by
  obtain ⟨s0, s1, s2, s3, s4⟩ := s
  have hl := s4.2.1
  obtain ⟨hc, _⟩ := bcell hb
  exact ⟨(hc _ _ (by omega)).trans s0, (hc _ _ (by omega)).trans s1, (hc _ _ (by omega)).trans s2, (hc _ _ (by omega)).trans s3, s4.below hb⟩

theorem toP_held {w w1 : World} {a b : Option Addr} {n m c d B x y : Nat} {ps fs : List Int} {v0 v1 v2 v3 : Value} (HA : Hid (ARow w a ps)) (HB : Hid (ARow w b fs)) (HN : Hid (ps.length = n)) (HM : Hid (fs.length = m)) (h : n + m ≤ 1048576)
    (s : w1.cell? ⟨w.heap.size, 0, none⟩ = some v0 ∧ w1.cell? ⟨w.heap.size, 1, none⟩ = some v1 ∧ w1.cell? ⟨B, 0, none⟩ = some v2 ∧ w1.cell? ⟨B, 1, none⟩ = some v3 ∧ Rest w B x y ps fs w1) :
    Calls Try.prog 39 #[.agg #[.slice a n c, .slice b m d]] w1 fun e w' => ∃ x3 y3, e = .returned (.agg #[.slice (some ⟨x3, 0, none⟩) n n, .slice (some ⟨y3, 0, none⟩) m m]) ∧ Below w1.heap.size w1 w' ∧ Hid (ARow w' (some ⟨x3, 0, none⟩) ps) ∧ Hid (ARow w' (some ⟨y3, 0, none⟩) fs) := by
  refine (toP_any HN.out HM.out (by omega) (by omega) (HA.out.below s.2.2.2.2.1) (HB.out.below s.2.2.2.2.1)).mono ?_
  rintro e w2 ⟨x1, y1, rfl, hb2, _, _, _, own1, own2⟩
  exact ⟨x1, y1, rfl, hb2, arow_owns HN.out.symm own1, arow_owns HM.out.symm own2⟩
theorem eqP_held {w w1 : World} {n m B x y x3 y3 : Nat} {ps fs : List Int} {v0 v1 v2 v3 : Value} (HN : Hid (ps.length = n)) (HM : Hid (fs.length = m)) (h : n + m ≤ 1048576)
    (s : w1.cell? ⟨w.heap.size, 0, none⟩ = some v0 ∧ w1.cell? ⟨w.heap.size, 1, none⟩ = some v1 ∧ w1.cell? ⟨B, 0, none⟩ = some v2 ∧ w1.cell? ⟨B, 1, none⟩ = some v3 ∧ Rest w B x y ps fs w1) (R3 : Hid (ARow w1 (some ⟨x3, 0, none⟩) ps)) (R4 : Hid (ARow w1 (some ⟨y3, 0, none⟩) fs)) :
    Calls Try.prog 31 #[.agg #[.slice (some ⟨x, 0, none⟩) n n, .slice (some ⟨y, 0, none⟩) m m], .agg #[.slice (some ⟨x3, 0, none⟩) n n, .slice (some ⟨y3, 0, none⟩) m m]] w1 fun e w' => e = .returned (.bool true) ∧ Below w1.heap.size w1 w' :=
  eqP_any HN.out HM.out (by omega) (by omega) s.2.2.2.2.2.2.1 s.2.2.2.2.2.2.2 R3.out R4.out

set_option maxHeartbeats 1000000 in
theorem lGoodP_long {a b : Option Addr} {n m c d : Nat} {w : World} (hn : n ≤ maxLen) (hm : m ≤ maxLen) (h : 1048576 < n + m) :
    Calls Try.prog 8 #[.agg #[.slice a n c, .slice b m d]] w fun e w' => e = .returned (.bool true) ∧ Below w.heap.size w w' := by
  go_enter Try.func8, Try.ntmps8
  go_wp2_with fail
  refine (szP_no (by omega) (by omega) hn hm (by omega)).mono ?_
  rintro e w1 ⟨rfl, hb1⟩
  go_wp2_with fail
  go_ret
  exact ⟨rfl, ((Below.refl _ _).alloc (Nat.le_refl _) _).trans (hb1.mono (by simp))⟩

set_option maxHeartbeats 4000000 in
theorem lGoodP_short {a b : Option Addr} {n m c d : Nat} {ps fs : List Int} {w : World} (hn : ps.length = n) (hm : fs.length = m) (h : n + m ≤ 1048576) (ha : ARow w a ps) (hb : ARow w b fs) :
    Calls Try.prog 8 #[.agg #[.slice a n c, .slice b m d]] w fun e w' => e = .returned (.bool true) ∧ Below w.heap.size w w' := by
  have HA := hide ha
  have HB := hide hb
  have HN := hide hn
  have HM := hide hm
  have hne : (Pf.goodP ps fs != Pf.goodP ps fs) = false := by simp
  have hl : ¬ (1048576 : Int) - (n : Int) - (m : Int) < 0 := by omega
  generalize hgp : Pf.goodP ps fs = G at hne
  have HG := hide hgp
  clear ha hb hn hm hgp
  go_enter Try.func8, Try.ntmps8
  go_wp2_with fail
  refine (szP_yes (by omega) (by omega) (by omega)).mono ?_
  rintro e w1 ⟨rfl, hb1⟩
  have hB1 : Below w.heap.size w w1 := (below_new _ _).trans (hb1.mono (by simp))
  obtain ⟨p0, p1, z1⟩ := (PBox.new w _ _ _).below hb1
  go_wp2_with fail
  refine (toP_any HN.out HM.out (by omega) (by omega) (HA.out.below hB1) (HB.out.below hB1)).mono ?_
  rintro e w2 ⟨x1, y1, rfl, hb2, _, _, _, own1, own2⟩
  have hB2 : Below w.heap.size w w2 := hB1.trans (hb2.mono hB1.size)
  obtain ⟨p0', p1', z2⟩ := PBox.below ⟨p0, p1, z1⟩ hb2
  have R1 := hide (arow_owns HN.out.symm own1)
  have R2 := hide (arow_owns HM.out.symm own2)
  clear p0 p1 own1 own2
  go_wp2_with fail
  refine (show Calls Try.prog 38 #[.agg #[.slice (some ⟨x1, 0, none⟩) n n, .slice (some ⟨y1, 0, none⟩) m m]] w2 fun e w' => e = .returned (.bool G) ∧ Below w2.heap.size w2 w' from ?_).mono ?_
  · have := sgp_eq (c := n) (d := m) R1.out R2.out HG.out
    rwa [HN.out, HM.out] at this
  rintro e w3 ⟨rfl, hb3⟩
  have hB3 : Below w.heap.size w w3 := hB2.trans (hb3.mono hB2.size)
  obtain ⟨p0, p1, z3⟩ := PBox.below ⟨p0', p1', z2⟩ hb3
  clear p0' p1' R1 R2
  go_wp2_with fail
  refine (toP_any HN.out HM.out (by omega) (by omega) (HA.out.below hB3) (HB.out.below hB3)).mono ?_
  rintro e w4 ⟨x2, y2, rfl, hb4, _, _, _, own1, own2⟩
  have hB4 : Below w.heap.size w w4 := hB3.trans (hb4.mono hB3.size)
  have bn := below_new w4 (.cells #[.slice (some ⟨x2, 0, none⟩) n n, .slice (some ⟨y2, 0, none⟩) m m] 56)
  obtain ⟨p0', p1', z4⟩ := (PBox.below ⟨p0, p1, z3⟩ hb4)
  have R1 := hide ((arow_owns HN.out.symm own1).below bn)
  have R2 := hide ((arow_owns HM.out.symm own2).below bn)
  have HPB := hide (PBox.below ⟨p0', p1', z4⟩ bn)
  have hB5 := hB4.trans (bn.mono hB4.size)
  clear p0 p1 own1 own2 p0' p1'
  go_wp2_with fail
  refine (show Calls Try.prog 40 #[.agg #[.slice (some ⟨x2, 0, none⟩) n n, .slice (some ⟨y2, 0, none⟩) m m]] (w4.alloc (.cells #[.slice (some ⟨x2, 0, none⟩) n n, .slice (some ⟨y2, 0, none⟩) m m] 56)) fun e w' => e = .returned (.bool G) ∧ Below (w4.alloc (.cells #[.slice (some ⟨x2, 0, none⟩) n n, .slice (some ⟨y2, 0, none⟩) m m] 56)).heap.size (w4.alloc (.cells #[.slice (some ⟨x2, 0, none⟩) n n, .slice (some ⟨y2, 0, none⟩) m m] 56)) w' from ?_).mono ?_
  · have := gp_eq (c := n) (d := m) R1.out R2.out HG.out
    rwa [HN.out, HM.out] at this
  rintro e w5 ⟨rfl, hb5⟩
  obtain ⟨p0, p1, z5⟩ := HPB.out.below hb5
  obtain ⟨p2, p3, z6⟩ := (PBox.new w4 _ _ _).below hb5
  have hR : Rest w w4.heap.size x2 y2 ps fs w5 := ⟨hB5.trans (hb5.mono hB5.size), z6, R1.out.below hb5, R2.out.below hb5⟩
  have hlt : w.heap.size < w4.heap.size := z4
  clear HPB R1 R2 hb5 hB5 hB4 hB3 hB2 hB1 bn
  go_wp2_with fail
  go_region_held3 (fun w' => w'.cell? ⟨w.heap.size, 0, none⟩ = some (.slice a n c) ∧ w'.cell? ⟨w.heap.size, 1, none⟩ = some (.slice b m d) ∧ w'.cell? ⟨w4.heap.size, 0, none⟩ = some (.slice (some ⟨x2, 0, none⟩) n n) ∧ w'.cell? ⟨w4.heap.size, 1, none⟩ = some (.slice (some ⟨y2, 0, none⟩) m m) ∧ Rest w w4.heap.size x2 y2 ps fs w')
    (first | exact ⟨p0, p1, p2, p3, hR.below (below_drewN (Below.refl _ _) 1)⟩ | assumption | exact rest_step hlt ‹_› (by assumption))
    (first
    | (go_at_call 39; refine (toP_held HA HB HN HM h (by assumption)).mono ?_; rintro e w1 ⟨x3, y3, rfl, hb1, R3, R4⟩)
    | (go_at_call 31; refine (eqP_held HN HM h (by assumption) (by assumption) (by assumption)).mono ?_; rintro e w1 ⟨rfl, hb1⟩))
  obtain ⟨_, _, _, _, hR'⟩ := ‹_ ∧ _ ∧ _ ∧ _ ∧ _›
  have hBe := hR'.1
  clear hR hR'
  go_wp2_with fail
  go_ret
  exact ⟨rfl, hBe⟩
theorem lGoodP_walk {a b : Option Addr} {n m c d : Nat} {ps fs : List Int} {w : World} (hn : ps.length = n) (hm : fs.length = m) (ln : n ≤ maxLen) (lm : m ≤ maxLen) (ha : ARow w a ps) (hb : ARow w b fs) :
    Calls Try.prog 8 #[.agg #[.slice a n c, .slice b m d]] w fun e w' => e = .returned (.bool true) ∧ Below w.heap.size w w' := by
  by_cases h : n + m ≤ 1048576
  · exact lGoodP_short hn hm h ha hb
  · exact lGoodP_long ln lm (by omega)
end Go.Proofs.Ytnpajgmlkbfjgas
