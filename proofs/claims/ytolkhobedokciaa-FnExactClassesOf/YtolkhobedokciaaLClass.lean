/-
  At any profile ClassesOf answers as the model does, in memory of its own: the law's own walk.
-/
import Derived.Test.YtolkhobedokciaaLGoodP
import Derived.Test.YtolkhobedokciaaPn
import Derived.Test.YtolkhobedokciaaPl
namespace Go.Proofs.Ytolkhobedokciaa
open Go.RowKit

set_option maxHeartbeats 1000000 in
theorem lClass_long {a b : Option Addr} {n m c d : Nat} {w : World} (hn : n ≤ maxLen) (hm : m ≤ maxLen) (h : 1048576 < n + m) :
    Calls Try.prog 4 #[.agg #[.slice a n c, .slice b m d]] w fun e w' => e = .returned (.bool true) ∧ Below w.heap.size w w' := by
  go_enter Try.func4, Try.ntmps4
  go_wp2_with fail
  refine (szP_no (by omega) (by omega) hn hm (by omega)).mono ?_
  rintro e w1 ⟨rfl, hb1⟩
  go_wp2_with fail
  go_ret
  exact ⟨rfl, ((Below.refl _ _).alloc (Nat.le_refl _) _).trans (hb1.mono (by simp))⟩

set_option maxHeartbeats 8000000 in
theorem lClass_short {a b : Option Addr} {n m c d r : Nat} {ok : Bool} {ps fs R : List Int} {w : World} (hn : ps.length = n) (hm : fs.length = m) (hr : R.length = r) (h : n + m ≤ 1048576) (hr' : r ≤ 1048576) (ha : ARow w a ps) (hb : ARow w b fs)
    (Hs : Hid (∀ W x y, ARow W (some ⟨x, 0, none⟩) ps → ARow W (some ⟨y, 0, none⟩) fs → Calls Try.prog 13 #[.agg #[.slice (some ⟨x, 0, none⟩) n n, .slice (some ⟨y, 0, none⟩) m m]] W fun e w' => ∃ v, e = .returned (.tuple #[v, .bool ok]) ∧ Below W.heap.size W w' ∧ w'.ownsRow W.heap.size 3 1 v r (ints R)))
    (Hi : Hid (∀ W x y, ARow W (some ⟨x, 0, none⟩) ps → ARow W (some ⟨y, 0, none⟩) fs → Calls Try.prog 15 #[.agg #[.slice (some ⟨x, 0, none⟩) n n, .slice (some ⟨y, 0, none⟩) m m]] W fun e w' => ∃ v, e = .returned (.tuple #[v, .bool ok]) ∧ Below W.heap.size W w' ∧ w'.ownsRow W.heap.size 3 1 v r (ints R))) :
    Calls Try.prog 4 #[.agg #[.slice a n c, .slice b m d]] w fun e w' => e = .returned (.bool true) ∧ Below w.heap.size w w' := by
  have HA := hide ha
  have HB := hide hb
  have HN := hide hn
  have HM := hide hm
  have HR := hide hr
  have hne : (ok != ok) = false := by simp
  have hl : ¬ (1048576 : Int) - (n : Int) - (m : Int) < 0 := by omega
  clear ha hb hn hm hr
  go_enter Try.func4, Try.ntmps4
  go_wp2_with fail
  refine (szP_yes (by omega) (by omega) (by omega)).mono ?_
  rintro e w1 ⟨rfl, hb1⟩
  have hB1 : Below w.heap.size w w1 := (below_new _ _).trans (hb1.mono (by simp))
  obtain ⟨p0, p1, z1⟩ := (PBox.new w _ _ _).below hb1
  go_wp2_with fail
  refine (toP_any HN.out HM.out (by omega) (by omega) (HA.out.below hB1) (HB.out.below hB1)).mono ?_
  rintro e w2 ⟨x1, y1, rfl, hb2, _, _, _, own1, own2⟩
  have hB2 : Below w.heap.size w w2 := hB1.trans (hb2.mono hB1.size)
  obtain ⟨p0', p1', z2⟩ := PBox.below ⟨p0, p1, z1⟩ hb2
  have R1 := hide (arow_owns HN.out.symm own1)
  have R2 := hide (arow_owns HM.out.symm own2)
  clear p0 p1 own1 own2
  go_wp2_with fail
  refine (Hs.out _ _ _ R1.out R2.out).mono ?_
  rintro e w3 ⟨v0, rfl, hb3, own0⟩
  have HV0 := hide own0
  have hB3 : Below w.heap.size w w3 := hB2.trans (hb3.mono hB2.size)
  obtain ⟨p0, p1, z3⟩ := PBox.below ⟨p0', p1', z2⟩ hb3
  clear p0' p1' R1 R2 own0 hb1 hb2 hb3 hB1 hB2
  go_wp2_with fail
  refine (toP_any HN.out HM.out (by omega) (by omega) (HA.out.below hB3) (HB.out.below hB3)).mono ?_
  rintro e w4 ⟨x2, y2, rfl, hb4, lx1, lxy, ly1, own1, own2⟩
  have hB4 : Below w.heap.size w w4 := hB3.trans (hb4.mono hB3.size)
  have bn := below_new w4 (.cells #[.slice (some ⟨x2, 0, none⟩) n n, .slice (some ⟨y2, 0, none⟩) m m] 33)
  obtain ⟨p0', p1', z4⟩ := (PBox.below ⟨p0, p1, z3⟩ hb4)
  have X1 := hide (owns_keep own1 (bn.block x2 (by omega)))
  have X2 := hide (owns_keep own2 (bn.block y2 (by omega)))
  have HPB := hide (PBox.below ⟨p0', p1', z4⟩ bn)
  have hB5 := hB4.trans (bn.mono hB4.size)
  have hS5 := hb4.trans (bn.mono hb4.size)
  have zs4 := hb4.size
  clear p0 p1 own1 own2 p0' p1' hb4
  go_wp2_with fail
  refine (Hi.out _ _ _ (arow_owns HN.out.symm X1.out) (arow_owns HM.out.symm X2.out)).mono ?_
  rintro e w5 ⟨v1, rfl, hb5, own5⟩
  have HV1 := hide own5
  have X1' := hide (owns_keep X1.out (hb5.block x2 (by simp; omega)))
  have X2' := hide (owns_keep X2.out (hb5.block y2 (by simp; omega)))
  have HPB5 := hide (HPB.out.below hb5)
  have HX5 := hide ((PBox.new w4 (.slice (some ⟨x2, 0, none⟩) n n) (.slice (some ⟨y2, 0, none⟩) m m) 33).below hb5)
  have hB6 := hB5.trans (hb5.mono hB5.size)
  have hS6 := hS5.trans (hb5.mono hS5.size)
  have zs5 : w4.heap.size + 1 ≤ w5.heap.size := by simpa using hb5.size
  simp only [World.size_alloc] at HV1
  clear HPB X1 X2 hB5 hB4 hb5 bn own5 hS5
  go_wp2_with fail
  refine (eqV_any HR.out hr' HV1.out (own_below (own_keep HV0.out (fun g hg hl => hS6.block g hl)) (Below.refl _ _))).mono ?_
  rintro e w6 ⟨rfl, hb6⟩
  have zs6 := hb6.size
  have HV1a := hide (own_below HV1.out hb6)
  have X1a := hide (owns_keep X1'.out (hb6.block x2 (by omega)))
  have X2a := hide (owns_keep X2'.out (hb6.block y2 (by omega)))
  have hS7 := hS6.trans (hb6.mono hS6.size)
  obtain ⟨p0, p1, z5⟩ := HPB5.out.below hb6
  obtain ⟨p2, p3, z6⟩ := HX5.out.below hb6
  have hB7 := hB6.trans (hb6.mono hB6.size)
  have hR : Rest w w4.heap.size x2 y2 ps fs w6 := ⟨hB7, z6, arow_owns HN.out.symm X1a.out, arow_owns HM.out.symm X2a.out⟩
  have hlt : w.heap.size < w4.heap.size := z4
  have K6 := hide (Below.refl w6.heap.size w6)
  clear HPB5 HX5 X1' X2' hB6 hB7 HV1 hS6 hb6
  go_wp2_with fail
  go_region_held3 (fun w' => w'.cell? ⟨w.heap.size, 0, none⟩ = some (.slice a n c) ∧ w'.cell? ⟨w.heap.size, 1, none⟩ = some (.slice b m d) ∧ w'.cell? ⟨w4.heap.size, 0, none⟩ = some (.slice (some ⟨x2, 0, none⟩) n n) ∧ w'.cell? ⟨w4.heap.size, 1, none⟩ = some (.slice (some ⟨y2, 0, none⟩) m m) ∧ Rest' w w4.heap.size x2 y2 ps fs w6 w')
    (first | exact ⟨p0, p1, p2, p3, hR.below (below_drewN (Below.refl _ _) 1), below_drewN (Below.refl _ _) 1⟩ | assumption | exact rest_step' hlt ‹_› (by assumption))
    (first
    | (go_at_call 14; refine (toP_held HA HB HN HM h (rest_of (by assumption))).mono ?_; rintro e w6a ⟨x3, y3, rfl, hb6a, R3, R4⟩)
    | (go_at_call 16; refine (eqP_held HN HM h (rest_of (by assumption)) (by assumption) (by assumption)).mono ?_; rintro e w7 ⟨rfl, hb7⟩))
  obtain ⟨p0', p1', p2', p3', hR', hK⟩ := ‹_ ∧ _ ∧ _ ∧ _ ∧ _›
  have hB8 := hR'.1
  have z7 := hK.size
  have X1b := hide (owns_keep X1a.out (hK.block x2 (by omega)))
  have X2b := hide (owns_keep X2a.out (hK.block y2 (by omega)))
  have HV1b := hide (own_below HV1a.out hK)
  have hS8 := hS7.trans (hK.mono hS7.size)
  clear p0 p1 p2 p3 hR hR' hK X1a X2a HV1a hS7 K6 hb7 hb6a R3 R4
  go_wp2_with fail
  refine (markP_any HN.out HM.out (by omega) (by omega) (by omega) (by omega) (by omega) X1b.out X2b.out).mono ?_
  rintro e w8 ⟨rfl, _, _, hoff⟩
  have z8 := hoff.size
  have hB9 : Below w.heap.size w w8 := hB8.trans (hoff.below (by omega) (by omega) (by omega))
  have hS9 : Below w3.heap.size w3 w8 := hS8.trans (hoff.below (by omega) (by omega) (by omega))
  have HV1c := hide (own_keep HV1b.out (fun g hg hl => hoff.block g hl (by have := HV1b.out.lt g hg; omega) (by have := HV1b.out.lt g hg; omega)))
  have p0 : w8.cell? ⟨w.heap.size, 0, none⟩ = some (.slice a n c) := (World.cell?_of_block (w := w7) (a := ⟨w.heap.size, 0, none⟩) (hoff.block w.heap.size (by omega) (by omega) (by omega))).trans p0'
  have p1 : w8.cell? ⟨w.heap.size, 1, none⟩ = some (.slice b m d) := (World.cell?_of_block (w := w7) (a := ⟨w.heap.size, 1, none⟩) (hoff.block w.heap.size (by omega) (by omega) (by omega))).trans p1'
  have hk : ¬ (1 : Int) + (n : Int) + (m : Int) < 0 := by omega
  clear hoff X1b X2b HV1b hB8 hS8 p0' p1' p2' p3'
  go_wp2_with ((go_at_call 9; refine (eqV_any HR.out hr' HV1c.out (own_keep HV0.out (fun g hg hl => hS9.block g hl))).mono ?_; rintro e w9 ⟨rfl, hb9⟩))
  have z9 := hb9.size
  have HV1d := hide (own_below HV1c.out hb9)
  have hB10 := hB9.trans (hb9.mono hB9.size)
  have hS10 := hS9.trans (hb9.mono hS9.size)
  obtain ⟨p0', p1', z10⟩ := PBox.below ⟨p0, p1, by omega⟩ hb9
  clear hb9 HV1c p0 p1 hB9 hS9
  refine (markV_any HR.out hr' (by omega) (by omega) HV1d.out).mono ?_
  rintro e w10 ⟨rfl, HH, hg10⟩
  have H10 := hide HH
  have z11 := hg10.size
  have hB11 := hB10.trans (grown_under hg10 HV1d.out (by omega) hB10.size)
  have hS11 := hS10.trans (grown_under hg10 HV1d.out (by omega) hS10.size)
  have q0 : w10.cell? ⟨w.heap.size, 0, none⟩ = some (.slice a n c) := (World.cell?_of_block (w := w9) (a := ⟨w.heap.size, 0, none⟩) (hg10.block w.heap.size z10 (fun he => by have := HV1d.out.lt _ he.symm; omega))).trans p0'
  have q1 : w10.cell? ⟨w.heap.size, 1, none⟩ = some (.slice b m d) := (World.cell?_of_block (w := w9) (a := ⟨w.heap.size, 1, none⟩) (hg10.block w.heap.size z10 (fun he => by have := HV1d.out.lt _ he.symm; omega))).trans p1'
  clear HH hg10 hB10 hS10 p0' p1' HV1d
  go_wp2_with fail
  refine (heldV_any hr' (by omega) (by omega) H10.out).mono ?_
  rintro e w11 ⟨rfl, hw⟩
  obtain rfl : w10 = w11 := hw.symm
  have hq0 : ¬ (1 : Int) + (r : Int) < 0 := by omega
  have hnm : ((1 : Int) + (r : Int) != 1 + (r : Int)) = false := by simp
  go_wp2_with fail
  refine (toP_any HN.out HM.out (by omega) (by omega) (HA.out.below hB11) (HB.out.below hB11)).mono ?_
  rintro e w12 ⟨x4, y4, rfl, hb12, _, _, _, own1, own2⟩
  have R1 := hide (arow_owns HN.out.symm own1)
  have R2 := hide (arow_owns HM.out.symm own2)
  have hB12 := hB11.trans (hb12.mono hB11.size)
  have hS12 := hS11.trans (hb12.mono hS11.size)
  have H12 := hide (H10.out.below hb12)
  clear own1 own2 hb12 H10 hB11 hS11 q0 q1
  go_wp2_with fail
  refine (Hi.out _ _ _ R1.out R2.out).mono ?_
  rintro e w13 ⟨v3, rfl, hb13, own13⟩
  have HV3 := hide own13
  have hB13 := hB12.trans (hb13.mono hB12.size)
  have hS13 := hS12.trans (hb13.mono hS12.size)
  have H13 := hide (H12.out.below hb13)
  clear own13 hb13 hB12 hS12 H12 R1 R2
  go_wp2_with fail
  refine (eqV_any HR.out hr' HV3.out (own_keep HV0.out (fun g hg hl => hS13.block g hl))).mono ?_
  rintro e w14 ⟨rfl, hb14⟩
  have hB14 := hB13.trans (hb14.mono hB13.size)
  have H14 := hide (H13.out.below hb14)
  clear hb14 H13 hB13 hS13 HV3 HV0
  go_wp2_with fail
  refine (heldV_any hr' (by omega) (by omega) H14.out).mono ?_
  rintro e w15 ⟨rfl, hw⟩
  obtain rfl : w14 = w15 := hw.symm
  go_wp2_with fail
  go_ret
  exact ⟨rfl, hB14⟩

theorem lClass_walk {a b : Option Addr} {c d : Nat} {ps fs : List Int} {w : World} (ln : ps.length ≤ maxLen) (lm : fs.length ≤ maxLen) (ha : ARow w a ps) (hb : ARow w b fs) :
    Calls Try.prog 4 #[.agg #[.slice a ps.length c, .slice b fs.length d]] w fun e w' => e = .returned (.bool true) ∧ Below w.heap.size w w' := by
  by_cases h : ps.length + fs.length ≤ 1048576
  · cases hg : Pf.goodP ps fs
    · exact lClass_short (r := 0) (R := []) rfl rfl rfl h (by omega) ha hb
        (hide fun W x y h1 h2 => (sco_bad rfl rfl h1 h2 hg).mono fun e w' ⟨he, hb⟩ => ⟨_, he, hb, World.ownsRow_nil w' W.heap.size 3 1⟩)
        (hide fun W x y h1 h2 => (co_bad rfl rfl h1 h2 hg).mono fun e w' ⟨he, hb⟩ => ⟨_, he, hb, World.ownsRow_nil w' W.heap.size 3 1⟩)
    · exact lClass_short (r := ps.length) (R := clsOf ps) rfl rfl (clsOf_len ps) h (by omega) ha hb
        (hide fun W x y h1 h2 => (sco_good rfl rfl h1 h2 hg).mono fun e w' ⟨g, he, hb, ho⟩ => ⟨_, he, hb, ho⟩)
        (hide fun W x y h1 h2 => (co_good rfl rfl h1 h2 hg).mono fun e w' ⟨g, he, hb, ho⟩ => ⟨_, he, hb, ho⟩)
  · exact lClass_long ln lm (by omega)
end Go.Proofs.Ytolkhobedokciaa
