/-
  At any costs and prices PricesHold answers as the model does: the law's own walk.
-/
import Derived.Test.YtcniegaogdggaaaQu
namespace Go.Proofs.Ytcniegaogdggaaa
open Go.RowKit

/-- What a variable with two fields holds, and that nothing that was there has turned. -/
def Bx9 (w0 : World) (B : Nat) (v0 v1 : Value) (w : World) : Prop := w.cell? ⟨B, 0, none⟩ = some v0 ∧ w.cell? ⟨B, 1, none⟩ = some v1 ∧ Below w0.heap.size w0 w ∧ w0.heap.size ≤ w.heap.size
set_option maxHeartbeats 1000000 in
theorem lPh9_long0 {e a b : Option Addr} {l n m f c d : Nat} {w : World} (hm : l ≤ maxLen) (h : 1048576 < l) :
    Calls Try.prog 6 #[.slice e l f, .agg #[.slice a n c, .slice b m d]] w fun e w' => e = .returned (.bool true) ∧ Below w.heap.size w w' := by
  go_enter Try.func6, Try.ntmps6
  go_wp2_with fail
  refine (szC_long (by omega) (by omega) hm (by omega)).mono ?_
  rintro e w1 ⟨rfl, rfl⟩
  go_wp2_with fail
  go_ret
  exact ⟨rfl, below_new _ _⟩
set_option maxHeartbeats 8000000 in
theorem lPh9_main {e a b : Option Addr} {l n m f c d : Nat} {C : List (List Int)} {us vs : List Int} {w : World} (HL : Hid (C.length = l)) (hl : l ≤ 1048576) (HF : Hid (CFits C)) (HC : Hid (CRow w e C)) (HN : Hid (us.length = n)) (HM : Hid (vs.length = m)) (ln : n ≤ maxLen) (lm : m ≤ maxLen) (HA : Hid (ARow w a us)) (HB : Hid (ARow w b vs)) :
    Calls Try.prog 6 #[.slice e l f, .agg #[.slice a n c, .slice b m d]] w fun e w' => e = .returned (.bool true) ∧ Below w.heap.size w w' := by
  have HS := hide fun (W : World) (x y z : Nat) (r0 : CRow W (some ⟨x, 0, none⟩) C) (r1 : ARow W (some ⟨y, 0, none⟩) us) (r2 : ARow W (some ⟨z, 0, none⟩) vs) => sph_w (w := W) (f := l) (c := n) (d := m) HL.out hl HN.out HM.out r0 r1 r2
  have HI := hide fun (W : World) (x y z : Nat) (r0 : CRow W (some ⟨x, 0, none⟩) C) (r1 : ARow W (some ⟨y, 0, none⟩) us) (r2 : ARow W (some ⟨z, 0, none⟩) vs) => ph_w (w := W) (f := l) (c := n) (d := m) HL.out HN.out HM.out r0 r1 r2
  generalize Hu.phI C us vs = G at HS HI
  generalize Hu.bothB C us vs = T at HS HI
  have hneG : (G != G) = false := by simp
  have hneT : (T != T) = false := by simp
  obtain ⟨w0, hw0⟩ : ∃ w0, w0 = w.alloc (.cells #[.slice a n c, .slice b m d] 40) := ⟨_, rfl⟩
  have bn := below_new w (.cells #[.slice a n c, .slice b m d] 40)
  obtain ⟨p0, p1, p2⟩ := PBox.new w (.slice a n c) (.slice b m d) 40
  have HW : Hid (w.alloc (.cells #[.slice a n c, .slice b m d] 40) = w0) := hide hw0.symm
  rw [← hw0] at bn p0 p1 p2
  have HC0 := hide (HC.out.below bn)
  have HA0 := hide (HA.out.below bn)
  have HB0 := hide (HB.out.below bn)
  have HBn := hide bn
  clear HC hw0 bn
  go_enter Try.func6, Try.ntmps6
  go_wp2_with fail
  rw [HW.out]
  clear HW
  refine (szC_any HL.out (by omega) (by omega) (by omega) HF.out HC0.out).mono ?_
  rintro e w1 ⟨r, rfl, hr1, hr2, hw1⟩
  obtain rfl : w0 = w1 := hw1.symm
  rcases hr2 with rfl | ⟨hr0, hsh⟩
  · go_wp2_with fail
    go_ret
    exact ⟨rfl, HBn.out⟩
  have HSh := hide hsh
  have hr3 : ¬ r < 0 := by omega
  clear hsh
  by_cases hnm : (n : Int) + m ≤ r
  rotate_left
  · go_wp2_with fail
    refine (szPr_no hr0 hr1 ln lm (by omega)).mono ?_
    rintro e w1 ⟨rfl, hb1⟩
    have HB1 := hide (HBn.out.trans (hb1.mono HBn.out.size))
    clear hb1
    go_wp2_with fail
    go_ret
    exact ⟨rfl, HB1.out⟩
  have hr4 : ¬ r - (n : Int) - (m : Int) < 0 := by omega
  go_wp2_with fail
  refine (szPr_yes hr0 hr1 hnm).mono ?_
  rintro e w1 ⟨rfl, hb1⟩
  obtain ⟨q0, q1, q2⟩ := PBox.below ⟨p0, p1, p2⟩ hb1
  have HC1 := hide (HC0.out.below hb1)
  have HA1 := hide (HA0.out.below hb1)
  have HB1 := hide (HB0.out.below hb1)
  have HBn1 := hide (HBn.out.trans (hb1.mono HBn.out.size))
  clear hb1 HC0 HA0 HB0 HBn p0 p1 p2
  have n20 : n ≤ 1048576 := by omega
  have m20 : m ≤ 1048576 := by omega
  go_wp2_with fail
  go_region_held3 (fun w' => w'.cell? ⟨w.heap.size, 0, none⟩ = some (.slice a n c) ∧ w'.cell? ⟨w.heap.size, 1, none⟩ = some (.slice b m d) ∧ Below w1.heap.size w1 w' ∧ w1.heap.size ≤ w'.heap.size)
    (first | exact ⟨q0, q1, (Below.refl _ _).drew, Nat.le_refl _⟩ | assumption | exact two_call8 q2 q2 ‹_› (by assumption) | fail)
    (first
    | (go_at_call 11; obtain ⟨_, _, hbS, _⟩ := ‹_ ∧ _ ∧ _ ∧ _›; refine (toC_own HL.out hl HSh.out (HC1.out.below hbS)).mono ?_; rintro e w2 ⟨rfl, hb2, o2⟩; have RC := hide o2.row; clear o2)
    | (go_at_call 28; obtain ⟨_, _, hbS, _⟩ := ‹_ ∧ _ ∧ _ ∧ _›; have RC := ‹Hid (CRow _ _ C)›; refine (toPr_any HN.out HM.out n20 m20 (HA1.out.below hbS) (HB1.out.below hbS)).mono ?_; rintro e w3 ⟨x3, y3, rfl, hb3, _, _, _, ow1, ow2⟩; have RC3 := hide (RC.out.below hb3); have RA3 := hide (arow_owns HN.out.symm ow1); have RB3 := hide (arow_owns HM.out.symm ow2); clear ow1 ow2)
    | (go_at_call 27; refine (HS.out _ _ _ _ (Hid.out (by assumption)) (Hid.out (by assumption)) (Hid.out (by assumption))).mono ?_; rintro e w4 ⟨rfl, hb4⟩)
    | fail)
  obtain ⟨c0, c1, hbE, _⟩ := ‹_ ∧ _ ∧ _ ∧ _›
  have HBn4 := hide (HBn1.out.trans (hbE.mono HBn1.out.size))
  have HC4 := hide (HC1.out.below hbE)
  have HA4 := hide (HA1.out.below hbE)
  have HB4 := hide (HB1.out.below hbE)
  have z4 : w.heap.size < w4.heap.size := Nat.lt_of_lt_of_le q2 hbE.size
  clear hb4 hb3 hb2 RC RC3 RA3 RB3 hbS hbE HC1 HA1 HB1 HBn1 q0 q1 q2
  go_wp2_with fail
  refine (toC_own HL.out hl HSh.out HC4.out).mono ?_
  rintro e w5 ⟨rfl, hb5, o5⟩
  obtain ⟨d0, d1, z5⟩ := PBox.below ⟨c0, c1, z4⟩ hb5
  have HBn5 := hide (HBn4.out.trans (hb5.mono HBn4.out.size))
  have R5 := hide o5.row
  have HC5 := hide (HC4.out.below hb5)
  have HA5 := hide (HA4.out.below hb5)
  have HB5 := hide (HB4.out.below hb5)
  clear o5 hb5 HBn4 HC4 HA4 HB4 c0 c1
  go_wp2_with fail
  refine (toPr_any HN.out HM.out n20 m20 HA5.out HB5.out).mono ?_
  rintro e w6 ⟨x6, y6, rfl, hb6, _, _, _, ow1, ow2⟩
  have bn6 := below_new w6 (.cells #[.slice (some ⟨x6, 0, none⟩) n n, .slice (some ⟨y6, 0, none⟩) m m] 29)
  have hbz := below_in hb6 bn6
  have HP6 := hide (PBox.below ⟨d0, d1, z5⟩ hbz)
  have HBn6 := hide (HBn5.out.trans (hbz.mono HBn5.out.size))
  have R6 := hide (R5.out.below hbz)
  have HC6 := hide (HC5.out.below hbz)
  have RA6 := hide ((arow_owns HN.out.symm ow1).below bn6)
  have RB6 := hide ((arow_owns HM.out.symm ow2).below bn6)
  have hlt6 : w.heap.size < w6.heap.size := Nat.lt_of_lt_of_le z5 hb6.size
  clear ow1 ow2 hb6 bn6 hbz HBn5 R5 HC5 HA5 HB5 d0 d1
  go_wp2_with fail
  refine (HI.out _ _ _ _ R6.out RA6.out RB6.out).mono ?_
  rintro e w7 ⟨rfl, hb7⟩
  have HP7 := hide (HP6.out.below hb7)
  have HQ7 := hide ((PBox.new w6 (.slice (some ⟨x6, 0, none⟩) n n) (.slice (some ⟨y6, 0, none⟩) m m) 29).below hb7)
  have HBn7 := hide (HBn6.out.trans (hb7.mono HBn6.out.size))
  have R7 := hide (R6.out.below hb7)
  have HC7 := hide (HC6.out.below hb7)
  have RA7 := hide (RA6.out.below hb7)
  have RB7 := hide (RB6.out.below hb7)
  clear hb7 HP6 HBn6 R6 HC6 RA6 RB6
  go_wp2_with fail
  refine (toC_own HL.out hl HSh.out HC7.out).mono ?_
  rintro e w8 ⟨rfl, hb8, o8⟩
  have HP8 := hide (HP7.out.below hb8)
  have HQ8 := hide (HQ7.out.below hb8)
  have HBn8 := hide (HBn7.out.trans (hb8.mono HBn7.out.size))
  have R8 := hide (R7.out.below hb8)
  have S8 := hide o8.row
  have RA8 := hide (RA7.out.below hb8)
  have RB8 := hide (RB7.out.below hb8)
  clear hb8 o8 HP7 HQ7 HBn7 R7 HC7 RA7 RB7
  go_wp2_with fail
  refine (eqC_b HL.out hl HSh.out R8.out S8.out).mono ?_
  rintro e w9 ⟨rfl, hb9⟩
  obtain ⟨p0, p1, z9⟩ := HP8.out.below hb9
  obtain ⟨p2, p3, z10⟩ := HQ8.out.below hb9
  have hR : Rst9 w w6.heap.size x6 y6 us vs w9 := ⟨HBn8.out.trans (hb9.mono HBn8.out.size), z10, RA8.out.below hb9, RB8.out.below hb9⟩
  have h20 : n + m ≤ 1048576 := by omega
  clear hb9 HP8 HQ8 HBn8 R8 S8 RA8 RB8
  go_wp2_with fail
  go_region_held3 (fun w' => w'.cell? ⟨w.heap.size, 0, none⟩ = some (.slice a n c) ∧ w'.cell? ⟨w.heap.size, 1, none⟩ = some (.slice b m d) ∧ w'.cell? ⟨w6.heap.size, 0, none⟩ = some (.slice (some ⟨x6, 0, none⟩) n n) ∧ w'.cell? ⟨w6.heap.size, 1, none⟩ = some (.slice (some ⟨y6, 0, none⟩) m m) ∧ Rst9 w w6.heap.size x6 y6 us vs w')
    (first | exact ⟨p0, p1, p2, p3, hR.below (below_drewN (Below.refl _ _) 1)⟩ | assumption | exact rst9_step hlt6 ‹_› (by assumption))
    (first
    | (go_at_call 28; refine (toPr_held HA HB HN HM h20 (by assumption)).mono ?_; rintro e wx ⟨x7, y7, rfl, hbx, R3, R4⟩)
    | (go_at_call 17; refine (eqPr_held HN HM h20 (by assumption) (by assumption) (by assumption)).mono ?_; rintro e wy ⟨rfl, hby⟩))
  obtain ⟨_, _, _, _, hR'⟩ := ‹_ ∧ _ ∧ _ ∧ _ ∧ _›
  have hBe := hR'.1
  clear hR hR'
  go_wp2_with fail
  go_ret
  exact ⟨rfl, hBe⟩
theorem lPh9_walk {e a b : Option Addr} {f n m c d : Nat} {C : List (List Int)} {us vs : List Int} {w : World} (hm0 : C.length ≤ maxLen) (hf : CFits C) (hc : CRow w e C) (hn : us.length = n) (hm : vs.length = m) (ln : n ≤ maxLen) (lm : m ≤ maxLen) (ha : ARow w a us) (hb : ARow w b vs) :
    Calls Try.prog 6 #[.slice e C.length f, .agg #[.slice a n c, .slice b m d]] w fun e w' => e = .returned (.bool true) ∧ Below w.heap.size w w' := by
  by_cases h0 : C.length ≤ 1048576
  rotate_left
  · exact lPh9_long0 hm0 (by omega)
  exact lPh9_main (hide rfl) h0 (hide hf) (hide hc) (hide hn) (hide hm) ln lm (hide ha) (hide hb)
end Go.Proofs.Ytcniegaogdggaaa
