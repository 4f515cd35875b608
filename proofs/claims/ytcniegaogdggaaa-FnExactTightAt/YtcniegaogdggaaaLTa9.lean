/-
  At any costs and prices TightAt answers as the model does, in memory of its own: the law's own walk.
-/
import Derived.Test.YtcniegaogdggaaaQzc
namespace Go.Proofs.Ytcniegaogdggaaa
open Go.RowKit

set_option maxHeartbeats 1000000 in
theorem lTa9_long0 {e a b : Option Addr} {l n m f c d : Nat} {w : World} (hm : l ≤ maxLen) (h : 1048576 < l) :
    Calls Try.prog 8 #[.slice e l f, .agg #[.slice a n c, .slice b m d]] w fun e w' => e = .returned (.bool true) ∧ Below w.heap.size w w' := by
  go_enter Try.func8, Try.ntmps8
  go_wp2_with fail
  refine (szC_long (by omega) (by omega) hm (by omega)).mono ?_
  rintro e w1 ⟨rfl, rfl⟩
  go_wp2_with fail
  go_ret
  exact ⟨rfl, below_new _ _⟩
set_option maxRecDepth 100000 in
set_option maxHeartbeats 16000000 in
theorem lTa9_main {e a b : Option Addr} {l n m f c d : Nat} {C : List (List Int)} {us vs : List Int} {w : World} (HL : Hid (C.length = l)) (hl : l ≤ 1048576) (HF : Hid (CFits C)) (HC : Hid (CRow w e C)) (HN : Hid (us.length = n)) (HM : Hid (vs.length = m)) (ln : n ≤ maxLen) (lm : m ≤ maxLen) (HA : Hid (ARow w a us)) (HB : Hid (ARow w b vs)) :
    Calls Try.prog 8 #[.slice e l f, .agg #[.slice a n c, .slice b m d]] w fun e w' => e = .returned (.bool true) ∧ Below w.heap.size w w' := by
  have HS := hide fun (W : World) (x y z : Nat) (r0 : CRow W (some ⟨x, 0, none⟩) C) (r1 : ARow W (some ⟨y, 0, none⟩) us) (r2 : ARow W (some ⟨z, 0, none⟩) vs) => sta_w (w := W) (f := l) (c := n) (d := m) HL.out hl HN.out HM.out r0 r1 r2
  have HI := hide fun (W : World) (x y z : Nat) (r0 : CRow W (some ⟨x, 0, none⟩) C) (r1 : ARow W (some ⟨y, 0, none⟩) us) (r2 : ARow W (some ⟨z, 0, none⟩) vs) => ta_w (w := W) (f := l) (c := n) (d := m) HL.out HN.out HM.out r0 r1 r2
  have HF10 := hide (taL_le (C := C) (us := us) (vs := vs))
  have HFR := hide (fun (i : Nat) (h : i < (Hu.taL C us vs).length) => taL_row h)
  generalize Hu.taL C us vs = F at HS HI HF10 HFR
  generalize Hu.bothB C us vs = T at HS HI
  obtain ⟨M, hM⟩ : ∃ M, M = F.length := ⟨_, rfl⟩
  rw [← hM] at HF10 HFR
  have HM9 := hide hM.symm
  have hM10 := HF10.out
  have HFS : Hid (∀ i, i < M → (F.getD i []).length ≤ 1048576) := hide fun i hi => by rw [HFR.out i hi]; omega
  obtain ⟨TT, hTT⟩ : ∃ TT : Nat, TT = M * M := ⟨_, rfl⟩
  have HTT := hide hTT
  have hn1 : ¬ (1 : Int) + (TT : Int) < 0 := by omega
  have hnm9 : ((1 : Int) + (TT : Int) != (1 : Int) + (TT : Int)) = false := by simp
  clear hTT hM
  have hneT : (T != T) = false := by simp
  obtain ⟨w0, hw0⟩ : ∃ w0, w0 = w.alloc (.cells #[.slice a n c, .slice b m d] 40) := ⟨_, rfl⟩
  have bn := below_new w (.cells #[.slice a n c, .slice b m d] 40)
  obtain ⟨p0, p1, p2⟩ := PBox.new w (.slice a n c) (.slice b m d) 40
  have HW : Hid (w.alloc (.cells #[.slice a n c, .slice b m d] 40) = w0) := hide hw0.symm
  rw [← hw0] at bn p0 p1 p2
  have HC0 := hide (HC.out.below bn)
  have HA0 := hide (HA.out.below bn)
  have HB0 := hide (HB.out.below bn)
  have HBn := hide bn
  clear hw0 bn
  go_enter Try.func8, Try.ntmps8
  go_wp2_with fail
  rw [HW.out]
  clear HW
  refine (szC_any HL.out (by omega) (by omega) (by omega) HF.out HC0.out).mono ?_
  rintro e w1 ⟨r, rfl, hr1, hr2, hw1⟩
  obtain rfl : w0 = w1 := hw1.symm
  rcases hr2 with rfl | ⟨hr0, hsh⟩
  · go_wp2_with fail
    go_ret
    exact ⟨rfl, HBn.out⟩
  have HSh := hide hsh
  have hr3 : ¬ r < 0 := by omega
  clear hsh
  by_cases hnm : (n : Int) + m ≤ r
  rotate_left
  · go_wp2_with fail
    refine (szPr_no hr0 hr1 ln lm (by omega)).mono ?_
    rintro e w1 ⟨rfl, hb1⟩
    have HB1 := hide (HBn.out.trans (hb1.mono HBn.out.size))
    clear hb1
    go_wp2_with fail
    go_ret
    exact ⟨rfl, HB1.out⟩
  have hr4 : ¬ r - (n : Int) - (m : Int) < 0 := by omega
  go_wp2_with fail
  refine (szPr_yes hr0 hr1 hnm).mono ?_
  rintro e w1 ⟨rfl, hb1⟩
  obtain ⟨q0, q1, q2⟩ := PBox.below ⟨p0, p1, p2⟩ hb1
  have HC1 := hide (HC0.out.below hb1)
  have HA1 := hide (HA0.out.below hb1)
  have HB1 := hide (HB0.out.below hb1)
  have HBn1 := hide (HBn.out.trans (hb1.mono HBn.out.size))
  clear hb1 HC0 HA0 HB0 HBn p0 p1 p2
  have n20 : n ≤ 1048576 := by omega
  have m20 : m ≤ 1048576 := by omega
  go_wp2_with fail
  go_region_held3 (fun w' => w'.cell? ⟨w.heap.size, 0, none⟩ = some (.slice a n c) ∧ w'.cell? ⟨w.heap.size, 1, none⟩ = some (.slice b m d) ∧ Below w1.heap.size w1 w' ∧ w1.heap.size ≤ w'.heap.size)
    (first | exact ⟨q0, q1, (Below.refl _ _).drew, Nat.le_refl _⟩ | assumption | exact two_call8 q2 q2 ‹_› (by assumption) | fail)
    (first
    | (go_at_call 11; obtain ⟨_, _, hbS, _⟩ := ‹_ ∧ _ ∧ _ ∧ _›; refine (toC_own HL.out hl HSh.out (HC1.out.below hbS)).mono ?_; rintro e w2 ⟨rfl, hb2, o2⟩; have RC := hide o2.row; clear o2)
    | (go_at_call 28; obtain ⟨_, _, hbS, _⟩ := ‹_ ∧ _ ∧ _ ∧ _›; have RC := ‹Hid (CRow _ _ C)›; refine (toPr_any HN.out HM.out n20 m20 (HA1.out.below hbS) (HB1.out.below hbS)).mono ?_; rintro e w3 ⟨x3, y3, rfl, hb3, _, _, _, ow1, ow2⟩; have RC3 := hide (RC.out.below hb3); have RA3 := hide (arow_owns HN.out.symm ow1); have RB3 := hide (arow_owns HM.out.symm ow2); clear ow1 ow2)
    | (go_at_call 32; refine (HS.out _ _ _ _ (Hid.out (by assumption)) (Hid.out (by assumption)) (Hid.out (by assumption))).mono ?_; rintro e w4 ⟨v4, rfl, hb4, gr4⟩)
    | fail)
  obtain ⟨c0, c1, hbE, _⟩ := ‹_ ∧ _ ∧ _ ∧ _›
  have HBn4 := hide (HBn1.out.trans (hbE.mono HBn1.out.size))
  have HC4 := hide (HC1.out.below hbE)
  have HA4 := hide (HA1.out.below hbE)
  have HB4 := hide (HB1.out.below hbE)
  have z4 : w.heap.size < w4.heap.size := Nat.lt_of_lt_of_le q2 hbE.size
  have W4 := hide gr4
  clear gr4 hb4 hb3 hb2 RC RC3 RA3 RB3 hbS hbE HC1 HA1 HB1 HBn1 q0 q1 q2
  go_wp2_with fail
  refine (toC_own HL.out hl HSh.out HC4.out).mono ?_
  rintro e w5 ⟨rfl, hb5, o5⟩
  obtain ⟨d0, d1, z5⟩ := PBox.below ⟨c0, c1, z4⟩ hb5
  have hz5 := hb5.size
  have V5 := hide hb5
  have O5 := hide o5
  have HBn5 := hide (HBn4.out.trans (hb5.mono HBn4.out.size))
  have HA5 := hide (HA4.out.below hb5)
  have HB5 := hide (HB4.out.below hb5)
  clear o5 hb5 HBn4 HC4 HA4 HB4 c0 c1
  go_wp2_with fail
  refine (toPr_any HN.out HM.out n20 m20 HA5.out HB5.out).mono ?_
  rintro e w6 ⟨x6, y6, rfl, hb6, gx1, gx2, gx3, ow1, ow2⟩
  have bn6 := below_new w6 (.cells #[.slice (some ⟨x6, 0, none⟩) n n, .slice (some ⟨y6, 0, none⟩) m m] 29)
  have hbz := below_in hb6 bn6
  have hz6 := hb6.size
  have HP6 := hide (PBox.below ⟨d0, d1, z5⟩ hbz)
  have HBn6 := hide (HBn5.out.trans (hbz.mono HBn5.out.size))
  have V6 := hide (V5.out.trans (hbz.mono hz5))
  have O6 := hide (O5.out.below hbz)
  have WA6 := hide (owns_keep ow1 (bn6.block x6 (by omega)))
  have WB6 := hide (owns_keep ow2 (bn6.block y6 (by omega)))
  have hlt6 : w.heap.size < w6.heap.size := Nat.lt_of_lt_of_le z5 hb6.size
  clear ow1 ow2 hb6 bn6 hbz HBn5 V5 O5 HA5 HB5 d0 d1
  go_wp2_with fail
  refine (HI.out _ _ _ _ O6.out.row (arow_owns HN.out.symm WA6.out) (arow_owns HM.out.symm WB6.out)).mono ?_
  rintro e w7 ⟨v7, rfl, hb7, ga7⟩
  have hz7 := hb7.size
  rw [World.size_alloc] at ga7 hz7
  have HP7 := hide (HP6.out.below hb7)
  have HQ7 := hide ((PBox.new w6 (.slice (some ⟨x6, 0, none⟩) n n) (.slice (some ⟨y6, 0, none⟩) m m) 29).below hb7)
  have HBn7 := hide (HBn6.out.trans (hb7.mono HBn6.out.size))
  have V7 := hide (V6.out.trans (hb7.mono V6.out.size))
  have O7 := hide (O6.out.below hb7)
  have WA7 := hide (owns_keep WA6.out (hb7.block x6 (by simp; omega)))
  have WB7 := hide (owns_keep WB6.out (hb7.block y6 (by simp; omega)))
  have K7 := hide ga7
  clear ga7 hb7 HP6 HBn6 V6 O6 WA6 WB6
  go_wp2_with fail
  refine (eq_ga HM9.out (by omega) HFS.out K7.out.rd (W4.out.below V7.out)).mono ?_
  rintro e w8 ⟨rfl, hb8⟩
  have HP8 := hide (HP7.out.below hb8)
  have HQ8 := hide (HQ7.out.below hb8)
  have HBn8 := hide (HBn7.out.trans (hb8.mono HBn7.out.size))
  have V8 := hide (V7.out.trans (hb8.mono V7.out.size))
  have O8 := hide (O7.out.below hb8)
  have WA8 := hide (g_own WA7.out hb8)
  have WB8 := hide (g_own WB7.out hb8)
  have K8 := hide (K7.out.below hb8)
  have hz8 := hb8.size
  clear hb8 HP7 HQ7 HBn7 V7 O7 WA7 WB7 K7
  go_wp2_with fail
  refine (toC_own HL.out hl HSh.out (HC.out.below HBn8.out)).mono ?_
  rintro e w9 ⟨rfl, hb9, o9⟩
  have HP9 := hide (HP8.out.below hb9)
  have HQ9 := hide (HQ8.out.below hb9)
  have HBn9 := hide (HBn8.out.trans (hb9.mono HBn8.out.size))
  have V9 := hide (V8.out.trans (hb9.mono V8.out.size))
  have O9 := hide (O8.out.below hb9)
  have S9 := hide o9.row
  have WA9 := hide (g_own WA8.out hb9)
  have WB9 := hide (g_own WB8.out hb9)
  have K9 := hide (K8.out.below hb9)
  have hz9 := hb9.size
  clear hb9 o9 HP8 HQ8 HBn8 V8 O8 WA8 WB8 K8
  go_wp2_with fail
  refine (eqC_b HL.out hl HSh.out O9.out.row S9.out).mono ?_
  rintro e wa ⟨rfl, hba⟩
  obtain ⟨p0, p1, z9⟩ := HP9.out.below hba
  obtain ⟨p2, p3, z10⟩ := HQ9.out.below hba
  have HBna := hide (HBn9.out.trans (hba.mono HBn9.out.size))
  have Va := hide (V9.out.trans (hba.mono V9.out.size))
  have Oa := hide (O9.out.below hba)
  have WAa := hide (g_own WA9.out hba)
  have WBa := hide (g_own WB9.out hba)
  have Ka := hide (K9.out.below hba)
  have hza := hba.size
  have hR : Rst9 w w6.heap.size x6 y6 us vs wa := ⟨HBna.out, z10, arow_owns HN.out.symm WAa.out, arow_owns HM.out.symm WBa.out⟩
  have h20 : n + m ≤ 1048576 := by omega
  clear hba HP9 HQ9 HBn9 V9 O9 S9 WA9 WB9 K9
  go_wp2_with fail
  go_region_held3 (fun w' => w'.cell? ⟨w.heap.size, 0, none⟩ = some (.slice a n c) ∧ w'.cell? ⟨w.heap.size, 1, none⟩ = some (.slice b m d) ∧ w'.cell? ⟨w6.heap.size, 0, none⟩ = some (.slice (some ⟨x6, 0, none⟩) n n) ∧ w'.cell? ⟨w6.heap.size, 1, none⟩ = some (.slice (some ⟨y6, 0, none⟩) m m) ∧ Rst9' w w6.heap.size x6 y6 us vs wa w')
    (first | exact ⟨p0, p1, p2, p3, hR.below (below_drewN (Below.refl _ _) 1), (Below.refl _ _).drew⟩ | assumption | exact rst9_step' hlt6 ‹_› (by assumption))
    (first
    | (go_at_call 28; refine (toPr_held HA HB HN HM h20 (rst9_of (by assumption))).mono ?_; rintro e wx ⟨x7, y7, rfl, hbx, R3, R4⟩)
    | (go_at_call 17; refine (eqPr_held HN HM h20 (rst9_of (by assumption)) (by assumption) (by assumption)).mono ?_; rintro e wy ⟨rfl, hby⟩))
  obtain ⟨t0, t1, t2, t3, hR', hbb⟩ := ‹_ ∧ _ ∧ _ ∧ _ ∧ _›
  have zb : w.heap.size < wy.heap.size := Nat.lt_of_lt_of_le z9 hbb.size
  have zb6 : w6.heap.size < wy.heap.size := Nat.lt_of_lt_of_le z10 hbb.size
  have HBnb := hide hR'.1
  have Vb := hide (Va.out.trans (hbb.mono Va.out.size))
  have Ob := hide (Oa.out.below hbb)
  have WAb := hide (g_own WAa.out hbb)
  have WBb := hide (g_own WBa.out hbb)
  have Kb := hide (Ka.out.below hbb)
  have HPb : Hid (PBox wy w.heap.size (.slice a n c) (.slice b m d)) := hide ⟨t0, t1, zb⟩
  have HQb : Hid (PBox wy w6.heap.size (.slice (some ⟨x6, 0, none⟩) n n) (.slice (some ⟨y6, 0, none⟩) m m)) := hide ⟨t2, t3, zb6⟩
  clear hR hR' hbb hby hbx R3 R4 p0 p1 p2 p3 t0 t1 t2 t3 HBna Va Oa WAa WBa Ka
  go_wp2_with fail
  refine (markC_bd HL hl HSh Ob.out).mono ?_
  rintro e wc ⟨q, rfl, hq0, hq2, hrc⟩
  have hzc := hrc.2.2.2.1
  have HBnc := hide (HBnb.out.trans (hrc.below (Nat.le_of_lt z4) HBnb.out.size))
  have Vc := hide (Vb.out.trans (hrc.below (Nat.le_refl _) Vb.out.size))
  have Kc := hide (Kb.out.rng hrc (by omega))
  have WAc := hide (owns_keep WAb.out (hrc.2.2.2.2 x6 (WAb.out.lt x6 rfl).2 (Or.inr (by omega))))
  have WBc := hide (owns_keep WBb.out (hrc.2.2.2.2 y6 (WBb.out.lt y6 rfl).2 (Or.inr (by omega))))
  have HPc : Hid (PBox wc w.heap.size (.slice a n c) (.slice b m d)) := hide (HPb.out.keep9 hzc (hrc.2.2.2.2 _ zb (Or.inl z4)))
  have HQc : Hid (PBox wc w6.heap.size (.slice (some ⟨x6, 0, none⟩) n n) (.slice (some ⟨y6, 0, none⟩) m m)) := hide (HQb.out.keep9 hzc (hrc.2.2.2.2 _ zb6 (Or.inr (by omega))))
  obtain ⟨r0, r1, _⟩ := HQc.out
  clear hrc HBnb Vb Ob Kb WAb WBb HPb HQb
  go_wp2_with fail
  refine (markPr_bd HN.out HM.out n20 m20 hq0 (by omega) (by omega) WAc.out WBc.out).mono ?_
  rintro e wd ⟨rfl, _, _, hod⟩
  have hqq : ¬ q + (n : Int) + (m : Int) < 0 := by omega
  have hrd : Rng w5.heap.size w6.heap.size wc wd := hod.rng (by omega) (by omega) (by omega) (by omega)
  have hzd := hrd.2.2.2.1
  have HBnd := hide (HBnc.out.trans (hrd.below (by omega) HBnc.out.size))
  have Vd := hide (Vc.out.trans (hrd.below hz5 Vc.out.size))
  have Kd := hide (Kc.out.rng hrd (by omega))
  have HPd : Hid (PBox wd w.heap.size (.slice a n c) (.slice b m d)) := hide (HPc.out.keep9 hzd (hrd.2.2.2.2 _ HPc.out.2.2 (Or.inl (by omega))))
  clear hrd hod HBnc Vc Kc WAc WBc HPc HQc r0 r1
  go_wp2_with fail
  refine (eq_ga HM9.out (by omega) HFS.out Kd.out.rd (W4.out.below Vd.out)).mono ?_
  rintro e we ⟨rfl, hbe⟩
  have HBne := hide (HBnd.out.trans (hbe.mono HBnd.out.size))
  have Ve := hide (Vd.out.trans (hbe.mono Vd.out.size))
  have Ke := hide (Kd.out.below hbe)
  have HPe := hide (HPd.out.below hbe)
  clear hbe HBnd Vd Kd HPd
  go_wp2_with fail
  refine (mark_ga HM9.out (by omega) (by omega) HFR.out Ke.out).mono ?_
  rintro e wf ⟨rfl, hhf, hbf⟩
  have Hf := hide hhf
  have hzf := hbf.size
  have HBnf := hide (HBne.out.trans (hbf.mono (by omega)))
  have Vf := hide (Ve.out.trans (hbf.mono (by omega)))
  have HPf : Hid (PBox wf w.heap.size (.slice a n c) (.slice b m d)) := hide (HPe.out.keep9 hzf (hbf.block _ (by omega)))
  clear hhf hbf HBne Ve Ke HPe
  rw [← HTT.out]
  go_wp2_with fail
  refine (held_ga (by omega) (by omega) Hf.out).mono ?_
  rintro e wz ⟨rfl, hwz⟩
  obtain rfl : wf = wz := hwz.symm
  rw [← HTT.out]
  have HCf := hide (HC.out.below HBnf.out)
  have HAf := hide (HA.out.below HBnf.out)
  have HBf := hide (HB.out.below HBnf.out)
  obtain ⟨s0, s1, s2⟩ := HPf.out
  clear HPf
  go_wp2_with fail
  go_region_held3 (fun w' => w'.cell? ⟨w.heap.size, 0, none⟩ = some (.slice a n c) ∧ w'.cell? ⟨w.heap.size, 1, none⟩ = some (.slice b m d) ∧ Below wf.heap.size wf w' ∧ wf.heap.size ≤ w'.heap.size)
    (first | exact ⟨s0, s1, (Below.refl _ _).drew, Nat.le_refl _⟩ | assumption | exact two_call8 s2 s2 ‹_› (by assumption) | fail)
    (first
    | (go_at_call 11; obtain ⟨_, _, hbS, _⟩ := ‹_ ∧ _ ∧ _ ∧ _›; refine (toC_own HL.out hl HSh.out (HCf.out.below hbS)).mono ?_; rintro e wg ⟨rfl, hbg, o2⟩; have RC := hide o2.row; clear o2)
    | (go_at_call 28; obtain ⟨_, _, hbS, _⟩ := ‹_ ∧ _ ∧ _ ∧ _›; have RC := ‹Hid (CRow _ _ C)›; refine (toPr_any HN.out HM.out n20 m20 (HAf.out.below hbS) (HBf.out.below hbS)).mono ?_; rintro e wh ⟨x3, y3, rfl, hbh, _, _, _, ow1, ow2⟩; have RC3 := hide (RC.out.below hbh); have RA3 := hide (arow_owns HN.out.symm ow1); have RB3 := hide (arow_owns HM.out.symm ow2); clear ow1 ow2)
    | (go_at_call 33; refine (HI.out _ _ _ _ (Hid.out (by assumption)) (Hid.out (by assumption)) (Hid.out (by assumption))).mono ?_; rintro e wi ⟨vi, rfl, hbi, gai⟩)
    | fail)
  obtain ⟨_, _, hbE, _⟩ := ‹_ ∧ _ ∧ _ ∧ _›
  have Ki := hide gai.rd
  have Hi := hide (Hf.out.below hbE)
  have Vi := hide (Vf.out.trans (hbE.mono Vf.out.size))
  have HBni := hide (HBnf.out.trans (hbE.mono HBnf.out.size))
  clear gai hbi hbh hbg RC RC3 RA3 RB3 hbS hbE HCf HAf HBf s0 s1 s2 Hf Vf HBnf
  go_wp2_with fail
  refine (eq_ga HM9.out (by omega) HFS.out Ki.out (W4.out.below Vi.out)).mono ?_
  rintro e wj ⟨rfl, hbj⟩
  have Hj := hide (Hi.out.below hbj)
  have HBnj := hide (HBni.out.trans (hbj.mono HBni.out.size))
  clear hbj Ki Hi Vi HBni
  go_wp2_with fail
  refine (held_ga (by omega) (by omega) Hj.out).mono ?_
  rintro e wz ⟨rfl, hwz⟩
  obtain rfl : wj = wz := hwz.symm
  rw [← HTT.out]
  go_wp2_with fail
  go_ret
  exact ⟨rfl, HBnj.out⟩
theorem lTa9_walk {e a b : Option Addr} {f n m c d : Nat} {C : List (List Int)} {us vs : List Int} {w : World} (hm0 : C.length ≤ maxLen) (hf : CFits C) (hc : CRow w e C) (hn : us.length = n) (hm : vs.length = m) (ln : n ≤ maxLen) (lm : m ≤ maxLen) (ha : ARow w a us) (hb : ARow w b vs) :
    Calls Try.prog 8 #[.slice e C.length f, .agg #[.slice a n c, .slice b m d]] w fun e w' => e = .returned (.bool true) ∧ Below w.heap.size w w' := by
  by_cases h0 : C.length ≤ 1048576
  rotate_left
  · exact lTa9_long0 hm0 (by omega)
  exact lTa9_main (hide rfl) h0 (hide hf) (hide hc) (hide hn) (hide hm) ln lm (hide ha) (hide hb)
end Go.Proofs.Ytcniegaogdggaaa
