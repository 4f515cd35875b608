/-
  FnPrices: the law's own walk.
-/
import Derived.Test.YtkebaklmkidfoaaZ6
import Derived.Deep.DeepCutAuto
import Derived.BigQuiet
namespace Go.Proofs.Ytkebaklmkidfoaa
open Go.RowKit

set_option maxRecDepth 100000 in
set_option maxHeartbeats 1000000 in
theorem lPc9_long {a1 a2 : Option Addr} {len1 cap1 len2 cap2 : Nat} {w : World} (h1 : (1048576 : Int) < wrap64 ((len1 : Int) + (len2 : Int))) :
    Calls Try.prog 4 #[.slice a1 len1 cap1, .slice a2 len2 cap2] w fun e w' => e = .returned (.bool true) ∧ Below w.heap.size w w' := by
  go_enter Try.func4, Try.ntmps4
  go_wp2_with fail
  go_ret
  exact ⟨rfl, Below.refl _ _⟩
set_option maxRecDepth 100000 in
set_option maxHeartbeats 16000000 in
theorem lPc9_main {a1 a2 : Option Addr} {len1 cap1 len2 cap2 : Nat} {w : World} (hs1 : Hid (Src w a1 len1)) (hs2 : Hid (Src w a2 len2)) (h1 : ¬ (1048576 : Int) < wrap64 ((len1 : Int) + (len2 : Int))) :
    Calls Try.prog 4 #[.slice a1 len1 cap1, .slice a2 len2 cap2] w fun e w' => e = .returned (.bool true) ∧ Below w.heap.size w w' := by
  go_enter Try.func4, Try.ntmps4
  go_wp2_with fail
  refine (drawPH_any hs1).mono ?_
  rintro e w1 ⟨ao, co, ap, cp, aq, cq, C, us, vs, rfl, hl, hu11, hv11, hr, rp, rq, hb1⟩
  have HB1 := hide hb1
  have HPH := hide fun (W : World) (h : CRow W ao C) (rm : ARow W ap us) (rn : ARow W aq vs) => ph_w (w := W) (f := co) (c := cp) (d := cq) rfl rfl rfl h rm rn
  have HSH := hide fun (W : World) (h : CRow W ao C) (rm : ARow W ap us) (rn : ARow W aq vs) => sph_w (w := W) (f := co) (c := cp) (d := cq) rfl (by omega) rfl rfl h rm rn
  have HPS := hide fun (W : World) (rm : ARow W ap us) (rn : ARow W aq vs) => ps_w (w := W) (c := cp) (d := cq) rfl rfl rm rn
  have HSS := hide fun (W : World) (rm : ARow W ap us) (rn : ARow W aq vs) => sps_w (w := W) (c := cp) (d := cq) rfl rfl rm rn
  have HTA := hide fun (W : World) (h : CRow W ao C) (rm : ARow W ap us) (rn : ARow W aq vs) => ta_w (w := W) (f := co) (c := cp) (d := cq) rfl rfl rfl h rm rn
  have HST := hide fun (W : World) (h : CRow W ao C) (rm : ARow W ap us) (rn : ARow W aq vs) => sta_w (w := W) (f := co) (c := cp) (d := cq) rfl (by omega) rfl rfl h rm rn
  have HCF := hide fun (W : World) (h : CRow W ao C) => cf_w (w := W) (ce := co) (hide rfl) (hide h)
  have HFC := hide fun (W : World) (h : CRow W ao C) (am : Option Addr) (cm : Nat) (rm : ARow W am (cfA C)) => fc_w (w := W) (c := co) (d := cm) rfl (cfA_len C) h rm
  have HWK := hide fun (h : Hu.phI C us vs = true) => pc_weak h
  have HLA := hide (cfA_len C)
  have HLB := hide (cfB_len C)
  have HLC := hide (cfC_len C)
  have HTR : Hid (∀ i, i < (Hu.taL C us vs).length → ((Hu.taL C us vs).getD i []).length ≤ 11) := hide fun i hi => by
    unfold Hu.taL at hi ⊢
    split
    · rename_i hg
      rw [if_pos hg, tight_len] at hi
      rw [(tight_at (us := us) (vs := vs) hi hi).1]; exact hl
    · simp
  have hTL11 : (Hu.taL C us vs).length ≤ 11 := by
    unfold Hu.taL; split
    · rw [tight_len]; exact hl
    · simp
  have HV0 := pv_new (c1 := cp) (c2 := cq) (N := us.length) (M := vs.length) hr rp rq
  generalize Hu.taL C us vs = TA at *
  generalize Hu.phI C us vs = PH at *
  generalize Hu.bothB C us vs = BO at *
  generalize Hu.psI us vs = PI at *
  generalize Hu.prB us vs = PB at *
  generalize Hu.fcI C (cfA C) = FI at *
  generalize Hu.fcB C (cfA C) = FB at *
  generalize Hu.costB C = G at *
  generalize cfA C = fs at *
  generalize cfB C = us' at *
  generalize cfC C = vs' at *
  generalize cfN C = N at *
  generalize C.length = CL at *
  generalize us.length = UL at *
  generalize vs.length = VL at *
  have x0 := HV0.box.1
  have x1 := HV0.box.2.1
  obtain ⟨WX, hWX⟩ : ∃ W, W = w1.alloc (.cells #[.slice ap UL cp, .slice aq VL cq] 27) := ⟨_, rfl⟩
  rw [← hWX] at HV0 x0 x1
  obtain ⟨BX, hBX⟩ : ∃ b, b = w1.heap.size := ⟨_, rfl⟩
  have HV : Hid (Pv9 w1 WX BX ao ap aq cp cq UL VL C us vs) := hide (hBX ▸ HV0)
  rw [← hBX] at x0 x1
  have HWX := hide hWX.symm
  have HBX := hide hBX.symm
  have e1 : (BO != BO) = false := by simp
  have e2 : (PH != PH) = false := by simp
  have e3 : (PB != PB) = false := by simp
  have e4 : (PI != PI) = false := by simp
  have e5 : ((TA.length : Int) != (TA.length : Int)) = false := by simp
  clear hr rp rq hb1 HV0 hWX hBX
  go_upto_region 4 with fail
  rw [HWX.out, HBX.out]
  clear HWX HBX
  go_wp2_with fail
  refine (HPH.out _ HV.out.r0 HV.out.r1 HV.out.r2).mono ?_
  rintro e w2 ⟨rfl, hb2⟩
  have HV2 := hide (HV.out.below hb2)
  have x0 := HV2.out.box.1
  have x1 := HV2.out.box.2.1
  clear hb2 HV HPH
  go_wp2_with fail
  refine (HSH.out _ HV2.out.r0 HV2.out.r1 HV2.out.r2).mono ?_
  rintro e w3 ⟨rfl, hb3⟩
  have HV3 := hide (HV2.out.below hb3)
  have x0 := HV3.out.box.1
  have x1 := HV3.out.box.2.1
  clear hb3 HV2 HSH
  go_wp2_with fail
  refine (HPS.out _ HV3.out.r1 HV3.out.r2).mono ?_
  rintro e w4 ⟨rfl, hb4⟩
  have HV4 := hide (HV3.out.below hb4)
  have x0 := HV4.out.box.1
  have x1 := HV4.out.box.2.1
  clear hb4 HV3 HPS
  go_wp2_with fail
  refine (HSS.out _ HV4.out.r1 HV4.out.r2).mono ?_
  rintro e w5 ⟨rfl, hb5⟩
  have HV5 := hide (HV4.out.below hb5)
  have x0 := HV5.out.box.1
  have x1 := HV5.out.box.2.1
  clear hb5 HV4 HSS
  go_wp2_with fail
  refine (HTA.out _ HV5.out.r0 HV5.out.r1 HV5.out.r2).mono ?_
  rintro e w6 ⟨vt, rfl, hb6, hta⟩
  have HV6 := hide (HV5.out.below hb6)
  have x0 := HV6.out.box.1
  have x1 := HV6.out.box.2.1
  obtain ⟨at6, ct6, rfl, hgt⟩ := hta.rd
  have HGT := hide hgt
  clear hb6 HV5 HTA hta hgt
  go_wp2_with fail
  refine (HST.out _ HV6.out.r0 HV6.out.r1 HV6.out.r2).mono ?_
  rintro e w7 ⟨vt, rfl, hb7, hta⟩
  have HV7 := hide (HV6.out.below hb7)
  obtain ⟨at7, ct7, rfl, hgs⟩ := hta
  have HGS := hide hgs
  have HGT7 := hide (HGT.out.below hb7)
  generalize hTL : TA.length = TL at *
  have HTL := hide hTL
  clear hb7 HV6 HST hgs hTL HGT x0 x1
  go_wp2_with fail
  clear e1 e2 e3 e4 e5
  go_loopw [4, 19, 20, 120] (fun s4 _ _ s wr => ∃ i : Nat, s4 = .bool false ∧ s = .int .i64 i ∧ i ≤ TL ∧ Hid (Below w7.heap.size w7 wr)) (fun _ _ _ s _ => TL - (intOf s).toNat)
  case atStart => exact ⟨0, rfl, rfl, Nat.zero_le _, hide (Below.refl _ _)⟩
  case round =>
    obtain ⟨i, rfl, rfl, hi, HB⟩ := hrel
    by_cases hlt : i < TL
    · obtain ⟨b1, o1, q1, k1, rfl, hb1, r1, R1⟩ := (HGT7.out.below HB.out).at (i := i) (by rw [HTL.out]; exact hlt)
      obtain ⟨b2, o2, q2, k2, rfl, hb2, r2, R2⟩ := (HGS.out.below HB.out).at (i := i) (by rw [HTL.out]; exact hlt)
      have hm := HTR.out i (by omega)
      have HR1 := hide R1
      have HR2 := hide R2
      generalize hrow : TA.getD i [] = row at *
      generalize hrl : row.length = m at *
      have HRL := hide hrl
      have i0 : (0 : Int) ≤ (i : Int) := by omega
      have i1 : (i : Int) < (TL : Int) := by omega
      clear R1 R2 hrow hrl
      obtain ⟨W8, hW8⟩ : ∃ W : World, W = wr := ⟨_, rfl⟩
      subst hW8
      go_wp2_with fail
      go_loopw [4, 20, 128] (fun s4 _ s wr => ∃ j : Nat, s4 = .bool false ∧ s = .int .i64 j ∧ j ≤ m ∧ Hid (Below W8.heap.size W8 wr)) (fun _ _ s _ => m - (intOf s).toNat)
      case atStart => exact ⟨0, rfl, rfl, Nat.zero_le _, hide (Below.refl _ _)⟩
      case round =>
        obtain ⟨j, rfl, rfl, hj, HBJ⟩ := hrel
        by_cases hjm : j < m
        · have r1' := (HBJ.out.cell (p := ⟨b1, o1 + i, none⟩) hb1).trans r1
          have r2' := (HBJ.out.cell (p := ⟨b2, o2 + i, none⟩) hb2).trans r2
          obtain ⟨b3, o3, rfl, _, r3⟩ := (HR1.out.below HBJ.out).at (i := j) (by rw [HRL.out]; exact hjm)
          obtain ⟨b4, o4, rfl, _, r4⟩ := (HR2.out.below HBJ.out).at (i := j) (by rw [HRL.out]; exact hjm)
          generalize row.getD j false = y at *
          have hyy : (y != y) = false := by simp
          have j0 : (0 : Int) ≤ (j : Int) := by omega
          have j1 : (j : Int) < (m : Int) := by omega
          clear r1 r2
          go_wp2_with fail
          go_quiet (fail)
          go_wp2_with fail
          go_roundw
          case rel => exact ⟨j + 1, rfl, by go_num, by omega, hide (below_drewN HBJ.out nq)⟩
          case measure => simp only [intOf]; omega
        · have hje : j = m := by omega
          subst hje
          go_wp2_with fail
          go_roundw
          case rel => exact ⟨i + 1, rfl, by go_num, by omega, hide (HB.out.trans (HBJ.out.mono HB.out.size))⟩
          case measure => simp only [intOf]; omega
    · have hie : i = TL := by omega
      subst hie
      have HV8 := hide (HV7.out.below HB.out)
      clear HV7 HB HGT7 HGS HTR HTL hlt hi
      have HQ : Hid ((BO && PH) = true → G = true ∧ PB = true ∧ FB = true ∧ PI ≤ FI) := hide fun h => by
        obtain ⟨h1, _, h3, h4, h5⟩ := HWK.out (by simp only [Bool.and_eq_true] at h; exact h.2)
        exact ⟨h1, h3, h4, h5⟩
      clear HWK
      go_upto_region 22 with fail
      go_cut [151] (fun c wx => c = .bool (BO && PH) ∧ wx = wr)
      case first =>
        cases BO
        · go_wp2_with fail
          go_meet
          case rel => exact ⟨rfl, rfl⟩
        · go_wp2_with fail
          go_meet
          case rel => exact ⟨rfl, rfl⟩
      case rest =>
      obtain ⟨rfl, hwc⟩ := hcut
      subst hwc
      generalize (BO && PH) = Q at *
      go_upto_if 151 with fail
      go_cut [4, 21, 22, 23, 24, 25] (fun s4 _ _ _ _ _ wd => s4 = .bool false ∧ Hid (Below w.heap.size w wd))
      case first =>
          cases Q
          · go_wp2_with fail
            go_meet
            case rel => exact ⟨rfl, hide (HB1.out.trans (HV8.out.b.mono HB1.out.size))⟩
          · obtain ⟨rfl, rfl, rfl, hle⟩ := HQ.out rfl
            have HLE := hide hle
            clear hle HQ
            go_wp2_with fail
            refine (HCF.out _ HV8.out.r0).mono ?_
            rintro e w9 ⟨v, p, q, rfl, hO⟩
            obtain ⟨a0, c0, a1', c1', a2', c2', rfl, rfl, rfl, hc0, hV⟩ := cf_var hO HLA.out HLB.out HLC.out
            obtain ⟨WY, hWY⟩ : ∃ W, W = w9.alloc (.cells #[.slice a1' N c1', .slice a2' N c2'] 27) := ⟨_, rfl⟩
            rw [← hWY] at hV
            have HF9 := hide hV
            have HV9 := hide (HV8.out.below hV.b)
            have HWY := hide hWY.symm
            clear hO hV hWY HCF
            go_upto_region 24 with fail
            rw [HWY.out]
            clear HWY
            go_wp2_with fail
            refine (HFC.out _ HV9.out.r0 _ _ HF9.out.r0).mono ?_
            rintro e w10 ⟨rfl, hb10⟩
            have HVA := hide (HV9.out.below hb10)
            have hle : ¬ FI < PI := by have := HLE.out; omega
            clear hb10 HFC
            go_wp2_with fail
            go_meet
            case rel => exact ⟨rfl, hide (HB1.out.trans (HVA.out.b.mono HB1.out.size))⟩
      case rest =>
        obtain ⟨rfl, HBD⟩ := hcut
        clear HB1 HCF HFC HQ HLA HLB HLC HV8 hTL11 hl hu11 hv11
        go_wp2_with fail
        refine (drawRR_any (hide (hs2.out.below HBD.out))).mono ?_
        rintro e w8 ⟨ax, cx, X, rfl, hX, rx, hb8⟩
        have B8 := hide (HBD.out.trans (hb8.mono HBD.out.size))
        have HRX := hide rx
        cases hG : Hu.costB X
        · have HRR := hide (rr_no9 (c := cx) hG rfl rx)
          have HSR := hide (srr_no9 (c := cx) hG rfl (by omega) rx)
          clear rx hb8 HBD hG
          generalize X.length = XL at *
          go_wp2_with fail
          refine HRR.out.mono ?_
          rintro e w9 ⟨rfl, hw9⟩
          obtain rfl : w8 = w9 := hw9.symm
          go_wp2_with fail
          refine HSR.out.mono ?_
          rintro e w9 ⟨rfl, hw9⟩
          obtain rfl : w8 = w9 := hw9.symm
          go_wp2_with fail
          refine (smr9_zero _ _ _ _ _).mono ?_
          rintro e w9 ⟨rfl, hw9⟩
          obtain rfl : w8 = w9 := hw9.symm
          go_wp2_with fail
          go_ret
          exact ⟨rfl, B8.out⟩
        · have HRR := hide (rr_yes (c := cx) hG rfl rx)
          have HSR := hide fun (W : World) (h : CRow W ax X) => srr_yes (w := W) (c := cx) hG rfl h
          have HCX := hide fun (W : World) (h : CRow W ax X) => cf_w (w := W) (ce := cx) (hide rfl) (hide h)
          have HFX := hide fun (W : World) (h : CRow W ax X) (am : Option Addr) (cm : Nat) (rm : ARow W am (cfA X)) => fc_w (w := W) (c := cx) (d := cm) rfl (cfA_len X) h rm
          have HCR := hide fun (W : World) (ar : Option Addr) (cr : Nat) (h : CRow W ar (Hu.redL X)) => cf_w (w := W) (ce := cr) (hide (Hu.redL_len X)) (hide h)
          have HFR := hide fun (W : World) (ar : Option Addr) (cr : Nat) (h : CRow W ar (Hu.redL X)) (am : Option Addr) (cm : Nat) (rm : ARow W am (cfA (Hu.redL X))) => fc_w (w := W) (c := cr) (d := cm) (Hu.redL_len X) (cfA_len (Hu.redL X)) h rm
          have hF1 := (ft_facts hG).1
          have hF2 := (ft_facts (Hu.red_good hG)).1
          have hG2 := Hu.red_good hG
          have HL1 := hide (cfA_len X)
          have HL2 := hide (cfB_len X)
          have HL3 := hide (cfC_len X)
          have HL4 := hide (cfA_len (Hu.redL X))
          have HL5 := hide (cfB_len (Hu.redL X))
          have HL6 := hide (cfC_len (Hu.redL X))
          have HRL := hide (Hu.redL_len X)
          have HOA := hide fun (k : Nat) (hk : k < X.length) => off_at hG hk
          have HOB := hide fun (k : Nat) (hk : k ≤ X.length) => off_bd hG k hk
          have HRF := hide (rr_fit hG)
          have HO0 : Hid (Hu.offTo X 0 = 0) := hide rfl
          have b1 := fc_bd hG
          have b2 := fc_bd hG2
          have HRB : Hid (∀ i, i < X.length → ((Hu.redL X).getD i []).length ≤ 1048576) := hide fun i hi => by rw [(off_at hG hi).2.1]; omega
          rw [hG] at HCX
          rw [hG2] at HCR
          rw [hF1] at HFX
          rw [hF2] at HFR
          generalize Hu.fcI X (cfA X) = F1 at *
          generalize Hu.fcI (Hu.redL X) (cfA (Hu.redL X)) = F2 at *
          generalize cfA X = fs1 at *
          generalize cfB X = us1 at *
          generalize cfC X = vs1 at *
          generalize cfN X = N1 at *
          generalize cfA (Hu.redL X) = fs2 at *
          generalize cfB (Hu.redL X) = us2 at *
          generalize cfC (Hu.redL X) = vs2 at *
          generalize cfN (Hu.redL X) = N2 at *
          generalize Hu.offTo X = OF at *
          generalize Hu.redL X = Y at *
          generalize hXL : X.length = XL at *
          have HXL := hide hXL
          clear rx hb8 HBD hG hG2 hF1 hF2 hXL
          go_wp2_with fail
          refine HRR.out.mono ?_
          rintro e w9 ⟨rfl, hb9, hcw⟩
          have RX9 := hide (HRX.out.below hb9)
          have RY9 := hide hcw.row
          have B9 := hide (B8.out.trans (hb9.mono B8.out.size))
          generalize w8.heap.size = RB at *
          clear hb9 hcw HRR HRX B8
          go_wp2_with fail
          refine (HSR.out _ RX9.out).mono ?_
          rintro e w10 ⟨RG, RD, rfl, hb10, hry⟩
          have RX10 := hide (RX9.out.below hb10)
          have RY10 := hide (RY9.out.below hb10)
          have B10 := hide (B9.out.trans (hb10.mono B9.out.size))
          have RZ10 := hide hry
          clear hb10 hry HSR RX9 RY9 B9
          go_wp2_with fail
          refine (smr9 HRL (by omega) HRB RY10.out RZ10.out).mono ?_
          rintro e w11 ⟨rfl, hb11⟩
          have RX11 := hide (RX10.out.below hb11)
          have RY11 := hide (RY10.out.below hb11)
          have B11 := hide (B10.out.trans (hb11.mono B10.out.size))
          clear hb11 RX10 RY10 RZ10 B10
          go_wp2_with fail
          refine (HCX.out _ RX11.out).mono ?_
          rintro e w12 ⟨v, p, q, rfl, hO⟩
          obtain ⟨a0, c0, a1', c1', a2', c2', rfl, rfl, rfl, _, hV⟩ := cf_var hO HL1.out HL2.out HL3.out
          obtain ⟨WP, hWP⟩ : ∃ W, W = w12.alloc (.cells #[.slice a1' N1 c1', .slice a2' N1 c2'] 27) := ⟨_, rfl⟩
          rw [← hWP] at hV
          have RX12 := hide (RX11.out.below hV.b)
          have RY12 := hide (RY11.out.below hV.b)
          have B12 := hide (B11.out.trans (hV.b.mono B11.out.size))
          have RF12 := hide hV.r0
          have HWP := hide hWP.symm
          clear hO hV hWP HCX RX11 RY11 B11
          go_upto_region 34 with fail
          rw [HWP.out]
          clear HWP
          go_wp2_with fail
          refine (HCR.out _ _ _ RY12.out).mono ?_
          rintro e w13 ⟨v, p, q, rfl, hO⟩
          obtain ⟨d0, m0, d1, m1, d2, m2, rfl, rfl, rfl, _, hV⟩ := cf_var hO HL4.out HL5.out HL6.out
          obtain ⟨WQ, hWQ⟩ : ∃ W, W = w13.alloc (.cells #[.slice d1 N2 m1, .slice d2 N2 m2] 27) := ⟨_, rfl⟩
          rw [← hWQ] at hV
          have RX13 := hide (RX12.out.below hV.b)
          have RY13 := hide (RY12.out.below hV.b)
          have RF13 := hide (RF12.out.below hV.b)
          have B13 := hide (B12.out.trans (hV.b.mono B12.out.size))
          have RH13 := hide hV.r0
          have HWQ := hide hWQ.symm
          clear hO hV hWQ HCR RX12 RY12 B12 RF12
          go_upto_region 35 with fail
          rw [HWQ.out]
          clear HWQ
          go_wp2_with fail
          refine (HFX.out _ RX13.out _ _ RF13.out).mono ?_
          rintro e w14 ⟨rfl, hb14⟩
          have RX14 := hide (RX13.out.below hb14)
          have RY14 := hide (RY13.out.below hb14)
          have RH14 := hide (RH13.out.below hb14)
          have B14 := hide (B13.out.trans (hb14.mono B13.out.size))
          clear hb14 HFX RX13 RY13 RF13 RH13 B13
          go_wp2_with fail
          refine (HFR.out _ _ _ RY14.out _ _ RH14.out).mono ?_
          rintro e w15 ⟨rfl, hb15⟩
          have RX15 := hide (RX14.out.below hb15)
          have RY15 := hide (RY14.out.below hb15)
          have B15 := hide (B14.out.trans (hb15.mono B14.out.size))
          clear hb15 HFR RX14 RY14 RH14 B14
          go_wp2_with fail
          go_loopw [41, 42, 227] (fun t _ s wr => ∃ (k : Nat) (z : Int), t = .int .i64 z ∧ s = .int .i64 k ∧ k ≤ XL ∧ Hid (z = OF k) ∧ Hid (Below w15.heap.size w15 wr)) (fun _ _ s _ => XL - (intOf s).toNat)
          case atStart => exact ⟨0, 0, rfl, rfl, Nat.zero_le _, hide HO0.out.symm, hide (Below.refl _ _)⟩
          case round =>
            obtain ⟨k, z, rfl, rfl, hk, HZ, HB⟩ := hrel
            have hzb := HOB.out k hk
            rw [← HZ.out] at hzb
            by_cases hlt : k < XL
            · obtain ⟨f1, f2, f3, f4, f5, f6, f7⟩ := HOA.out k hlt
              obtain ⟨b1', o1', q1, k1, rfl, _, r1, R1⟩ := (RX15.out.below HB.out).at (i := k) (by rw [HXL.out]; exact hlt)
              obtain ⟨b2', o2', q2, k2, e2, _, r2, R2⟩ := (RY15.out.below HB.out).at (i := k) (by rw [HRL.out]; exact hlt)
              cases e2
              rw [f1] at r1
              rw [f2, Nat.zero_add] at r2
              obtain ⟨b3, o3, rfl, r3⟩ := R1.at (i := 0) (by rw [f1]; omega)
              obtain ⟨b4, o4, rfl, r4⟩ := R2.at (i := 0) (by rw [f2]; omega)
              rw [← HZ.out] at f7
              have HZ2 := hide f7
              generalize (X.getD k []).getD 0 0 = x at *
              generalize (Y.getD k []).getD 0 0 = y at *
              have k0 : (0 : Int) ≤ (k : Int) := by omega
              have k1' : (k : Int) < (XL : Int) := by omega
              have k2' : (0 : Int) < (XL : Int) := by omega
              have k3' : 0 < XL := by omega
              have k4' : ¬ XL = 0 := by omega
              have wa : IntKind.i64.wrap (x - y) = x - y := by rw [IntKind.wrap_i64]; omega
              have wb : IntKind.i64.wrap (z + (x - y)) = z + (x - y) := by rw [IntKind.wrap_i64]; omega
              have wa' : wrap64 (x - y) = x - y := wrap_id' _ (by omega) (by omega)
              have wb' : wrap64 (z + (x - y)) = z + (x - y) := wrap_id' _ (by omega) (by omega)
              rw [Nat.add_zero] at r3 r4
              clear R1 R2 f1 f2 f7
              go_wp2_with fail
              go_quiet (fail)
              go_wp2_with fail
              go_roundw
              case rel => exact ⟨k + 1, z + (x - y), rfl, by go_num, by omega, hide HZ2.out.symm, hide (below_drewN HB.out nq)⟩
              case measure => simp only [intOf]; omega
            · have hke : k = XL := by omega
              subst hke
              have hrf := HRF.out
              rw [← HZ.out] at hrf
              have wc : wrap64 (F2 + z) = F2 + z := wrap_id' _ (by omega) (by omega)
              have hee : (F1 == F2 + z) = true := by simp [hrf]
              have HBF := hide (B15.out.trans (HB.out.mono B15.out.size))
              clear hrf
              go_wp2_with fail
              go_ret
              exact ⟨rfl, HBF.out⟩
theorem lPc9_walk {a1 a2 : Option Addr} {len1 cap1 len2 cap2 : Nat} {w : World} (hs1 : Src w a1 len1) (hs2 : Src w a2 len2) :
    Calls Try.prog 4 #[.slice a1 len1 cap1, .slice a2 len2 cap2] w fun e w' => e = .returned (.bool true) ∧ Below w.heap.size w w' := by
  by_cases h1 : (1048576 : Int) < wrap64 ((len1 : Int) + (len2 : Int))
  · exact lPc9_long h1
  · exact lPc9_main (hide hs1) (hide hs2) h1
end Go.Proofs.Ytkebaklmkidfoaa
