/-
  FnMatch: the law's own walk.
-/
import Derived.Test.YtfmdahpldjkifaaJw
import Derived.Deep.DeepCutAuto
namespace Go.Proofs.Ytfmdahpldjkifaa
open Go.RowKit

set_option maxRecDepth 100000 in
set_option maxHeartbeats 1000000 in
theorem lMa8_long {a1 a2 : Option Addr} {len1 cap1 len2 cap2 : Nat} {w : World} (h1 : (1048576 : Int) < wrap64 ((len1 : Int) + (len2 : Int))) :
    Calls Try.prog 3 #[.slice a1 len1 cap1, .slice a2 len2 cap2] w fun e w' => e = .returned (.bool true) ∧ Below w.heap.size w w' := by
  go_enter Try.func3, Try.ntmps3
  go_wp2_with fail
  go_ret
  exact ⟨rfl, Below.refl _ _⟩
set_option maxRecDepth 100000 in
set_option maxHeartbeats 16000000 in
theorem lMa8_main {a1 a2 : Option Addr} {len1 cap1 len2 cap2 : Nat} {w : World} (hs1 : Hid (Src w a1 len1)) (hs2 : Hid (Src w a2 len2)) (h1 : ¬ (1048576 : Int) < wrap64 ((len1 : Int) + (len2 : Int))) :
    Calls Try.prog 3 #[.slice a1 len1 cap1, .slice a2 len2 cap2] w fun e w' => e = .returned (.bool true) ∧ Below w.heap.size w w' := by
  go_enter Try.func3, Try.ntmps3
  go_wp2_with fail
  refine (drawML_any hs1).mono ?_
  rintro e w1 ⟨ao, co, F, rfl, hl, hr, hb1⟩
  have HRW : Hid (∀ W, Below w1.heap.size w1 W → GRow W ao F) := hide fun W hW => hr.below hW
  have HB1 := hide hb1
  have HML := hide fun (W : World) (h : Below w1.heap.size w1 W) => ml_w (w := W) (c := co) rfl (hr.below h)
  have HSM := hide fun (W : World) (h : Below w1.heap.size w1 W) => sml_w (w := W) (c := co) rfl (by omega) (hr.below h)
  have HLK := hide fun (W : World) (h : Below w1.heap.size w1 W) => lk_w (w := W) (c := co) rfl (hr.below h)
  have HSL := hide fun (W : World) (h : Below w1.heap.size w1 W) => slk_w (w := W) (c := co) rfl (by omega) (hr.below h)
  have HGF := hide fun (W : World) (h : Below w1.heap.size w1 W) => gf_any (w := W) (c := co) rfl (hr.below h)
  have HIM := hide fun (W : World) (h : Below w1.heap.size w1 W) (am : Option Addr) (cm nm : Nat) (em : (mtL F).length = nm) (bm : nm ≤ cm) (rm : ARow W am (mtL F)) => im_any (w := W) (c := co) (d := cm) rfl (by omega) em bm (hr.below h) rm
  have HCI := hide fun (W : World) (am : Option Addr) (cm nm : Nat) (em : (mtL F).length = nm) (rm : ARow W am (mtL F)) => ci_any (w := W) (c := cm) em rm
  have HFA := hide fun (h : Ma.goodB F = true) => ma_facts h
  have HAT := hide fun (h : Ma.goodB F = true) (j : Nat) (hj : j < (lkL F).length) => lk_at h hj
  have HEN := hide fun (h : Ma.goodB F = true) (bl : List Nat) (hb : Ma.Bn F (Ma.mat F) bl) (hG : Gone F (lkL F) bl (lkL F).length) => bn_end h hb hG
  have HROW := hide fun (h : Ma.goodB F = true) (q : Nat) (hq : q < F.length) => Ma.goodB_row h hq
  have HBI := hide fun (h : Ma.goodB F = true) => Ma.goodB_bins h
  have hcn := cnt_bd (mtL F)
  have l8 := lk_8 F
  have y8 := cvB_8 F
  have m8 := mtL_8 F
  generalize Ma.imB F (mtL F) = IM at *
  generalize Ma.cntI (mtL F) = CNT at *
  generalize Ma.cntB (mtL F) = CNB at *
  generalize Ma.goodB F = G at *
  generalize mtL F = MT at *
  generalize lkL F = LK at *
  generalize (cvB F).length = YL at *
  generalize hFL : F.length = FL at *
  generalize hLL : LK.length = LL at *
  generalize hML : MT.length = ML at *
  have HFL := hide hFL
  have HLL := hide hLL
  have HMLL := hide hML
  have hGG : (G != G) = false := by simp
  clear hr hb1 hFL hLL hML
  have B1 := hide (Below.refl w1.heap.size w1)
  go_wp2_with fail
  refine (HML.out _ B1.out).mono ?_
  rintro e w2 ⟨v0, rfl, hb2, o0⟩
  obtain ⟨am, cm, rfl, bm, rm⟩ := own_cap HMLL.out o0
  have RM2 := hide rm
  have B2 := hide (B1.out.trans (hb2.mono B1.out.size))
  clear hb2 o0 rm B1
  go_wp2_with fail
  refine (HSM.out _ B2.out).mono ?_
  rintro e w3 ⟨u0, rfl, hb3, o0⟩
  obtain ⟨an, cn, rfl, rn⟩ := own_any8 HMLL.out o0
  have SM3 := hide rn
  have RM3 := hide (RM2.out.below hb3)
  have B3 := hide (B2.out.trans (hb3.mono B2.out.size))
  clear hb3 o0 rn B2 RM2
  go_wp2_with fail
  refine (HLK.out _ B3.out).mono ?_
  rintro e w4 ⟨u1, rfl, hb4, o0⟩
  obtain ⟨al, cl, rfl, rl⟩ := own_any8 HLL.out o0
  have RL4 := hide rl
  have RM4 := hide (RM3.out.below hb4)
  have SM4 := hide (SM3.out.below hb4)
  have B4 := hide (B3.out.trans (hb4.mono B3.out.size))
  clear hb4 o0 rl B3 RM3 SM3
  go_wp2_with fail
  refine (HSL.out _ B4.out).mono ?_
  rintro e w5 ⟨u2, rfl, hb5, o0⟩
  obtain ⟨ak, ck, rfl, rk⟩ := own_any8 HLL.out o0
  have SL5 := hide rk
  have RL5 := hide (RL4.out.below hb5)
  have RM5 := hide (RM4.out.below hb5)
  have SM5 := hide (SM4.out.below hb5)
  have B5 := hide (B4.out.trans (hb5.mono B4.out.size))
  clear hb5 o0 rk B4 RL4 RM4 SM4 HML HSM HLK HSL
  go_wp2_with fail
  refine (sam8 HMLL (by omega) RM5.out SM5.out).mono ?_
  rintro e w6 ⟨rfl, hb6⟩
  have SL6 := hide (SL5.out.below hb6)
  have RL6 := hide (RL5.out.below hb6)
  have RM6 := hide (RM5.out.below hb6)
  have B6 := hide (B5.out.trans (hb6.mono B5.out.size))
  clear hb6 B5 SL5 RL5 RM5 SM5
  go_wp2_with fail
  refine (sam8 HLL (by omega) RL6.out SL6.out).mono ?_
  rintro e w7 ⟨rfl, hb7⟩
  have RL7 := hide (RL6.out.below hb7)
  have RM7 := hide (RM6.out.below hb7)
  have B7 := hide (B6.out.trans (hb7.mono B6.out.size))
  clear hb7 B6 SL6 RL6 RM6
  go_wp2_with fail
  refine (HGF.out _ B7.out).mono ?_
  rintro e w8 ⟨rfl, hw8⟩
  obtain rfl : w7 = w8 := hw8.symm
  clear HGF
  go_upto_if 94 with fail
  clear hGG
  go_cut [4, 14, 15, 16, 17, 18, 20, 21, 22] (fun s4 _ _ _ _ _ _ _ _ wd => s4 = .bool false ∧ Hid (Below w.heap.size w wd))
  case first =>
    cases G
    · go_wp2_with fail
      go_meet
      case rel => exact ⟨rfl, hide (HB1.out.trans (B7.out.mono HB1.out.size))⟩
    · obtain ⟨rfl, rfl, hcnt⟩ := HFA.out rfl
      have HCN := hide hcnt
      have AT := hide (HAT.out rfl)
      have EN := hide (HEN.out rfl)
      have ROW := hide (HROW.out rfl)
      have hM8 := HBI.out rfl
      clear hcnt HFA HAT HEN HROW HBI
      go_wp2_with fail
      refine (HIM.out _ B7.out _ _ _ rfl bm RM7.out).mono ?_
      rintro e w8 ⟨rfl, hw8⟩
      obtain rfl : w7 = w8 := hw8.symm
      go_wp2_with fail
      refine (HCI.out _ _ _ _ rfl RM7.out).mono ?_
      rintro e w8 ⟨rfl, hw8⟩
      obtain rfl : w7 = w8 := hw8.symm
      clear HIM HCI RM7
      go_wp2_with fail
      generalize Ma.mat F = mm at *
      generalize hMB : Ma.bins F = M at *
      have HMB := hide hMB
      clear hMB
      go_loopw [18, 20, 21, 22, 122] (fun v _ _ _ s wr => ∃ (t : Nat), s = .int .i64 t ∧ t ≤ LL ∧ MbO F mm LK w7 wr t v) (fun _ _ _ _ s _ => LL - (intOf s).toNat)
      case atStart => exact ⟨0, rfl, Nat.zero_le _, [], hide (World.ownsRow_nil _ _ _ _), hide (Below.refl _ _), hide (Ma.bn_nil _ _), hide fun j hj => absurd hj (Nat.not_lt_zero _)⟩
      case round =>
        obtain ⟨t, rfl, ht, bl, HO, HB, HN, HGo⟩ := hrel
        by_cases htl : t < LL
        · obtain ⟨q, hq, hqe, hqr⟩ := AT.out t htl
          obtain ⟨b', off', rfl, r1⟩ := (RL7.out.below HB.out).at (i := t) (by rw [HLL.out]; exact htl)
          rw [hqe] at r1
          have HQE := hide hqe
          have HQR := hide hqr
          obtain ⟨ba, oa, ai, ci, rfl, hba, r7, R7⟩ := (HRW.out _ B7.out).at (i := q) (by rw [HFL.out]; exact hq)
          have HLr := hide (ROW.out q hq)
          have r2 := (HB.out.cell (p := ⟨ba, oa + q, none⟩) hba).trans r7
          rw [HLr.out] at r2
          have HRR : Hid (∀ (W : World), Below w7.heap.size w7 W → BRow W ai (F.getD q [])) := hide fun W hW => R7.below hW
          have t0 : (0 : Int) ≤ (t : Int) := by omega
          have t1 : (t : Int) < (LL : Int) := by omega
          have q0 : (0 : Int) ≤ (q : Int) := by omega
          have q1 : (q : Int) < (FL : Int) := by omega
          clear R7 r7 hqe hqr
          go_wp2_with fail
          go_loopw [18, 21, 22, 131] (fun v _ _ s wr => ∃ (b : Nat), s = .int .i64 b ∧ b ≤ M ∧ MbI F mm LK w7 wr t q b v) (fun _ _ _ s _ => M - (intOf s).toNat)
          case atStart => exact ⟨0, rfl, Nat.zero_le _, bl, HO, HB, HN, HGo, hide fun b hb => absurd hb (Nat.not_lt_zero _)⟩
          case round =>
            clear HO HB HN HGo r1 r2
            obtain ⟨b, rfl, hb, bl, HO, HB, HN, HGo, HBB⟩ := hrel
            by_cases hbM : b < M
            · obtain ⟨br, orr, rfl, _, r3⟩ := (HRR.out _ HB.out).at (i := b) (by rw [HLr.out]; exact hbM)
              have r3' : wr.cell? ⟨br, orr + b, none⟩ = some (.bool (Ma.fit F q b)) := r3
              have b0 : (0 : Int) ≤ (b : Int) := by omega
              have b1 : (b : Int) < (M : Int) := by omega
              obtain ⟨av, cv, hu18, hrv⟩ := own_any8 (by simp [Ma.cast8]) HO.out
              subst hu18
              have HRV := hide hrv
              have hbF : b < Ma.bins F := by rw [HMB.out]; exact hbM
              have hBl8 : bl.length ≤ 8 := by have := HN.out.len; rw [HMB.out] at this; omega
              have HHas := hide (Ma.cast8_has bl b)
              have HPush := hide fun (hf : Ma.fit F q b = true) (hnm : b ∉ bl) => HN.out.push (q := q) (by rw [HFL.out]; exact hq) HQR.out hbF hf hnm
              have HNX := hide fun (hh : Ma.fit F q b = true → b ∈ bl) => show ∀ b', b' < b + 1 → Ma.fit F q b' = true → b' ∈ bl from fun b' hb' hf => by
                by_cases e : b' = b
                · subst e; exact hh hf
                · exact HBB.out b' (by omega) hf
              have HCL0 : Hid ((Ma.cast8 bl).length = bl.length) := hide (by simp [Ma.cast8])
              generalize hCL : bl.length = CL at *
              have HCL := hide hCL
              clear r3 hrv hbF hCL
              generalize hfq : Ma.fit F q b = fq at *
              cases fq
              · have H1 := hide (HNX.out (fun h => by cases h))
                clear hfq
                go_wp2_with fail
                go_roundw
                case rel => exact ⟨b + 1, by go_num, by omega, bl, by rw [HCL.out]; exact HO, HB, HN, HGo, H1⟩
                case measure => simp only [intOf]; omega
              · by_cases hm : b ∈ bl
                · have HC := hide (show (Ma.cast8 bl).contains (b : Int) = true by rw [HHas.out]; simpa using hm)
                  have H1 := hide (HNX.out (fun _ => hm))
                  clear hfq hm
                  go_wp2_with fail
                  refine (lhas_eq HCL0 (by omega) HRV HC).mono ?_
                  rintro e w9 ⟨rfl, hw9⟩
                  obtain rfl : wr = w9 := hw9.symm
                  go_wp2_with fail
                  go_roundw
                  case rel => exact ⟨b + 1, by go_num, by omega, bl, by rw [HCL.out]; exact HO, HB, HN, HGo, H1⟩
                  case measure => simp only [intOf]; omega
                · have HC := hide (show (Ma.cast8 bl).contains (b : Int) = false by rw [HHas.out]; simpa using hm)
                  have HN2 := hide (HPush.out rfl hm)
                  have HGo2 := hide (gone_more HGo.out b)
                  have H1 : Hid (∀ b', b' < b + 1 → Ma.fit F q b' = true → b' ∈ bl ++ [b]) := hide fun b' hb' hf => by
                    by_cases e : b' = b
                    · subst e; simp
                    · exact List.mem_append_left _ (HBB.out b' (by omega) hf)
                  obtain ⟨v2, w3, hr3, own3, hg3, _⟩ := push_int8 (x := (b : Int)) HO.out (by omega) HB.out.size
                  rw [← ints_snoc, ← Ma.cast8_snoc] at own3
                  have HO3 := hide own3
                  have HB3 := hide (HB.out.trans (grown_under' hg3 HO.out (Nat.le_refl _) HB.out.size))
                  clear hfq hm own3 hg3
                  go_wp2_with fail
                  refine (lhas_eq HCL0 (by omega) HRV HC).mono ?_
                  rintro e w9 ⟨rfl, hw9⟩
                  obtain rfl : wr = w9 := hw9.symm
                  go_wp2_with (first | (at_builtin; refine Lib.wpList_append_run _ rfl _ _ _ _ rfl _ _ rfl rfl _ _ (hr3 _) ?_))
                  go_roundw
                  case rel => exact ⟨b + 1, by go_num, by omega, bl ++ [b], by rw [List.length_append, HCL.out]; exact HO3, HB3, HN2, HGo2, H1⟩
                  case measure => simp only [intOf]; omega
            · have hbe : b = M := by omega
              subst hbe
              have HGo2 := hide (gone_step HGo.out HQE.out (by rw [HMB.out]; exact HBB.out))
              go_wp2_with fail
              go_roundw
              case rel => exact ⟨t + 1, by go_num, by omega, bl, HO, HB, HN, HGo2⟩
              case measure => simp only [intOf]; omega
        · have hte : t = LL := by omega
          subst hte
          have hlen := EN.out bl HN.out HGo.out
          obtain ⟨av, cv, hu18, _⟩ := own_any8 (by simp [Ma.cast8]) HO.out
          subst hu18
          rw [hlen]
          have hcc := HCN.out
          have hw1 : wrap64 ((FL : Int) - CNT) = (FL : Int) - CNT := by unfold wrap64; omega
          have hw2 : wrap64 ((t : Int) - (YL : Int)) = (t : Int) - (YL : Int) := by unfold wrap64; omega
          have hne : ((FL : Int) - CNT != (t : Int) - (YL : Int)) = false := by rw [hcc]; simp
          have HBF := hide (HB1.out.trans ((B7.out.trans (HB.out.mono B7.out.size)).mono HB1.out.size))
          clear hcc hlen HO HB HN HGo
          go_wp2_with fail
          go_meet
          case rel => exact ⟨rfl, HBF⟩
  case rest =>
    obtain ⟨rfl, HBD⟩ := hcut
    clear HRW HB1 HIM HCI HFA HAT HEN HROW HBI HFL HLL HMLL RL7 RM7 B7 l8 y8 m8 hcn
    go_wp2_with fail
    refine (drawIM_any (hide (hs2.out.below HBD.out))).mono ?_
    rintro e w8 ⟨ag, cg, ax, cx, F2, ms, rfl, hf9, hx8, hxc, rg, rx, hb8⟩
    have B8 := hide (HBD.out.trans (hb8.mono HBD.out.size))
    have HI := hide (im_any (w := w8) (c := cg) (d := cx) rfl (by omega) rfl hxc rg rx)
    have HSI := hide (sim_any (w := w8) (c := cg) (d := cx) rfl (by omega) rfl hxc rg rx)
    have HML := hide (ml_w (w := w8) (c := cg) rfl rg)
    have HCX := hide fun (W : World) (h : Below w8.heap.size w8 W) => ci_any (w := W) (c := cx) rfl (rx.below h)
    have HCY := hide fun (W : World) (am : Option Addr) (cm nm : Nat) (em : (mtL F2).length = nm) (rm : ARow W am (mtL F2)) => ci_any (w := W) (c := cm) em rm
    have HWK := hide fun (h1 : Ma.goodB F2 = true) (h2 : Ma.imB F2 ms = true) => ma_weak h1 h2
    generalize Ma.imB F2 ms = I at *
    generalize Ma.cntI ms = CX at *
    generalize Ma.cntB ms = BX at *
    generalize Ma.cntI (mtL F2) = CY at *
    generalize Ma.cntB (mtL F2) = BY at *
    generalize Ma.goodB F2 = O at *
    generalize mtL F2 = MT2 at *
    generalize F2.length = FL2 at *
    generalize ms.length = XL2 at *
    have hOO : (O != O) = false := by simp
    have hII : (I != I) = false := by simp
    clear rg rx hb8 HBD
    go_wp2_with fail
    refine HI.out.mono ?_
    rintro e w9 ⟨rfl, hw9⟩
    obtain rfl : w8 = w9 := hw9.symm
    go_wp2_with fail
    refine HSI.out.mono ?_
    rintro e w9 ⟨rfl, hw9⟩
    obtain rfl : w8 = w9 := hw9.symm
    clear HI HSI
    have HLast : Hid (∀ W : World, Below w.heap.size w W → Src W a2 len2) := hide fun W hW => hs2.out.below hW
    cases O
    · go_wp2_with fail
      refine (drawCI_any (hide (HLast.out _ B8.out))).mono ?_
      rintro e w10 ⟨az, cz, zs, rfl, hz8, rz, hb10⟩
      have B10 := hide (B8.out.trans (hb10.mono B8.out.size))
      have HZI := hide (ci_any (w := w10) (c := cz) rfl rz)
      have HZS := hide (sci_any (w := w10) (c := cz) rfl rz)
      generalize Ma.cntI zs = ZI at *
      generalize Ma.cntB zs = ZB at *
      generalize zs.length = ZL at *
      have hZI : (ZI == ZI) = true := by simp
      have hZB : (ZB == ZB) = true := by simp
      clear rz hb10
      go_wp2_with fail
      refine HZI.out.mono ?_
      rintro e w11 ⟨rfl, hw11⟩
      obtain rfl : w10 = w11 := hw11.symm
      go_wp2_with fail
      refine HZS.out.mono ?_
      rintro e w11 ⟨rfl, hw11⟩
      obtain rfl : w10 = w11 := hw11.symm
      cases ZB
      · go_wp2_with fail
        go_ret
        exact ⟨rfl, B10.out⟩
      · go_wp2_with fail
        go_ret
        exact ⟨rfl, B10.out⟩
    · cases I
      · go_wp2_with fail
        refine (drawCI_any (hide (HLast.out _ B8.out))).mono ?_
        rintro e w10 ⟨az, cz, zs, rfl, hz8, rz, hb10⟩
        have B10 := hide (B8.out.trans (hb10.mono B8.out.size))
        have HZI := hide (ci_any (w := w10) (c := cz) rfl rz)
        have HZS := hide (sci_any (w := w10) (c := cz) rfl rz)
        generalize Ma.cntI zs = ZI at *
        generalize Ma.cntB zs = ZB at *
        generalize zs.length = ZL at *
        have hZI : (ZI == ZI) = true := by simp
        have hZB : (ZB == ZB) = true := by simp
        clear rz hb10
        go_wp2_with fail
        refine HZI.out.mono ?_
        rintro e w11 ⟨rfl, hw11⟩
        obtain rfl : w10 = w11 := hw11.symm
        go_wp2_with fail
        refine HZS.out.mono ?_
        rintro e w11 ⟨rfl, hw11⟩
        obtain rfl : w10 = w11 := hw11.symm
        cases ZB
        · go_wp2_with fail
          go_ret
          exact ⟨rfl, B10.out⟩
        · go_wp2_with fail
          go_ret
          exact ⟨rfl, B10.out⟩
      · obtain ⟨rfl, rfl, hle⟩ := HWK.out rfl rfl
        have HLE := hide hle
        clear hle HWK
        go_wp2_with fail
        refine HML.out.mono ?_
        rintro e w9 ⟨v9, rfl, hb9, o9⟩
        obtain ⟨am, cm, rfl, rm⟩ := own_any8 rfl o9
        have RM := hide rm
        have HX9 := hide (HCX.out _ hb9)
        have B9 := hide (B8.out.trans (hb9.mono B8.out.size))
        generalize hMTL : MT2.length = ML at *
        have HMTL := hide hMTL
        clear hb9 o9 rm HML hMTL HCX
        go_wp2_with fail
        refine HX9.out.mono ?_
        rintro e w10 ⟨rfl, hw10⟩
        obtain rfl : w9 = w10 := hw10.symm
        go_wp2_with fail
        refine (HCY.out _ _ _ _ rfl RM.out).mono ?_
        rintro e w10 ⟨rfl, hw10⟩
        obtain rfl : w9 = w10 := hw10.symm
        clear HCY HX9
        have hle : CX ≤ CY := HLE.out
        go_wp2_with fail
        refine (drawCI_any (hide (HLast.out _ B9.out))).mono ?_
        rintro e w10 ⟨az, cz, zs, rfl, hz8, rz, hb10⟩
        have B10 := hide (B9.out.trans (hb10.mono B9.out.size))
        have HZI := hide (ci_any (w := w10) (c := cz) rfl rz)
        have HZS := hide (sci_any (w := w10) (c := cz) rfl rz)
        generalize Ma.cntI zs = ZI at *
        generalize Ma.cntB zs = ZB at *
        generalize zs.length = ZL at *
        have hZI : (ZI == ZI) = true := by simp
        have hZB : (ZB == ZB) = true := by simp
        clear rz hb10
        go_wp2_with fail
        refine HZI.out.mono ?_
        rintro e w11 ⟨rfl, hw11⟩
        obtain rfl : w10 = w11 := hw11.symm
        go_wp2_with fail
        refine HZS.out.mono ?_
        rintro e w11 ⟨rfl, hw11⟩
        obtain rfl : w10 = w11 := hw11.symm
        cases ZB
        · go_wp2_with fail
          go_ret
          exact ⟨rfl, B10.out⟩
        · go_wp2_with fail
          go_ret
          exact ⟨rfl, B10.out⟩
theorem lMa8_walk {a1 a2 : Option Addr} {len1 cap1 len2 cap2 : Nat} {w : World} (hs1 : Src w a1 len1) (hs2 : Src w a2 len2) :
    Calls Try.prog 3 #[.slice a1 len1 cap1, .slice a2 len2 cap2] w fun e w' => e = .returned (.bool true) ∧ Below w.heap.size w w' := by
  by_cases h1 : (1048576 : Int) < wrap64 ((len1 : Int) + (len2 : Int))
  · exact lMa8_long h1
  · exact lMa8_main (hide hs1) (hide hs2) h1
end Go.Proofs.Ytfmdahpldjkifaa
