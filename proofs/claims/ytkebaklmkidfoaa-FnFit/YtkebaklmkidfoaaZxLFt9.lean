/-
  FnFit: the law's own walk.
-/
import Derived.Test.YtkebaklmkidfoaaZ6
import Derived.Deep.DeepCutAuto
namespace Go.Proofs.Ytkebaklmkidfoaa
open Go.RowKit

set_option maxRecDepth 100000 in
set_option maxHeartbeats 1000000 in
theorem lFt9_long {a1 a2 : Option Addr} {len1 cap1 len2 cap2 : Nat} {w : World} (h1 : (1048576 : Int) < wrap64 ((len1 : Int) + (len2 : Int))) :
    Calls Try.prog 3 #[.slice a1 len1 cap1, .slice a2 len2 cap2] w fun e w' => e = .returned (.bool true) ∧ Below w.heap.size w w' := by
  go_enter Try.func3, Try.ntmps3
  go_wp2_with fail
  go_ret
  exact ⟨rfl, Below.refl _ _⟩
set_option maxRecDepth 100000 in
set_option maxHeartbeats 16000000 in
theorem lFt9_main {a1 a2 : Option Addr} {len1 cap1 len2 cap2 : Nat} {w : World} (hs1 : Hid (Src w a1 len1)) (hs2 : Hid (Src w a2 len2)) (h1 : ¬ (1048576 : Int) < wrap64 ((len1 : Int) + (len2 : Int))) :
    Calls Try.prog 3 #[.slice a1 len1 cap1, .slice a2 len2 cap2] w fun e w' => e = .returned (.bool true) ∧ Below w.heap.size w w' := by
  go_enter Try.func3, Try.ntmps3
  go_wp2_with fail
  refine (drawCF_any hs1).mono ?_
  rintro e w1 ⟨ao, co, C, rfl, hl, hr, hb1⟩
  have HB1 := hide hb1
  have HCF := hide fun (W : World) (h : Below w1.heap.size w1 W) => cf_w (w := W) (ce := co) (hide rfl) (hide (hr.below h))
  have HSC := hide fun (W : World) (h : Below w1.heap.size w1 W) => scf_w (w := W) (ce := co) (hide rfl) (by omega) (hide (hr.below h))
  have HGC := hide fun (W : World) (h : Below w1.heap.size w1 W) => gc_any (w := W) (c := co) rfl (hr.below h)
  have HFC := hide fun (W : World) (h : Below w1.heap.size w1 W) (am : Option Addr) (cm : Nat) (rm : ARow W am (cfA C)) => fc_w (w := W) (c := co) (d := cm) rfl (cfA_len C) (hr.below h) rm
  have HPS := hide fun (W : World) (am an : Option Addr) (cm cn : Nat) (rm : ARow W am (cfB C)) (rn : ARow W an (cfC C)) => ps_w (w := W) (c := cm) (d := cn) (cfB_len C) (cfC_len C) rm rn
  have HPH := hide fun (W : World) (h : Below w1.heap.size w1 W) (am an : Option Addr) (cm cn : Nat) (rm : ARow W am (cfB C)) (rn : ARow W an (cfC C)) => ph_w (w := W) (f := co) (c := cm) (d := cn) rfl (cfB_len C) (cfC_len C) (hr.below h) rm rn
  have HTA := hide fun (W : World) (h : Below w1.heap.size w1 W) (am an : Option Addr) (cm cn : Nat) (rm : ARow W am (cfB C)) (rn : ARow W an (cfC C)) => ta_w (w := W) (f := co) (c := cm) (d := cn) rfl (cfB_len C) (cfC_len C) (hr.below h) rm rn
  have HFA := hide fun (h : Hu.costB C = true) => ft_facts h
  have HTI := hide fun (h : Hu.costB C = true) (i : Nat) (hi : i < C.length) => ft_tight h hi
  have HNY := hide fun (h : Hu.costB C = true) => cfN_yes h
  have HLA := hide (cfA_len C)
  have HLB := hide (cfB_len C)
  have HLC := hide (cfC_len C)
  have hN11 : cfN C ≤ 11 := by unfold cfN; split <;> omega
  generalize Hu.taL C (cfB C) (cfC C) = TA at *
  generalize Hu.phI C (cfB C) (cfC C) = PH at *
  generalize Hu.bothB C (cfB C) (cfC C) = BO at *
  generalize Hu.psI (cfB C) (cfC C) = PI at *
  generalize Hu.prB (cfB C) (cfC C) = PB at *
  generalize Hu.fcI C (cfA C) = FI at *
  generalize Hu.fcB C (cfA C) = FB at *
  generalize Hu.costB C = G at *
  generalize cfA C = fs at *
  generalize cfB C = us at *
  generalize cfC C = vs at *
  generalize cfN C = N at *
  generalize C.length = CL at *
  have hGG : (G != G) = false := by simp
  clear hr hb1
  have B1 := hide (Below.refl w1.heap.size w1)
  go_wp2_with fail
  refine (HCF.out _ B1.out).mono ?_
  rintro e w2 ⟨v, p, q, rfl, hO⟩
  obtain ⟨a0, c0, a1', c1', a2', c2', rfl, rfl, rfl, hc0, hV⟩ := cf_var hO HLA.out HLB.out HLC.out
  have x0 := hV.box.1
  have x1 := hV.box.2.1
  obtain ⟨WX, hWX⟩ : ∃ W, W = w2.alloc (.cells #[.slice a1' N c1', .slice a2' N c2'] 27) := ⟨_, rfl⟩
  rw [← hWX] at hV x0 x1
  obtain ⟨BX, hBX⟩ : ∃ b, b = w2.heap.size := ⟨_, rfl⟩
  rw [← hBX] at hV x0 x1
  have HV := hide hV
  have HWX := hide hWX.symm
  have HBX := hide hBX.symm
  clear hO hV hWX hBX HCF
  go_upto_region 5 with fail
  rw [HWX.out, HBX.out]
  clear HWX HBX
  go_wp2_with fail
  refine (HSC.out _ HV.out.b).mono ?_
  rintro e w3 ⟨v, p, q, rfl, hO⟩
  obtain ⟨e0, d0, e1, d1, e2, d2, rfl, rfl, rfl, _, hU⟩ := cf_var hO HLA.out HLB.out HLC.out
  have hVU := HV.out.below hU.b
  have y0 := hU.box.1
  have y1 := hU.box.2.1
  have z0 := hVU.box.1
  have z1 := hVU.box.2.1
  obtain ⟨WY, hWY⟩ : ∃ W, W = w3.alloc (.cells #[.slice e1 N d1, .slice e2 N d2] 27) := ⟨_, rfl⟩
  rw [← hWY] at hU hVU y0 y1 z0 z1
  obtain ⟨BY, hBY⟩ : ∃ b, b = w3.heap.size := ⟨_, rfl⟩
  rw [← hBY] at hU y0 y1
  have HU := hide hU
  have HV3 := hide hVU
  have HWY := hide hWY.symm
  have HBY := hide hBY.symm
  clear hO hU hVU hWY hBY HSC x0 x1 HV
  go_upto_region 6 with fail
  rw [HWY.out, HBY.out]
  clear HWY HBY
  go_wp2_with fail
  refine (sm9 HLA (by omega) HV3.out.r0 HU.out.r0).mono ?_
  rintro e w4 ⟨rfl, hb4⟩
  have HU4 := hide (HU.out.below hb4)
  have HV4 := hide (HV3.out.below hb4)
  have y0 := HU4.out.box.1
  have y1 := HU4.out.box.2.1
  have z0 := HV4.out.box.1
  have z1 := HV4.out.box.2.1
  clear hb4 HU HV3
  go_wp2_with fail
  refine (smp9 HLB HLC (by omega) (by omega) HV4.out.r1 HV4.out.r2 HU4.out.r1 HU4.out.r2).mono ?_
  rintro e w5 ⟨rfl, hb5⟩
  have HV5 := hide (HV4.out.below hb5)
  clear hb5 HU4 HV4 y0 y1 z0 z1
  go_wp2_with fail
  refine (HGC.out _ HV5.out.b).mono ?_
  rintro e w6 ⟨rfl, hw6⟩
  obtain rfl : w5 = w6 := hw6.symm
  clear HGC
  go_upto_if 74 with fail
  clear hGG
  go_cut [4, 12, 13, 14, 15, 16, 17, 18, 19, 20, 21] (fun s4 _ _ _ _ _ _ _ _ _ _ wd => s4 = .bool false ∧ Hid (Below w.heap.size w wd))
  case first =>
    cases G
    · go_wp2_with fail
      go_meet
      case rel => exact ⟨rfl, hide (HB1.out.trans (HV5.out.b.mono HB1.out.size))⟩
    · obtain ⟨rfl, rfl, rfl, rfl, hfi⟩ := HFA.out rfl
      have hNC := HNY.out rfl
      have TI := hide (HTI.out rfl)
      subst hfi
      subst hNC
      have hFF : (FI != FI) = false := by simp
      clear HFA HTI HNY
      go_wp2_with fail
      refine (HFC.out _ HV5.out.b _ _ HV5.out.r0).mono ?_
      rintro e w6 ⟨rfl, hb6⟩
      have HV6 := hide (HV5.out.below hb6)
      have z0 := HV6.out.box.1
      have z1 := HV6.out.box.2.1
      clear hb6 HV5
      go_wp2_with fail
      refine (HPS.out _ _ _ _ _ HV6.out.r1 HV6.out.r2).mono ?_
      rintro e w7 ⟨rfl, hb7⟩
      have HV7 := hide (HV6.out.below hb7)
      have z0 := HV7.out.box.1
      have z1 := HV7.out.box.2.1
      clear hb7 HV6
      go_wp2_with fail
      refine (HPH.out _ HV7.out.b _ _ _ _ HV7.out.r1 HV7.out.r2).mono ?_
      rintro e w8 ⟨rfl, hb8⟩
      have HV8 := hide (HV7.out.below hb8)
      have z0 := HV8.out.box.1
      have z1 := HV8.out.box.2.1
      clear hb8 HV7
      go_wp2_with fail
      refine (HTA.out _ HV8.out.b _ _ _ _ HV8.out.r1 HV8.out.r2).mono ?_
      rintro e w9 ⟨vt, rfl, hb9, hta⟩
      have HV9 := hide (HV8.out.below hb9)
      obtain ⟨at9, ct9, rfl, hgt⟩ := hta.rd
      have HGT := hide hgt
      generalize hTL : TA.length = TL at *
      have HTL := hide hTL
      clear hb9 HV8 hta hgt hTL HFC HPS HPH HTA z0 z1
      go_wp2_with fail
      go_loop [4, 20, 21, 123] (fun s4 _ _ s => ∃ (i : Nat), s4 = .bool false ∧ s = .int .i64 i ∧ i ≤ N) (fun _ _ _ s => N - (intOf s).toNat)
      case atStart => exact ⟨0, rfl, rfl, Nat.zero_le _⟩
      case round =>
        obtain ⟨i, rfl, rfl, hi⟩ := hrel
        by_cases hlt : i < N
        · obtain ⟨b, hbe, hbl, htl, htr, htt⟩ := TI.out i hlt
          obtain ⟨bf, of, rfl, r1⟩ := HV9.out.r0.at (i := i) (by rw [HLA.out]; exact hlt)
          rw [hbe] at r1
          obtain ⟨bt, ot, ai, ci, rfl, _, r2, R2⟩ := HGT.out.at (i := i) (by rw [HTL.out]; omega)
          rw [htr] at r2
          obtain ⟨br, or', rfl, _, r3⟩ := R2.at (i := b) (by rw [htr]; exact hbl)
          rw [htt] at r3
          have i0 : (0 : Int) ≤ (i : Int) := by omega
          have i1 : (i : Int) < (N : Int) := by omega
          have i2 : (i : Int) < (TL : Int) := by omega
          have b0 : (0 : Int) ≤ (b : Int) := by omega
          have b1 : (b : Int) < (N : Int) := by omega
          clear hbe htl htr htt R2
          go_wp2_with fail
          go_round
          case rel => exact ⟨i + 1, rfl, by go_num, by omega⟩
          case measure => simp only [intOf]; omega
        · have hie : i = N := by omega
          subst hie
          go_wp2_with fail
          go_meet
          case rel => exact ⟨rfl, hide (HB1.out.trans (HV9.out.b.mono HB1.out.size))⟩
  case rest =>
    obtain ⟨rfl, HBD⟩ := hcut
    clear HB1 HFC HPS HPH HTA HFA HTI HNY HLA HLB HLC HV5 B1 hN11 hl hc0
    go_wp2_with fail
    refine (drawFC_any (hide (hs2.out.below HBD.out))).mono ?_
    rintro e w8 ⟨ag, cg, ax, cx, C2, os, rfl, hf9, hx8, hxc, rg, rx, hb8⟩
    have B8 := hide (HBD.out.trans (hb8.mono HBD.out.size))
    have HFI := hide (fc_w (w := w8) (c := cg) (d := cx) rfl rfl rg rx)
    have HSF := hide fun (W : World) (h : Below w8.heap.size w8 W) => sfc_w (w := W) (c := cg) (d := cx) rfl rfl (by omega) hxc (rg.below h) (rx.below h)
    have HCF := hide fun (W : World) (h : Below w8.heap.size w8 W) => cf_w (w := W) (ce := cg) (hide rfl) (hide (rg.below h))
    have HPS := hide fun (W : World) (am an : Option Addr) (cm cn : Nat) (rm : ARow W am (cfB C2)) (rn : ARow W an (cfC C2)) => ps_w (w := W) (c := cm) (d := cn) (cfB_len C2) (cfC_len C2) rm rn
    have HWK := hide fun (h : Hu.fcB C2 os = true) => ft_weak h
    have HLA := hide (cfA_len C2)
    have HLB := hide (cfB_len C2)
    have HLC := hide (cfC_len C2)
    generalize Hu.psI (cfB C2) (cfC C2) = PI at *
    generalize Hu.prB (cfB C2) (cfC C2) = PB at *
    generalize Hu.fcI C2 os = FI at *
    generalize Hu.fcB C2 os = FB at *
    generalize Hu.costB C2 = G at *
    generalize cfA C2 = fs at *
    generalize cfB C2 = us at *
    generalize cfC C2 = vs at *
    generalize cfN C2 = N at *
    generalize C2.length = CL at *
    generalize os.length = OL at *
    have hBB : (FB != FB) = false := by simp
    have hII : (FI != FI) = false := by simp
    clear rg rx hb8 HBD
    go_wp2_with fail
    refine HFI.out.mono ?_
    rintro e w9 ⟨rfl, hb9⟩
    have H9 := hide hb9
    clear hb9 HFI
    go_wp2_with fail
    refine (HSF.out _ H9.out).mono ?_
    rintro e w10 ⟨rfl, hw10⟩
    obtain rfl : w9 = w10 := hw10.symm
    clear HSF
    have B9 := hide (B8.out.trans (H9.out.mono B8.out.size))
    cases FB
    · go_wp2_with fail
      go_ret
      exact ⟨rfl, B9.out⟩
    · obtain ⟨rfl, rfl, hle⟩ := HWK.out rfl
      have HLE := hide hle
      clear hle HWK
      go_wp2_with fail
      refine (HCF.out _ H9.out).mono ?_
      rintro e w11 ⟨v, p, q, rfl, hO⟩
      obtain ⟨a0', c0', a1', c1', a2', c2', rfl, rfl, rfl, _, hV⟩ := cf_var hO HLA.out HLB.out HLC.out
      have x0 := hV.box.1
      have x1 := hV.box.2.1
      obtain ⟨WX, hWX⟩ : ∃ W, W = w11.alloc (.cells #[.slice a1' N c1', .slice a2' N c2'] 27) := ⟨_, rfl⟩
      rw [← hWX] at hV x0 x1
      obtain ⟨BX, hBX⟩ : ∃ b, b = w11.heap.size := ⟨_, rfl⟩
      rw [← hBX] at hV x0 x1
      have HV := hide hV
      have HWX := hide hWX.symm
      have HBX := hide hBX.symm
      clear hO hV hWX hBX HCF
      go_upto_region 28 with fail
      rw [HWX.out, HBX.out]
      clear HWX HBX
      go_wp2_with fail
      refine (HPS.out _ _ _ _ _ HV.out.r1 HV.out.r2).mono ?_
      rintro e w12 ⟨rfl, hb12⟩
      have B12 := hide (B9.out.trans ((HV.out.below hb12).b.mono B9.out.size))
      have hle : PI ≤ FI := HLE.out
      clear hb12 HPS
      go_wp2_with fail
      go_ret
      exact ⟨rfl, B12.out⟩
theorem lFt9_walk {a1 a2 : Option Addr} {len1 cap1 len2 cap2 : Nat} {w : World} (hs1 : Src w a1 len1) (hs2 : Src w a2 len2) :
    Calls Try.prog 3 #[.slice a1 len1 cap1, .slice a2 len2 cap2] w fun e w' => e = .returned (.bool true) ∧ Below w.heap.size w w' := by
  by_cases h1 : (1048576 : Int) < wrap64 ((len1 : Int) + (len2 : Int))
  · exact lFt9_long h1
  · exact lFt9_main (hide hs1) (hide hs2) h1
end Go.Proofs.Ytkebaklmkidfoaa
