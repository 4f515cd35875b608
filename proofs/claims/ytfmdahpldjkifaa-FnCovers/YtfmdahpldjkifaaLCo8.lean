/-
  FnCovers: the law's own walk.
-/
import Derived.Test.YtfmdahpldjkifaaJv
import Derived.Deep.DeepCutAuto
namespace Go.Proofs.Ytfmdahpldjkifaa
open Go.RowKit

set_option maxRecDepth 100000 in
set_option maxHeartbeats 1000000 in
theorem lCo8_long {a1 a2 : Option Addr} {len1 cap1 len2 cap2 : Nat} {w : World} (h1 : (1048576 : Int) < wrap64 ((len1 : Int) + (len2 : Int))) :
    Calls Try.prog 4 #[.slice a1 len1 cap1, .slice a2 len2 cap2] w fun e w' => e = .returned (.bool true) ∧ Below w.heap.size w w' := by
  go_enter Try.func4, Try.ntmps4
  go_wp2_with fail
  go_ret
  exact ⟨rfl, Below.refl _ _⟩
set_option maxRecDepth 100000 in
set_option maxHeartbeats 8000000 in
theorem lCo8_main {a1 a2 : Option Addr} {len1 cap1 len2 cap2 : Nat} {w : World} (hs1 : Hid (Src w a1 len1)) (hs2 : Hid (Src w a2 len2)) (h1 : ¬ (1048576 : Int) < wrap64 ((len1 : Int) + (len2 : Int))) :
    Calls Try.prog 4 #[.slice a1 len1 cap1, .slice a2 len2 cap2] w fun e w' => e = .returned (.bool true) ∧ Below w.heap.size w w' := by
  go_enter Try.func4, Try.ntmps4
  go_wp2_with fail
  refine (drawCO_any hs1).mono ?_
  rintro e w1 ⟨ao, co, F, rfl, hl, hr, hb1⟩
  have HRW : Hid (∀ W, Below w1.heap.size w1 W → GRow W ao F) := hide fun W hW => hr.below hW
  have HB1 := hide hb1
  have HCV := hide fun (W : World) (h : Below w1.heap.size w1 W) => cv_w (w := W) (c := co) rfl (hr.below h)
  have HSC := hide fun (W : World) (h : Below w1.heap.size w1 W) => scv_w (w := W) (c := co) rfl (by omega) (hr.below h)
  have HML := hide fun (W : World) (h : Below w1.heap.size w1 W) => ml_w (w := W) (c := co) rfl (hr.below h)
  have HIC := hide fun (W : World) (h : Below w1.heap.size w1 W) (ax ay : Option Addr) (cx cy nx ny : Nat) (ex : (cvA F).length = nx) (ey : (cvB F).length = ny) (bx : nx ≤ 8) (by' : ny ≤ 8) (rx : ARow W ax (cvA F)) (ry : ARow W ay (cvB F)) => ic_any (w := W) (x := co) (y := cx) (z := cy) rfl (by omega) ex (by omega) ey (by omega) (hr.below h) rx ry
  have HCI := hide fun (W : World) (am : Option Addr) (cm nm : Nat) (em : (mtL F).length = nm) (rm : ARow W am (mtL F)) => ci_any (w := W) (c := cm) em rm
  have HFA := hide fun (h : Ma.goodB F = true) => co_facts h
  have x8 := cvA_8 F
  have y8 := cvB_8 F
  generalize Ma.icI F (cvA F) (cvB F) = ICI at *
  generalize Ma.icB F (cvA F) (cvB F) = ICB at *
  generalize Ma.cntI (mtL F) = CNT at *
  generalize Ma.cntB (mtL F) = CNB at *
  generalize Ma.goodB F = G at *
  generalize mtL F = MT at *
  generalize cvA F = XA at *
  generalize cvB F = XB at *
  generalize hFL : F.length = FL at *
  generalize hXL : XA.length = XL at *
  generalize hYL : XB.length = YL at *
  have HXL := hide hXL
  have HYL := hide hYL
  have hGG : (G != G) = false := by simp
  clear hr hb1 hFL hXL hYL
  have B1 := hide (Below.refl w1.heap.size w1)
  go_wp2_with fail
  refine (HCV.out _ B1.out).mono ?_
  rintro e w2 ⟨v0, v1, rfl, hb2, o0, o1, _⟩
  obtain ⟨ax, cx, rfl, rx⟩ := own_any8 HXL.out o0
  obtain ⟨ay, cy, rfl, ry⟩ := own_any8 HYL.out o1
  have RX2 := hide rx
  have RY2 := hide ry
  have B2 := hide (B1.out.trans (hb2.mono B1.out.size))
  clear hb2 o0 o1 rx ry B1 HCV
  go_wp2_with fail
  refine (HSC.out _ B2.out).mono ?_
  rintro e w3 ⟨u0, u1, rfl, hb3, o0, o1, _⟩
  obtain ⟨bx, dx, rfl, rx⟩ := own_any8 HXL.out o0
  obtain ⟨by', dy, rfl, ry⟩ := own_any8 HYL.out o1
  have SX3 := hide rx
  have SY3 := hide ry
  have RX3 := hide (RX2.out.below hb3)
  have RY3 := hide (RY2.out.below hb3)
  have B3 := hide (B2.out.trans (hb3.mono B2.out.size))
  clear hb3 o0 o1 rx ry B2 HSC RX2 RY2
  go_wp2_with fail
  refine (sam8 HXL (by omega) RX3.out SX3.out).mono ?_
  rintro e w4 ⟨rfl, hb4⟩
  have RX4 := hide (RX3.out.below hb4)
  have RY4 := hide (RY3.out.below hb4)
  have SY4 := hide (SY3.out.below hb4)
  have B4 := hide (B3.out.trans (hb4.mono B3.out.size))
  clear hb4 RX3 RY3 SX3 SY3 B3
  go_wp2_with fail
  refine (sam8 HYL (by omega) RY4.out SY4.out).mono ?_
  rintro e w5 ⟨rfl, hb5⟩
  have RX5 := hide (RX4.out.below hb5)
  have RY5 := hide (RY4.out.below hb5)
  have B5 := hide (B4.out.trans (hb5.mono B4.out.size))
  clear hb5 RX4 RY4 SY4 B4
  go_upto_if 64 with fail
  clear hGG
  go_cut [4, 12, 13, 14, 15, 16, 17] (fun s4 _ _ _ _ _ _ wd => s4 = .bool false ∧ Hid (Below w.heap.size w wd))
  case first =>
    cases G
    · go_wp2_with fail
      go_meet
      case rel => exact ⟨rfl, hide (HB1.out.trans (B5.out.mono HB1.out.size))⟩
    · obtain ⟨rfl, hcn, rfl, rfl⟩ := HFA.out rfl
      have HCN := hide hcn
      clear hcn HFA
      go_wp2_with fail
      refine (HML.out _ B5.out).mono ?_
      rintro e w6 ⟨v6, rfl, hb6, o6⟩
      obtain ⟨am, cm, rfl, rm⟩ := own_any8 rfl o6
      have RM := hide rm
      have RX6 := hide (RX5.out.below hb6)
      have RY6 := hide (RY5.out.below hb6)
      have B6 := hide (B5.out.trans (hb6.mono B5.out.size))
      generalize hMTL : MT.length = ML at *
      have HMTL := hide hMTL
      clear hb6 o6 rm RX5 RY5 B5 HML hMTL
      go_wp2_with fail
      refine (HCI.out _ _ _ _ rfl RM.out).mono ?_
      rintro e w7 ⟨rfl, hw7⟩
      obtain rfl : w6 = w7 := hw7.symm
      go_wp2_with fail
      refine (HIC.out _ B6.out _ _ _ _ _ _ rfl rfl x8 y8 RX6.out RY6.out).mono ?_
      rintro e w7 ⟨rfl, hw7⟩
      obtain rfl : w6 = w7 := hw7.symm
      have hne : (CNT != (XL : Int) + (YL : Int)) = false := by rw [HCN.out]; simp
      have hwr : wrap64 ((XL : Int) + (YL : Int)) = (XL : Int) + (YL : Int) := by unfold wrap64; omega
      go_wp2_with fail
      go_meet
      case rel => exact ⟨rfl, hide (HB1.out.trans (B6.out.mono HB1.out.size))⟩
  case rest =>
    obtain ⟨rfl, HBD⟩ := hcut
    clear HRW HB1 HML HIC HCI HFA HXL HYL x8 y8 RX5 RY5 B5
    go_wp2_with fail
    refine (drawIC_any (hide (hs2.out.below HBD.out))).mono ?_
    rintro e w8 ⟨ag, cg, ax2, cx2, ay2, cy2, F2, xs, ys, rfl, hf9, hx8, hy8, rg, rx, ry, hb8⟩
    have B8 := hide (HBD.out.trans (hb8.mono HBD.out.size))
    have HI := hide (ic_any (w := w8) (x := cg) (y := cx2) (z := cy2) rfl (by omega) rfl (by omega) rfl (by omega) rg rx ry)
    have HSI := hide (sic_any (w := w8) (x := cg) (y := cx2) (z := cy2) rfl (by omega) rfl (by omega) rfl (by omega) rg rx ry)
    have HML := hide (ml_w (w := w8) (c := cg) rfl rg)
    have HCI := hide fun (W : World) (am : Option Addr) (cm nm : Nat) (em : (mtL F2).length = nm) (rm : ARow W am (mtL F2)) => ci_any (w := W) (c := cm) em rm
    have HWK := hide fun (h1 : Ma.icB F2 xs ys = true) (h2 : Ma.icI F2 xs ys = true) => co_weak h1 h2
    generalize Ma.icI F2 xs ys = I at *
    generalize Ma.icB F2 xs ys = O at *
    generalize Ma.cntI (mtL F2) = CNT at *
    generalize Ma.cntB (mtL F2) = CNB at *
    generalize Ma.goodB F2 = G2 at *
    generalize mtL F2 = MT2 at *
    generalize F2.length = FL2 at *
    generalize xs.length = XL2 at *
    generalize ys.length = YL2 at *
    have hOO : (O != O) = false := by simp
    have hII : (I != I) = false := by simp
    clear rg rx ry hb8 HBD
    go_wp2_with fail
    refine HI.out.mono ?_
    rintro e w9 ⟨rfl, hw9⟩
    obtain rfl : w8 = w9 := hw9.symm
    go_wp2_with fail
    refine HSI.out.mono ?_
    rintro e w9 ⟨rfl, hw9⟩
    obtain rfl : w8 = w9 := hw9.symm
    clear HI HSI
    cases O
    · go_wp2_with fail
      go_ret
      exact ⟨rfl, B8.out⟩
    · cases I
      · go_wp2_with fail
        go_ret
        exact ⟨rfl, B8.out⟩
      · obtain ⟨rfl, rfl, hle⟩ := HWK.out rfl rfl
        have HLE := hide hle
        clear hle HWK
        go_wp2_with fail
        refine HML.out.mono ?_
        rintro e w9 ⟨v9, rfl, hb9, o9⟩
        obtain ⟨am, cm, rfl, rm⟩ := own_any8 rfl o9
        have RM := hide rm
        have B9 := hide (B8.out.trans (hb9.mono B8.out.size))
        generalize hMTL : MT2.length = ML at *
        have HMTL := hide hMTL
        clear hb9 o9 rm HML hMTL
        go_wp2_with fail
        refine (HCI.out _ _ _ _ rfl RM.out).mono ?_
        rintro e w10 ⟨rfl, hw10⟩
        obtain rfl : w9 = w10 := hw10.symm
        have hwr : wrap64 ((XL2 : Int) + (YL2 : Int)) = (XL2 : Int) + (YL2 : Int) := by unfold wrap64; omega
        have hle : CNT ≤ (XL2 : Int) + (YL2 : Int) := HLE.out
        go_wp2_with fail
        go_ret
        exact ⟨rfl, B9.out⟩
theorem lCo8_walk {a1 a2 : Option Addr} {len1 cap1 len2 cap2 : Nat} {w : World} (hs1 : Src w a1 len1) (hs2 : Src w a2 len2) :
    Calls Try.prog 4 #[.slice a1 len1 cap1, .slice a2 len2 cap2] w fun e w' => e = .returned (.bool true) ∧ Below w.heap.size w w' := by
  by_cases h1 : (1048576 : Int) < wrap64 ((len1 : Int) + (len2 : Int))
  · exact lCo8_long h1
  · exact lCo8_main (hide hs1) (hide hs2) h1
end Go.Proofs.Ytfmdahpldjkifaa
