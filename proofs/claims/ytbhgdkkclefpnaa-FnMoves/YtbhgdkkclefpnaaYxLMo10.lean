/-
  FnMoves: the law's own walk.
-/
import Derived.Test.YtbhgdkkclefpnaaY4
import Derived.Deep.DeepCutAuto
namespace Go.Proofs.Ytbhgdkkclefpnaa
open Go.RowKit

set_option maxRecDepth 100000 in
set_option maxHeartbeats 1000000 in
theorem lMo10_long {a1 a2 : Option Addr} {len1 cap1 len2 cap2 : Nat} {w : World} (h1 : (1048576 : Int) < wrap64 ((len1 : Int) + (len2 : Int))) :
    Calls Try.prog 3 #[.slice a1 len1 cap1, .slice a2 len2 cap2] w fun e w' => e = .returned (.bool true) ∧ Below w.heap.size w w' := by
  go_enter Try.func3, Try.ntmps3
  go_wp2_with fail
  go_ret
  exact ⟨rfl, Below.refl _ _⟩
set_option maxRecDepth 100000 in
set_option maxHeartbeats 8000000 in
theorem lMo10_main {a1 a2 : Option Addr} {len1 cap1 len2 cap2 : Nat} {w : World} (hs1 : Hid (Src w a1 len1)) (hs2 : Hid (Src w a2 len2)) (h1 : ¬ (1048576 : Int) < wrap64 ((len1 : Int) + (len2 : Int))) :
    Calls Try.prog 3 #[.slice a1 len1 cap1, .slice a2 len2 cap2] w fun e w' => e = .returned (.bool true) ∧ Below w.heap.size w w' := by
  go_enter Try.func3, Try.ntmps3
  go_wp2_with fail
  refine (drawPM_any hs1).mono ?_
  rintro e w1 ⟨ax, cx, ay, cy, xs, ws, n, rfl, hx, hw, hn1, hn2, hcx, hcy, rx, ry, hb1⟩
  have HB1 := hide hb1
  obtain ⟨A, R, hans⟩ := ans_some xs ws
  obtain ⟨b0, b1, b2, b3⟩ := ans_bd hans
  have hml := pmL_le xs ws
  have HFA := hide fun (h : Mx.sameB xs ws = true) => mo_facts hx h hans rfl
  have HRX := hide fun (W : World) (h : Below w1.heap.size w1 W) => rx.below h
  have HRY := hide fun (W : World) (h : Below w1.heap.size w1 W) => ry.below h
  have HX := hide hx
  have HW := hide hw
  generalize hPL : Mx.pmL xs ws = PL at *
  generalize hG : Mx.sameB xs ws = G at *
  generalize hm : PL.length = m at *
  have HM := hide hm
  have HPM := hide (pm_is (w := w1) (k := m) hx hw hcx hcy rx ry hG hPL hm)
  have HSP := hide fun (W : World) (h : Below w1.heap.size w1 W) => spm_is (w := W) (k := m) hx hw hcx hcy (rx.below h) (ry.below h) hG hPL hm
  have HMN := hide fun (W : World) (h : Below w1.heap.size w1 W) => mn_w (w := W) hx hw hcx hcy hans (rx.below h) (ry.below h)
  have HSM := hide fun (W : World) (h : Below w1.heap.size w1 W) => smn_w (w := W) hx hw hcx hcy hans (rx.below h) (ry.below h)
  have HGS := hide fun (W : World) (h : Below w1.heap.size w1 W) => gs_any (w := W) (c := cy) hw hcy (ry.below h)
  have HSG := hide fun (W : World) (h : Below w1.heap.size w1 W) => sgs_any (w := W) (c := cy) hw hcy (ry.below h)
  rw [hG] at HMN HSM
  generalize Mx.goodB ws = GS at *
  clear hPL hG hm hans hx hw rx ry hb1
  have hGG : (G != G) = false := by simp
  have hSS : (GS != GS) = false := by simp
  go_wp2_with fail
  refine HPM.out.mono ?_
  rintro e w2 ⟨al, cl, rfl, hb2, rl⟩
  have B2 := hide hb2
  have RL2 := hide rl
  clear hb2 rl HPM
  go_wp2_with fail
  refine (HSP.out _ B2.out).mono ?_
  rintro e w3 ⟨ap, cp, rfl, hb3, rp⟩
  have B3 := hide (B2.out.trans (hb3.mono B2.out.size))
  have RL3 := hide (RL2.out.below hb3)
  have RP3 := hide rp
  clear hb3 rp B2 RL2 HSP
  go_wp2_with fail
  refine (HMN.out _ B3.out).mono ?_
  rintro e w4 ⟨rfl, hb4⟩
  have B4 := hide (B3.out.trans (hb4.mono B3.out.size))
  have RL4 := hide (RL3.out.below hb4)
  have RP4 := hide (RP3.out.below hb4)
  clear hb4 B3 RL3 RP3 HMN
  go_wp2_with fail
  refine (HSM.out _ B4.out).mono ?_
  rintro e w5 ⟨rfl, hb5⟩
  have B5 := hide (B4.out.trans (hb5.mono B4.out.size))
  have RL5 := hide (RL4.out.below hb5)
  have RP5 := hide (RP4.out.below hb5)
  clear hb5 B4 RL4 RP4 HSM
  go_wp2_with fail
  refine (smv HM (by omega) RL5.out RP5.out).mono ?_
  rintro e w6 ⟨rfl, hb6⟩
  have B6 := hide (B5.out.trans (hb6.mono B5.out.size))
  have RL6 := hide (RL5.out.below hb6)
  clear hb6 B5 RL5 RP5
  go_wp2_with fail
  refine (HGS.out _ B6.out).mono ?_
  rintro e w7 ⟨rfl, hw7⟩
  obtain rfl : w6 = w7 := hw7.symm
  go_wp2_with fail
  refine (HSG.out _ B6.out).mono ?_
  rintro e w7 ⟨rfl, hw7⟩
  obtain rfl : w6 = w7 := hw7.symm
  clear HGS HSG
  go_upto_if 101 with fail
  go_cut [4, 15, 16, 17, 18, 19, 20] (fun s4 _ _ _ _ _ _ wd => s4 = .bool false ∧ Hid (Below w.heap.size w wd))
  case first =>
    cases G
    · go_wp2_with fail
      go_meet
      case rel => exact ⟨rfl, hide (HB1.out.trans (B6.out.mono HB1.out.size))⟩
    · obtain ⟨f1, d1, d2, k1, k2, k3, e1, e2⟩ := HFA.out rfl
      generalize hBL : backL PL = BL at *
      have HD1 := hide (dm_is (d := cl) HX.out hcx (HRX.out _ B6.out) HM.out RL6.out d1 d2 HW.out)
      have HBK := hide fun (W : World) (r : FRow W al PL) => bk_is (c := cl) HM.out r k1 k2 k3
      have HD2 := hide fun (W : World) (h : Below w1.heap.size w1 W) (ab : Option Addr) (cb : Nat) (r : FRow W ab BL) => dm_is (w := W) (d := cb) HW.out hcy (HRY.out _ h) k3 r e1 e2 HX.out
      have hmn : ((m : Int) != A + R) = false := by rw [f1]; simp
      have hm2 : m ≤ 20 := hml
      clear d1 d2 k1 k2 k3 e1 e2 HFA hBL
      go_wp2_with fail
      refine HD1.out.mono ?_
      rintro e w7 ⟨ae, ce, rfl, hce, hb7, re⟩
      have B7 := hide (B6.out.trans (hb7.mono B6.out.size))
      have RL7 := hide (RL6.out.below hb7)
      have RE7 := hide re
      clear hb7 re RL6 B6 HD1
      go_wp2_with fail
      refine (HBK.out _ RL7.out).mono ?_
      rintro e w8 ⟨ab, cb, rfl, hb8, rb⟩
      have B8 := hide (B7.out.trans (hb8.mono B7.out.size))
      have RE8 := hide (RE7.out.below hb8)
      have RB8 := hide rb
      clear hb8 rb RL7 RE7 B7 HBK
      go_wp2_with fail
      refine (HD2.out _ B8.out _ _ RB8.out).mono ?_
      rintro e w9 ⟨at', cs, rfl, hcs, hb9, rs⟩
      have B9 := hide (B8.out.trans (hb9.mono B8.out.size))
      have RE9 := hide (RE8.out.below hb9)
      have RS9 := hide rs
      clear hb9 rs RB8 RE8 B8 HD2
      go_wp2_with fail
      refine (si_same HW (by omega) RE9.out (HRY.out _ B9.out)).mono ?_
      rintro e w10 ⟨rfl, hb10⟩
      have B10 := hide (B9.out.trans (hb10.mono B9.out.size))
      have RS10 := hide (RS9.out.below hb10)
      clear hb10 RE9 RS9 B9
      go_wp2_with fail
      refine (si_same HX (by omega) RS10.out (HRX.out _ B10.out)).mono ?_
      rintro e w11 ⟨rfl, hb11⟩
      have B11 := hide (B10.out.trans (hb11.mono B10.out.size))
      clear hb11 RS10 B10
      go_wp2_with fail
      go_meet
      case rel => exact ⟨rfl, hide (HB1.out.trans (B11.out.mono HB1.out.size))⟩
  case rest =>
    obtain ⟨rfl, HBD⟩ := hcut
    clear HRX HRY HB1 HFA HX HW HM B6 RL6
    go_wp2_with fail
    refine (drawDM_any (hide (hs2.out.below HBD.out))).mono ?_
    rintro e v1 ⟨ax, cx, ab, cb, ys, M, n2, m2, rfl, hx, hl, hcx, hn, hm, rx, rm, hb1⟩
    have HB1 := hide (HBD.out.trans (hb1.mono HBD.out.size))
    obtain ⟨A2, R2, hans⟩ := ans_some ys (Mx.dmL ys M)
    obtain ⟨g0, g1, g2, g3⟩ := ans_bd hans
    have HFE := hide fun (h : Mx.dmB ys M = true) => mo_few h hans
    have hk9 := Mx.dmL_le ys M
    generalize hZ : Mx.dmL ys M = Z at *
    generalize hO : Mx.dmB ys M = O at *
    generalize hk : Z.length = k at *
    have HK := hide hk
    have HD := hide (dm_is (w := v1) (d := cb) hx hcx rx hl rm hO hZ hk)
    have HSD := hide fun (W : World) (h : Below v1.heap.size v1 W) => sdm_is (w := W) (d := cb) hx hcx (rx.below h) hl (rm.below h) hO hZ hk
    have HMN := hide fun (W : World) (h : Below v1.heap.size v1 W) (ay : Option Addr) (cy : Nat) (hcy : k ≤ cy) (r : ARow W ay Z) => mn_w (w := W) hx hk hcx hcy hans (rx.below h) r
    have HL := hide hl
    have hOO : (O != O) = false := by simp
    clear hZ hO hk hans hx rx rm hb1 hl
    go_wp2_with fail
    refine HD.out.mono ?_
    rintro e v2 ⟨ay, cy, rfl, hcy, hb2, ry⟩
    have B2 := hide hb2
    have RY2 := hide ry
    clear hb2 ry HD
    go_wp2_with fail
    refine (HSD.out _ B2.out).mono ?_
    rintro e v3 ⟨az, cz, rfl, hcz, hb3, rz⟩
    have B3 := hide (B2.out.trans (hb3.mono B2.out.size))
    have RY3 := hide (RY2.out.below hb3)
    have RZ3 := hide rz
    clear hb3 rz HSD B2 RY2
    go_wp2_with fail
    refine (si_same HK (by omega) RY3.out RZ3.out).mono ?_
    rintro e v4 ⟨rfl, hb4⟩
    have B4 := hide (B3.out.trans (hb4.mono B3.out.size))
    have RY4 := hide (RY3.out.below hb4)
    clear hb4 B3 RY3 RZ3
    go_upto_if 177 with fail
    go_cut [4, 27, 28] (fun s4 _ _ wd => s4 = .bool false ∧ Hid (Below w.heap.size w wd))
    case first =>
      cases O
      · go_wp2_with fail
        go_meet
        case rel => exact ⟨rfl, hide (HB1.out.trans (B4.out.mono HB1.out.size))⟩
      · obtain ⟨s1, f1⟩ := HFE.out rfl
        rw [s1] at HMN
        rw [HL.out] at f1
        clear s1 HFE
        go_wp2_with fail
        refine (HMN.out _ B4.out _ _ hcy RY4.out).mono ?_
        rintro e v5 ⟨rfl, hb5⟩
        have B5 := hide (B4.out.trans (hb5.mono B4.out.size))
        clear hb5 B4 RY4 HMN
        go_wp2_with fail
        go_meet
        case rel => exact ⟨rfl, hide (HB1.out.trans (B5.out.mono HB1.out.size))⟩
    case rest =>
      obtain ⟨rfl, HBE⟩ := hcut
      clear HB1 HBD B4 RY4 HMN HFE HK HL
      go_wp2_with fail
      refine (drawDO_any (hide (hs2.out.below HBE.out))).mono ?_
      rintro e u1 ⟨ad, cd, zs, n3, F, T, rfl, hx3, hc3, hn3, r3, hb1⟩
      have HB1 := hide (HBE.out.trans (hb1.mono HBE.out.size))
      have bA := below_alloc u1 (.cells #[.int .i64 F, .int .i64 T] 40)
      have c0 : (u1.alloc (.cells #[.int .i64 F, .int .i64 T] 40)).cell? ⟨u1.heap.size, 0, none⟩ = some (.int .i64 F) := by simp
      have c1 : (u1.alloc (.cells #[.int .i64 F, .int .i64 T] 40)).cell? ⟨u1.heap.size, 1, none⟩ = some (.int .i64 T) := by simp
      have hsz : u1.heap.size < (u1.alloc (.cells #[.int .i64 F, .int .i64 T] 40)).heap.size := by simp
      have RD := hide (r3.below bA)
      have HBA := hide (HB1.out.trans (bA.mono HB1.out.size))
      have hk9 := Mx.dmL_le zs [(F, T)]
      obtain ⟨Z2, hZ⟩ : ∃ Z2, Mx.dmL zs [(F, T)] = Z2 := ⟨_, rfl⟩
      obtain ⟨O2, hO⟩ : ∃ O2, Mx.dmB zs [(F, T)] = O2 := ⟨_, rfl⟩
      rw [hZ] at hk9
      obtain ⟨k2, hk⟩ : ∃ k2, Z2.length = k2 := ⟨_, rfl⟩
      rw [hk] at hk9
      have HK := hide hk
      obtain ⟨u2, hu2⟩ : ∃ u2, u1.alloc (.cells #[.int .i64 F, .int .i64 T] 40) = u2 := ⟨_, rfl⟩
      have HU := hide hu2
      rw [hu2] at c0 c1 RD HBA hsz
      have HD := hide (do_is (w := u2) hx3 hc3 RD.out hO hZ hk)
      have HSD := hide fun (W : World) (h : Below u2.heap.size u2 W) => sdo_is (w := W) hx3 hc3 (RD.out.below h) hO hZ hk
      clear hZ hO hk hx3 r3 hb1 bA hu2 RD
      go_upto_region 26 with fail
      rw [HU.out]
      clear HU
      go_wp2_with fail
      refine HD.out.mono ?_
      rintro e u3 ⟨ac, cc, rfl, hb3, rc⟩
      have d0 := (hb3.cell (p := ⟨u1.heap.size, 0, none⟩) hsz).trans c0
      have d1 := (hb3.cell (p := ⟨u1.heap.size, 1, none⟩) hsz).trans c1
      have B3 := hide hb3
      have RC3 := hide rc
      clear hb3 rc HD c0 c1
      go_wp2_with fail
      refine (HSD.out _ B3.out).mono ?_
      rintro e u4 ⟨am, cm, rfl, hb4, rm⟩
      have RC4 := hide (RC3.out.below hb4)
      have RM4 := hide rm
      have B4 := hide (HBA.out.trans ((B3.out.trans (hb4.mono B3.out.size)).mono HBA.out.size))
      clear hb4 rm HSD B3 RC3 d0 d1 HBA hsz
      go_wp2_with fail
      refine (drawBM_any (hide (hs2.out.below B4.out))).mono ?_
      rintro e u5 ⟨aq, cq, N, m3, rfl, hl3, hm3, rq, hb5⟩
      obtain ⟨Y, hY⟩ : ∃ Y, bkL N = Y := ⟨_, rfl⟩
      obtain ⟨O3, hO3⟩ : ∃ O3, bkB N = O3 := ⟨_, rfl⟩
      obtain ⟨k3, hk3⟩ : ∃ k3, Y.length = k3 := ⟨_, rfl⟩
      have hk20 : k3 ≤ 20 := by rw [← hk3, ← hY]; exact bkL_le N
      have HBK := hide (bk_is (w := u5) (c := cq) hl3 rq hO3 hY hk3)
      have HSB := hide fun (W : World) (h : Below u5.heap.size u5 W) => sbk_is (w := W) (c := cq) hl3 (by omega) (rq.below h) hO3 hY hk3
      have RC5 := hide (RC4.out.below hb5)
      have RM5 := hide (RM4.out.below hb5)
      have B5 := hide (B4.out.trans (hb5.mono B4.out.size))
      have HK3 := hide hk3
      clear hY hO3 hk3 hl3 rq hb5 B4 RC4 RM4
      go_wp2_with fail
      refine HBK.out.mono ?_
      rintro e u6 ⟨ae, ce, rfl, hb6, re⟩
      have RC6 := hide (RC5.out.below hb6)
      have RM6 := hide (RM5.out.below hb6)
      have RE6 := hide re
      have HS6 := hide (HSB.out _ hb6)
      have B6 := hide (B5.out.trans (hb6.mono B5.out.size))
      clear hb6 re HBK HSB RC5 RM5 B5
      go_wp2_with fail
      refine HS6.out.mono ?_
      rintro e u7 ⟨af, cf, rfl, hb7, rf⟩
      have RC7 := hide (RC6.out.below hb7)
      have RM7 := hide (RM6.out.below hb7)
      have RE7 := hide (RE6.out.below hb7)
      have RF7 := hide rf
      have B7 := hide (B6.out.trans (hb7.mono B6.out.size))
      have hoo : (O2 == O2) = true := by simp
      have hpp : (O3 == O3) = true := by simp
      clear hb7 rf HS6 RC6 RM6 RE6 B6
      go_wp2_with fail
      refine (si_same HK (by omega) RC7.out RM7.out).mono ?_
      rintro e u8 ⟨rfl, hb8⟩
      have RE8 := hide (RE7.out.below hb8)
      have RF8 := hide (RF7.out.below hb8)
      have B8 := hide (B7.out.trans (hb8.mono B7.out.size))
      clear hb8 RC7 RM7 RE7 RF7 B7
      go_wp2_with fail
      refine (smv HK3 (by omega) RE8.out RF8.out).mono ?_
      rintro e u9 ⟨rfl, hb9⟩
      have B9 := hide (B8.out.trans (hb9.mono B8.out.size))
      clear hb9 RE8 RF8 B8
      go_wp2_with fail
      go_ret
      exact ⟨rfl, B9.out⟩
theorem lMo10_walk {a1 a2 : Option Addr} {len1 cap1 len2 cap2 : Nat} {w : World} (hs1 : Src w a1 len1) (hs2 : Src w a2 len2) :
    Calls Try.prog 3 #[.slice a1 len1 cap1, .slice a2 len2 cap2] w fun e w' => e = .returned (.bool true) ∧ Below w.heap.size w w' := by
  by_cases h1 : (1048576 : Int) < wrap64 ((len1 : Int) + (len2 : Int))
  · exact lMo10_long h1
  · exact lMo10_main (hide hs1) (hide hs2) h1
end Go.Proofs.Ytbhgdkkclefpnaa
