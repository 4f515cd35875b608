/-
  At any sheet SheetProfile answers as the model does, in memory of its own: the law's own walk.
-/
import Derived.Test.YtogkbidphdpjaaaSe15
import Derived.Deep.DeepCutAuto
namespace Go.Proofs.Ytogkbidphdpjaaa
open Go.RowKit

theorem TS.loose {w : World} {X Y n n' : Nat} {gs : List Gd} {ls : List (Int × Int)} (t : TS w X Y n n' gs ls) : LooseV w (.slice (some ⟨X, 0, none⟩) n n) n ∧ LooseV w (.slice (some ⟨Y, 0, none⟩) n' n') n' :=
  ⟨Or.inr ⟨X, n, rfl, t.lx, t.lg⟩, Or.inr ⟨Y, n', rfl, t.ly, t.ll⟩⟩
theorem own_off {x b : Nat} (h : x ≠ b) (n c : Nat) : some x ≠ (Value.slice (some ⟨b, 0, none⟩) n c).ownBlock := fun e => h (by injection e)
set_option maxRecDepth 100000 in
set_option maxHeartbeats 8000000 in
theorem lSp15_main {a a' : Option Addr} {n c n' c' r : Nat} {ok : Bool} {gs : List Gd} {ls : List (Int × Int)} {R1 R2 : List Int} {w : World} (HN : Hid (gs.length = n)) (HM : Hid (n ≤ maxLen)) (HF : Hid (Fits gs)) (HA : Hid (GRow w a gs)) (HN' : Hid (ls.length = n')) (HM' : Hid (n' ≤ maxLen)) (HA' : Hid (LRow w a' ls))
    (HR1 : Hid (R1.length = r)) (HR2 : Hid (R2.length = r)) (hr' : r ≤ 1000) (Hs : Hid (n ≤ 1048576 → n' ≤ 1048576 → SpAns 14 n n' r ok gs ls R1 R2)) (Hi : Hid (n ≤ 1048576 → n' ≤ 1048576 → SpAns 15 n n' r ok gs ls R1 R2)) :
    Calls Try.prog 5 #[.agg #[.slice a n c, .slice a' n' c']] w fun e w' => e = .returned (.bool true) ∧ Below w.heap.size w w' := by
  have hne : (ok != ok) = false := by simp
  have HB0 := hide (below_new w (.cells #[.slice a n c, .slice a' n' c'] 25))
  have P0 := hide (PBox.new w (.slice a n c) (.slice a' n' c') 25)
  go_enter Try.func5, Try.ntmps5
  go_wp2_with fail
  refine (szSh_any HN HM HF (hide (HA.out.below HB0.out)) HM' (by omega) (by omega)).mono ?_
  rintro e w1 ⟨left, rfl, hl1, hl2, hb1⟩
  have P1 := hide (P0.out.below hb1)
  have HB1 := hide (HB0.out.trans (hb1.mono HB0.out.size))
  have zw : w.heap.size < w1.heap.size := P1.out.2.2
  clear hb1
  obtain ⟨p0, p1, _⟩ := P1.out
  rcases hl2 with rfl | ⟨hl0, hn, hn', hsh⟩
  · go_wp2_with fail
    go_ret
    exact ⟨rfl, HB1.out⟩
  have HSh := hide hsh
  have hl3 : ¬ left < 0 := by omega
  clear hsh
  go_wp2_with fail
  refine (toSh_any HN hn (hide (HA.out.below HB1.out)) HN' hn' (hide (HA'.out.below HB1.out))).mono ?_
  rintro e w2 ⟨X2, Y2, rfl, hb2, _, _, t2⟩
  have T2 := hide t2
  have P2 := hide (P1.out.below hb2)
  have HB2 := hide (HB1.out.trans (hb2.mono HB1.out.size))
  have z2 := hb2.size
  clear hb2 t2 p0 p1
  go_wp2_with fail
  refine (Hs.out hn hn' _ _ _ HSh.out T2.out).mono ?_
  rintro e w3 ⟨vv1, vv2, rfl, hb3, ow1, ow2, _⟩
  obtain ⟨v1, j1, rfl⟩ := own_sh ow1
  obtain ⟨v2, j2, rfl⟩ := own_sh ow2
  have z3 := hb3.size
  have bn3 := below_new w3 (.cells #[.slice v1 r j1, .slice v2 r j2] 40)
  have PV := hide (PBox.new w3 (.slice v1 r j1) (.slice v2 r j2) 40)
  have P3 := hide ((P2.out.below hb3).below bn3)
  have V0 := hide (own_below ow1 bn3)
  have V1 := hide (own_below ow2 bn3)
  have HVE : Hid (∀ g, (Value.slice v1 r j1).ownBlock = some g ∨ (Value.slice v2 r j2).ownBlock = some g → g < w3.heap.size) := hide fun g hg => by
    rcases hg with hg | hg
    · exact own_hi ow1 hg
    · exact own_hi ow2 hg
  have HB3 := hide ((HB2.out.trans (hb3.mono HB2.out.size)).trans (bn3.mono (by have := HB2.out.size; omega)))
  obtain ⟨w4, hw4⟩ : ∃ W, W = w3.alloc (.cells #[.slice v1 r j1, .slice v2 r j2] 40) := ⟨_, rfl⟩
  have s34 : w4.heap.size = w3.heap.size + 1 := by rw [hw4]; exact World.size_alloc _ _
  rw [← hw4] at PV P3 V0 V1 HB3
  have HW4 := hide hw4.symm
  obtain ⟨D4, hD4⟩ : ∃ b, b = w3.heap.size := ⟨_, rfl⟩
  rw [← hD4] at PV s34 HVE
  have HD4 := hide hD4.symm
  have HS34 := hide s34
  have zD4 : w.heap.size < D4 := by omega
  clear hb3 bn3 ow1 ow2 hw4 hD4 T2 s34 z2 z3
  go_upto_region 6 with fail
  rw [HW4.out, HD4.out]
  clear HW4 HD4
  obtain ⟨p0, p1, _⟩ := P3.out
  go_wp2_with fail
  refine (toSh_any HN hn (hide (HA.out.below HB3.out)) HN' hn' (hide (HA'.out.below HB3.out))).mono ?_
  rintro e w5 ⟨X5, Y5, rfl, hb5, hX5, hY5, t5⟩
  have hX5' : D4 < X5 := by have := HS34.out; omega
  have hY5' : D4 < Y5 := by have := HS34.out; omega
  have hXw := t5.lx
  have hYw := t5.ly
  have bn5 := below_new w5 (.cells #[.slice (some ⟨X5, 0, none⟩) n n, .slice (some ⟨Y5, 0, none⟩) n' n'] 31)
  have PX := hide (PBox.new w5 (.slice (some ⟨X5, 0, none⟩) n n) (.slice (some ⟨Y5, 0, none⟩) n' n') 31)
  have P5 := hide ((P3.out.below hb5).below bn5)
  have PV5 := hide ((PV.out.below hb5).below bn5)
  have V05 := hide (own_below (own_below V0.out hb5) bn5)
  have V15 := hide (own_below (own_below V1.out hb5) bn5)
  have T5 := hide (t5.below bn5)
  have HB5 := hide ((HB3.out.trans (hb5.mono HB3.out.size)).trans (bn5.mono (by have := HB3.out.size; have := hb5.size; omega)))
  obtain ⟨w6, hw6⟩ : ∃ W, W = w5.alloc (.cells #[.slice (some ⟨X5, 0, none⟩) n n, .slice (some ⟨Y5, 0, none⟩) n' n'] 31) := ⟨_, rfl⟩
  have s56 : w6.heap.size = w5.heap.size + 1 := by rw [hw6]; exact World.size_alloc _ _
  rw [← hw6] at PX P5 PV5 V05 V15 T5 HB5
  have HW6 := hide hw6.symm
  obtain ⟨D6, hD6⟩ : ∃ b, b = w5.heap.size := ⟨_, rfl⟩
  rw [← hD6] at PX s56 hXw hYw
  have HD6 := hide hD6.symm
  have HS56 := hide s56
  clear hb5 bn5 t5 hw6 hD6 V0 V1 PV P3 s56 p0 p1 hX5 hY5
  go_upto_region 7 with fail
  rw [HW6.out, HD6.out]
  clear HW6 HD6
  obtain ⟨x0, x1, _⟩ := PX.out
  go_wp2_with fail
  refine (Hi.out hn hn' _ _ _ HSh.out T5.out).mono ?_
  rintro e w7 ⟨vg1, vg2, rfl, hb7, og1, og2, gne⟩
  obtain ⟨g1, k1, rfl⟩ := own_sh og1
  obtain ⟨g2, k2, rfl⟩ := own_sh og2
  have GNE := hide gne
  have HGE : Hid (∀ g, (Value.slice g1 r k1).ownBlock = some g ∨ (Value.slice g2 r k2).ownBlock = some g → D6 < g ∧ g < w7.heap.size) := hide fun g hg => by
    have := HS56.out
    rcases hg with hg | hg
    · have := og1.lt g hg; omega
    · have := og2.lt g hg; omega
  have bn7 := below_new w7 (.cells #[.slice g1 r k1, .slice g2 r k2] 40)
  have b78 := hb7.trans (bn7.mono hb7.size)
  have PG := hide (PBox.new w7 (.slice g1 r k1) (.slice g2 r k2) 40)
  have P7 := hide (P5.out.below b78)
  have PV7 := hide (PV5.out.below b78)
  have PX7 := hide (PX.out.below b78)
  have V07 := hide (own_below V05.out b78)
  have V17 := hide (own_below V15.out b78)
  have G07 := hide (own_below og1 bn7)
  have G17 := hide (own_below og2 bn7)
  have T7 := hide (T5.out.below b78)
  have HB7 := hide (HB5.out.trans (b78.mono HB5.out.size))
  have z7 := hb7.size
  obtain ⟨w8, hw8⟩ : ∃ W, W = w7.alloc (.cells #[.slice g1 r k1, .slice g2 r k2] 40) := ⟨_, rfl⟩
  have s78 : w8.heap.size = w7.heap.size + 1 := by rw [hw8]; exact World.size_alloc _ _
  rw [← hw8] at PG P7 PV7 PX7 V07 V17 G07 G17 T7 HB7
  have HW8 := hide hw8.symm
  obtain ⟨D8, hD8⟩ : ∃ b, b = w7.heap.size := ⟨_, rfl⟩
  rw [← hD8] at PG HGE s78 z7
  have HD8 := hide hD8.symm
  have hD68 : D6 < D8 := by have := HS56.out; omega
  clear hb7 bn7 b78 og1 og2 gne hw8 hD8 x0 x1 V05 V15 P5 PV5 PX T5 s78 z7
  go_upto_region 8 with fail
  rw [HW8.out, HD8.out]
  clear HW8 HD8
  obtain ⟨q0, q1, _⟩ := PV7.out
  obtain ⟨q2, q3, _⟩ := PG.out
  go_wp2_with fail
  refine (eqPV_any HR1.out HR2.out (by omega) G07.out G17.out V07.out V17.out).mono ?_
  rintro e w9 ⟨rfl, hb9⟩
  have P9 := hide (P7.out.below hb9)
  have PV9 := hide (PV7.out.below hb9)
  have PX9 := hide (PX7.out.below hb9)
  have PG9 := hide (PG.out.below hb9)
  have V09 := hide (own_below V07.out hb9)
  have V19 := hide (own_below V17.out hb9)
  have G09 := hide (own_below G07.out hb9)
  have G19 := hide (own_below G17.out hb9)
  have T9 := hide (T7.out.below hb9)
  have HB9 := hide (HB7.out.trans (hb9.mono HB7.out.size))
  clear hb9 q0 q1 q2 q3 P7 PV7 PX7 PG V07 V17 G07 G17 T7
  go_upto_region 10 with fail
  have hbd : Below w9.heap.size w9 w9.drew := (Below.refl _ _).drew
  have hPd := P9.out.below hbd
  have hXd := PX9.out.below hbd
  have PVd := hide (PV9.out.below hbd)
  have PGd := hide (PG9.out.below hbd)
  have V0d := hide (own_below V09.out hbd)
  have V1d := hide (own_below V19.out hbd)
  have G0d := hide (own_below G09.out hbd)
  have G1d := hide (own_below G19.out hbd)
  have Td := hide (T9.out.below hbd)
  have HBd := hide (HB9.out.trans (hbd.mono HB9.out.size))
  have hSd := (⟨hPd.1, hPd.2.1, hXd.1, hXd.2.1⟩ : _ ∧ _ ∧ _ ∧ _)
  clear hbd P9 PV9 PX9 PG9 V09 V19 G09 G19 T9
  go_region_held3 (fun w' => w'.cell? ⟨w.heap.size, 0, none⟩ = some (.slice a n c) ∧ w'.cell? ⟨w.heap.size, 1, none⟩ = some (.slice a' n' c') ∧ w'.cell? ⟨D6, 0, none⟩ = some (.slice (some ⟨X5, 0, none⟩) n n) ∧ w'.cell? ⟨D6, 1, none⟩ = some (.slice (some ⟨Y5, 0, none⟩) n' n'))
    (first | exact hSd | assumption | fail)
    (first
    | (go_at_call 9; refine (toSh_any HN hn (hide (HA.out.below HBd.out)) HN' hn' (hide (HA'.out.below HBd.out))).mono ?_; rintro e w10 ⟨X10, Y10, rfl, hb10, _, _, t10⟩; have T10 := hide t10; have Te := hide (Td.out.below hb10); have hP10 := hPd.below hb10; have hX10 := hXd.below hb10; have PVe := hide (PVd.out.below hb10); have PGe := hide (PGd.out.below hb10); have V0e := hide (own_below V0d.out hb10); have V1e := hide (own_below V1d.out hb10); have G0e := hide (own_below G0d.out hb10); have G1e := hide (own_below G1d.out hb10); have HB10 := hide (HBd.out.trans (hb10.mono HBd.out.size)); have hS10 := (⟨hP10.1, hP10.2.1, hX10.1, hX10.2.1⟩ : _ ∧ _ ∧ _ ∧ _); clear hb10 t10)
    | (go_at_call 11; refine (eqSh15 HN hn HN' hn' Te.out.g Te.out.l T10.out.g T10.out.l).mono ?_; rintro e w11 ⟨rfl, hb11⟩; have T11 := hide (Te.out.below hb11); have hP11 := hP10.below hb11; have hX11 := hX10.below hb11; have PV11 := hide (PVe.out.below hb11); have PG11 := hide (PGe.out.below hb11); have V011 := hide (own_below V0e.out hb11); have V111 := hide (own_below V1e.out hb11); have G011 := hide (own_below G0e.out hb11); have G111 := hide (own_below G1e.out hb11); have HB11 := hide (HB10.out.trans (hb11.mono HB10.out.size)); have hS11 := (⟨hP11.1, hP11.2.1, hX11.1, hX11.2.1⟩ : _ ∧ _ ∧ _ ∧ _); clear hb11)
    | fail)
  have P11 := hide hP11
  have PX11 := hide hX11
  have hz11 : D8 < w11.heap.size := PG11.out.2.2
  clear hPd hXd hSd hP10 hX10 hS10 hP11 hX11 hS11 PVd PGd V0d V1d G0d G1d Td T10 Te PVe PGe V0e V1e G0e G1e HB10
  obtain ⟨x0, x1, _⟩ := PX11.out
  go_wp2_with fail
  refine (markSh_v hn hn' (by omega) (by omega) T11.out.loose.1 T11.out.loose.2 (fun g h1 h2 => T11.out.ne (by cases h1; cases h2; rfl))).mono ?_
  rintro e w12 ⟨rfl, _, _, ofx⟩
  have m1 := ofx.size
  have FR : Hid (∀ b, b < w11.heap.size → b ≠ X5 → b ≠ Y5 → w12.heap[b]? = w11.heap[b]?) := hide fun b hb n1 n2 => ofx.block b hb (own_off n1 _ _) (own_off n2 _ _)
  have P12 := hide (P11.out.keep m1 (FR.out _ P11.out.2.2 (by omega) (by omega)))
  have PV12 := hide (PV11.out.keep m1 (FR.out _ PV11.out.2.2 (by omega) (by omega)))
  have PG12 := hide (PG11.out.keep m1 (FR.out _ PG11.out.2.2 (by omega) (by omega)))
  have V012 := hide (own_keep V011.out fun g hg hl => FR.out g hl (by have := HVE.out g (Or.inl hg); omega) (by have := HVE.out g (Or.inl hg); omega))
  have V112 := hide (own_keep V111.out fun g hg hl => FR.out g hl (by have := HVE.out g (Or.inr hg); omega) (by have := HVE.out g (Or.inr hg); omega))
  have G012 := hide (own_keep G011.out fun g hg hl => FR.out g hl (by have := HGE.out g (Or.inl hg); omega) (by have := HGE.out g (Or.inl hg); omega))
  have G112 := hide (own_keep G111.out fun g hg hl => FR.out g hl (by have := HGE.out g (Or.inr hg); omega) (by have := HGE.out g (Or.inr hg); omega))
  have HB12 : Hid (Below w.heap.size w w12) := hide (HB11.out.trans ⟨ofx.os, ofx.tape, ofx.output, m1, fun b hb => FR.out b (by omega) (by omega) (by omega)⟩)
  have hk : ¬ (1 : Int) + (n : Int) * 2 + (n' : Int) * 2 < 0 := by omega
  clear ofx FR P11 PV11 PX11 PG11 V011 V111 G011 G111 T11 HB11 x0 x1 m1
  obtain ⟨q0, q1, _⟩ := PV12.out
  obtain ⟨q2, q3, _⟩ := PG12.out
  go_wp2_with fail
  refine (eqPV_any HR1.out HR2.out (by omega) G012.out G112.out V012.out V112.out).mono ?_
  rintro e w13 ⟨rfl, hb13⟩
  have m3 := hb13.size
  have P13 := hide (P12.out.below hb13)
  have PV13 := hide (PV12.out.below hb13)
  have PG13 := hide (PG12.out.below hb13)
  have V013 := hide (own_below V012.out hb13)
  have V113 := hide (own_below V112.out hb13)
  have G013 := hide (own_below G012.out hb13)
  have G113 := hide (own_below G112.out hb13)
  have HB13 := hide (HB12.out.trans (hb13.mono HB12.out.size))
  clear hb13 q0 q1 q2 q3 P12 PV12 PG12 V012 V112 G012 G112 HB12 m3
  obtain ⟨q2, q3, _⟩ := PG13.out
  go_wp2_with fail
  refine (markPV_any HR1.out HR2.out (by omega) (by omega) (by omega) G013.out G113.out GNE.out).mono ?_
  rintro e w14 ⟨rfl, hv1, hv2, ofv⟩
  have m4 := ofv.size
  have FV : Hid (∀ b, b < w13.heap.size → (b ≤ D6 ∨ b = D8) → w14.heap[b]? = w13.heap[b]?) := hide fun b hb ho => ofv.block b hb (fun he => by have := HGE.out b (Or.inl he.symm); omega) (fun he => by have := HGE.out b (Or.inr he.symm); omega)
  have P14 := hide (P13.out.keep m4 (FV.out _ P13.out.2.2 (Or.inl (by omega))))
  have PV14 := hide (PV13.out.keep m4 (FV.out _ PV13.out.2.2 (Or.inl (by omega))))
  have PG14 := hide (PG13.out.keep m4 (FV.out _ PG13.out.2.2 (Or.inr rfl)))
  have V014 := hide (own_keep V013.out fun g hg hl => FV.out g hl (Or.inl (by have := HVE.out g (Or.inl hg); omega)))
  have V114 := hide (own_keep V113.out fun g hg hl => FV.out g hl (Or.inl (by have := HVE.out g (Or.inr hg); omega)))
  have HB14 : Hid (Below w.heap.size w w14) := hide (HB13.out.trans ⟨ofv.os, ofv.tape, ofv.output, ofv.size, fun b hb => FV.out b (by have := HB13.out.size; omega) (Or.inl (by omega))⟩)
  have HH := hide (And.intro hv1 hv2)
  have hq0 : ¬ (1 : Int) + (r : Int) + (r : Int) < 0 := by omega
  have hq1 : ((1 : Int) + (r : Int) + (r : Int) != 1 + (r : Int) + (r : Int)) = false := by simp
  clear q2 q3 FV ofv hv1 hv2 G013 G113 P13 PV13 PG13 V013 V113 HB13 HGE HVE GNE m4
  obtain ⟨q2, q3, _⟩ := PG14.out
  go_wp2_with fail
  refine (heldPV_any (by omega) (by omega) (by omega) HH.out.1 HH.out.2).mono ?_
  rintro e w15 ⟨rfl, hb15⟩
  have HH15 := hide (And.intro (HH.out.1.below hb15) (HH.out.2.below hb15))
  have P15 := hide (P14.out.below hb15)
  have PV15 := hide (PV14.out.below hb15)
  have PG15 := hide (PG14.out.below hb15)
  have V015 := hide (own_below V014.out hb15)
  have V115 := hide (own_below V114.out hb15)
  have HB15 := hide (HB14.out.trans (hb15.mono HB14.out.size))
  clear hb15 q2 q3 HH P14 PV14 PG14 V014 V114 HB14
  obtain ⟨p0, p1, _⟩ := P15.out
  go_wp2_with fail
  refine (toSh_any HN hn (hide (HA.out.below HB15.out)) HN' hn' (hide (HA'.out.below HB15.out))).mono ?_
  rintro e w16 ⟨X16, Y16, rfl, hb16, _, _, t16⟩
  have T16 := hide t16
  have HH16 := hide (And.intro (HH15.out.1.below hb16) (HH15.out.2.below hb16))
  have PV16 := hide (PV15.out.below hb16)
  have PG16 := hide (PG15.out.below hb16)
  have V016 := hide (own_below V015.out hb16)
  have V116 := hide (own_below V115.out hb16)
  have HB16 := hide (HB15.out.trans (hb16.mono HB15.out.size))
  clear hb16 t16 p0 p1 HH15 P15 PV15 PG15 V015 V115 HB15
  go_wp2_with fail
  refine (Hi.out hn hn' _ _ _ HSh.out T16.out).mono ?_
  rintro e w17 ⟨vh1, vh2, rfl, hb17, oh1, oh2, _⟩
  obtain ⟨u1, i1, rfl⟩ := own_sh oh1
  obtain ⟨u2, i2, rfl⟩ := own_sh oh2
  have bn17 := below_new w17 (.cells #[.slice u1 r i1, .slice u2 r i2] 40)
  have b1618 := hb17.trans (bn17.mono hb17.size)
  have HH18 := hide (And.intro (HH16.out.1.below b1618) (HH16.out.2.below b1618))
  have PV18 := hide (PV16.out.below b1618)
  have PG18 := hide (PG16.out.below b1618)
  have V018 := hide (own_below V016.out b1618)
  have V118 := hide (own_below V116.out b1618)
  have U018 := hide (own_below oh1 bn17)
  have U118 := hide (own_below oh2 bn17)
  have HB18 := hide (HB16.out.trans (b1618.mono HB16.out.size))
  clear hb17 bn17 b1618 oh1 oh2 HH16 PV16 PG16 V016 V116 HB16 T16
  obtain ⟨q0, q1, _⟩ := PV18.out
  go_wp2_with fail
  refine (eqPV_any HR1.out HR2.out (by omega) U018.out U118.out V018.out V118.out).mono ?_
  rintro e w19 ⟨rfl, hb19⟩
  have HH19 := hide (And.intro (HH18.out.1.below hb19) (HH18.out.2.below hb19))
  have PG19 := hide (PG18.out.below hb19)
  have HB19 := hide (HB18.out.trans (hb19.mono HB18.out.size))
  clear hb19 q0 q1 HH18 PG18 PV18 HB18
  obtain ⟨q2, q3, _⟩ := PG19.out
  go_wp2_with fail
  refine (heldPV_any (by omega) (by omega) (by omega) HH19.out.1 HH19.out.2).mono ?_
  rintro e w20 ⟨rfl, hb20⟩
  have HB20 := HB19.out.trans (hb20.mono HB19.out.size)
  clear q2 q3
  go_wp2_with fail
  go_ret
  exact ⟨rfl, HB20⟩
theorem lSp15_walk {a a' : Option Addr} {n c n' c' : Nat} {gs : List Gd} {ls : List (Int × Int)} {w : World} (HN : Hid (gs.length = n)) (HM : Hid (n ≤ maxLen)) (HF : Hid (Fits gs)) (HA : Hid (GRow w a gs)) (HN' : Hid (ls.length = n')) (HM' : Hid (n' ≤ maxLen)) (HA' : Hid (LRow w a' ls)) :
    Calls Try.prog 5 #[.agg #[.slice a n c, .slice a' n' c']] w fun e w' => e = .returned (.bool true) ∧ Below w.heap.size w w' := by
  have e1 := HN.out
  have e2 := HN'.out
  subst e1 e2
  by_cases h : gs.length ≤ 1048576 ∧ ls.length ≤ 1048576
  · obtain ⟨r, ok, R1, R2, h1, h2, h3, h4, h5⟩ := sp_both h.1 h.2
    exact lSp15_main HN HM HF HA HN' HM' HA' (hide h1) (hide h2) h3 (hide fun _ _ => h4) (hide fun _ _ => h5)
  · exact lSp15_main (R1 := []) (R2 := []) (r := 0) (ok := false) HN HM HF HA HN' HM' HA' (hide rfl) (hide rfl) (by omega) (hide fun h1 h2 => absurd ⟨h1, h2⟩ h) (hide fun h1 h2 => absurd ⟨h1, h2⟩ h)
end Go.Proofs.Ytogkbidphdpjaaa
