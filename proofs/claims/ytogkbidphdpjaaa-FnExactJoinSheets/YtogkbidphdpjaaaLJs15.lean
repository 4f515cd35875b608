/-
  At any two sheets JoinSheets answers as the model does: the law's own walk.
-/
import Derived.Test.YtogkbidphdpjaaaWl15
import Derived.Deep.DeepCutAuto
import Derived.Deep.RegionHeld3
namespace Go.Proofs.Ytogkbidphdpjaaa
open Go.RowKit

set_option maxRecDepth 100000 in
set_option maxHeartbeats 16000000 in
theorem lJs15_main {a a' b b' : Option Addr} {n c n' c' m d m' d' k1 k2 : Nat} {ok : Bool} {ga gb gs : List Gd} {la lb ls : List (Int × Int)} {w : World}
    (HN : Hid (ga.length = n)) (HM : Hid (n ≤ maxLen)) (HF : Hid (Fits ga)) (HA : Hid (GRow w a ga)) (HN' : Hid (la.length = n')) (HM' : Hid (n' ≤ maxLen)) (HA' : Hid (LRow w a' la))
    (GN : Hid (gb.length = m)) (GM : Hid (m ≤ maxLen)) (GF : Hid (Fits gb)) (GA : Hid (GRow w b gb)) (GN' : Hid (lb.length = m')) (GM' : Hid (m' ≤ maxLen)) (GA' : Hid (LRow w b' lb))
    (HK1 : Hid (gs.length = k1)) (HK2 : Hid (ls.length = k2)) (hk1 : k1 ≤ 12) (hk2 : k2 ≤ 80)
    (Hs : Hid (Short ga → Short gb → n ≤ 1048576 → n' ≤ 1048576 → m ≤ 1048576 → m' ≤ 1048576 → JsAns 20 n n' m m' k1 k2 ok ga gb gs la lb ls))
    (Hi : Hid (Short ga → Short gb → n ≤ 1048576 → n' ≤ 1048576 → m ≤ 1048576 → m' ≤ 1048576 → JsAns 21 n n' m m' k1 k2 ok ga gb gs la lb ls)) :
    Calls Try.prog 6 #[.agg #[.slice a n c, .slice a' n' c'], .agg #[.slice b m d, .slice b' m' d']] w fun e w' => e = .returned (.bool true) ∧ Below w.heap.size w w' := by
  have hne : (ok != ok) = false := by simp
  have E0 := hide (JA2.new w (.slice a n c) (.slice a' n' c') (.slice b m d) (.slice b' m' d') 25 25)
  go_enter Try.func6, Try.ntmps6
  obtain ⟨p0, p1, _⟩ := E0.out.pa
  go_wp2_with fail
  refine (szSh_any HN HM HF (hide (HA.out.below E0.out.below)) HM' (by omega) (by omega)).mono ?_
  rintro e w1 ⟨left, rfl, hl1, hl2, hb1⟩
  have E1 := hide (E0.out.below' hb1)
  clear hb1 E0 p0 p1
  rcases hl2 with rfl | ⟨hl0, hn, hn', hsh⟩
  · go_wp2_with fail
    go_ret
    exact ⟨rfl, E1.out.below⟩
  have HSh := hide hsh
  have hl3 : ¬ left < 0 := by omega
  clear hsh
  obtain ⟨p0, p1, _⟩ := E1.out.pb
  go_wp2_with fail
  refine (szSh_any GN GM GF (hide (GA.out.below E1.out.below)) GM' hl0 hl1).mono ?_
  rintro e w2 ⟨left2, rfl, _, hl2', hb2⟩
  have E2 := hide (E1.out.below' hb2)
  clear hb2 E1 p0 p1
  rcases hl2' with rfl | ⟨hm0, hm, hm', hsh⟩
  · go_wp2_with fail
    go_ret
    exact ⟨rfl, E2.out.below⟩
  have GSh := hide hsh
  have hl4 : ¬ left2 < 0 := by omega
  clear hsh
  have HS' := hide (Hs.out HSh.out GSh.out hn hn' hm hm')
  have HI' := hide (Hi.out HSh.out GSh.out hn hn' hm hm')
  clear Hs Hi HSh GSh
  go_upto_region 8 with fail
  have HTA := hide fun (X : World) (hX : Below w2.heap.size w2 X) => (toSh_any (a := a) (c := c) (a' := a') (c' := c') (w := X) HN hn (hide (HA.out.below (E2.out.below.trans (hX.mono E2.out.below.size)))) HN' hn' (hide (HA'.out.below (E2.out.below.trans (hX.mono E2.out.below.size))))).mono (fun (e : Ending) (w' : World) h => by obtain ⟨XA, YA, he, hb, _, _, t⟩ := h; exact (⟨XA, YA, he, hb, t⟩ : ∃ XA YA, e = .returned (.agg #[.slice (some ⟨XA, 0, none⟩) n n, .slice (some ⟨YA, 0, none⟩) n' n']) ∧ Below X.heap.size X w' ∧ TS w' XA YA n n' ga la))
  have HTB := hide fun (X : World) (hX : Below w2.heap.size w2 X) => (toSh_any (a := b) (c := d) (a' := b') (c' := d') (w := X) GN hm (hide (GA.out.below (E2.out.below.trans (hX.mono E2.out.below.size)))) GN' hm' (hide (GA'.out.below (E2.out.below.trans (hX.mono E2.out.below.size))))).mono (fun (e : Ending) (w' : World) h => by obtain ⟨XB, YB, he, hb, _, _, t⟩ := h; exact (⟨XB, YB, he, hb, t⟩ : ∃ XB YB, e = .returned (.agg #[.slice (some ⟨XB, 0, none⟩) m m, .slice (some ⟨YB, 0, none⟩) m' m']) ∧ Below X.heap.size X w' ∧ TS w' XB YB m m' gb lb))
  have HSA : Hid (∀ X, Below w2.heap.size w2 X → (X.cell? ⟨w.heap.size, 0, none⟩ = some (.slice a n c) ∧ X.cell? ⟨w.heap.size, 1, none⟩ = some (.slice a' n' c')) ∧ X.cell? ⟨w.heap.size + 1, 0, none⟩ = some (.slice b m d) ∧ X.cell? ⟨w.heap.size + 1, 1, none⟩ = some (.slice b' m' d')) := hide fun X hX => ⟨⟨(E2.out.pa.below hX).1, (E2.out.pa.below hX).2.1⟩, (E2.out.pb.below hX).1, (E2.out.pb.below hX).2.1⟩
  have HBL : Hid (Below w2.heap.size w2 w2.drew) := hide (Below.refl _ _).drew
  go_cut [6, 7, 27, 28, 29, 30, 31, 32, 33, 34] (fun s6 s7 _ _ _ _ _ _ _ _ wc => ∃ FB p1 q1 p2 q2, s6 = .pointer (some ⟨FB, 0, none⟩) ∧ s7 = .bool ok ∧ Hid (JQ w2 wc FB (.slice p1 k1 q1) (.slice p2 k2 q2) gs ls))
  case first =>
    refine wp_region_noPanic ?_
    refine wp_region_held_drew (S := (fun X => (X.cell? ⟨w.heap.size, 0, none⟩ = some (.slice a n c) ∧ X.cell? ⟨w.heap.size, 1, none⟩ = some (.slice a' n' c')) ∧ X.cell? ⟨w.heap.size + 1, 0, none⟩ = some (.slice b m d) ∧ X.cell? ⟨w.heap.size + 1, 1, none⟩ = some (.slice b' m' d'))) (by kernel_rfl) (HSA.out _ HBL.out) (fun hHeld => ?_)
    clear hHeld
    refine wpAnyH_take (i := 0) (oi := ⟨some 28, _, _, _, _, none⟩) (v := .agg #[.slice a n c, .slice a' n' c']) rfl (by kernel_rfl) (by kernel_rfl) (by kernel_rfl) (fun _ _ _ h => h) (Or.inl ⟨by rfl, fun w' hSw => by obtain ⟨⟨s0, s1⟩, s2, s3⟩ := hSw; go_simp⟩) (HSA.out _ HBL.out) ?_
    simp only [Act.put, List.setIfInBounds_toArray, List.set_cons_zero, List.set_cons_succ]
    refine wpAnyH_take (i := 2) (oi := ⟨some 30, _, _, _, _, none⟩) (v := .agg #[.slice b m d, .slice b' m' d']) rfl (by kernel_rfl) (by kernel_rfl) (by kernel_rfl) (fun _ _ _ h => h) (Or.inl ⟨by rfl, fun w' hSw => by obtain ⟨⟨s0, s1⟩, s2, s3⟩ := hSw; go_simp⟩) (HSA.out _ HBL.out) ?_
    simp only [Act.put, List.setIfInBounds_toArray, List.set_cons_zero, List.set_cons_succ]
    refine jsd8_n HTA HTB HS' HSA (hide fun XA YA XB YB FB p1 p2 q1 q2 X HCF => ?_) HBL
    go_wp2_with fail
    go_meet
    case rel => exact ⟨FB, p1, q1, p2, q2, rfl, rfl, hide HCF⟩
  case rest =>
    obtain ⟨FB, p1, q1, p2, q2, rfl, rfl, HCF⟩ := hcut
    have HVE : Hid (∀ g, (Value.slice p1 k1 q1).ownBlock = some g ∨ (Value.slice p2 k2 q2).ownBlock = some g → g < wc.heap.size) := hide fun g hg => by
      rcases hg with hg | hg
      · exact (HCF.out.o.o1.lt _ hg).2
      · exact (HCF.out.o.o2.lt _ hg).2
    have E3 := hide (E2.out.below' HCF.out.below)
    have V3 : Hid (JV w2 wc FB (.slice p1 k1 q1) (.slice p2 k2 q2) gs ls) := hide ⟨HCF.out.o, HCF.out.p⟩
    have HFB : Hid (FB < wc.heap.size ∧ w2.heap.size ≤ wc.heap.size ∧ w.heap.size + 1 < w2.heap.size) := hide ⟨HCF.out.p.2.2, HCF.out.below.size, E2.out.pb.2.2⟩
    clear HSA HBL HTA HTB HS' HCF E2
    obtain ⟨p0, p1, _⟩ := E3.out.pa
    go_wp2_with fail
    refine (toSh_any HN hn (hide (HA.out.below E3.out.below)) HN' hn' (hide (HA'.out.below E3.out.below))).mono ?_
    rintro e w4 ⟨X4, Y4, rfl, hb4, hX4, hY4, t4⟩
    have bn4 := below_new w4 (.cells #[.slice (some ⟨X4, 0, none⟩) n n, .slice (some ⟨Y4, 0, none⟩) n' n'] 31)
    have b34 := hb4.trans (bn4.mono hb4.size)
    have PX := hide (PBox.new w4 (.slice (some ⟨X4, 0, none⟩) n n) (.slice (some ⟨Y4, 0, none⟩) n' n') 31)
    have E4 := hide (E3.out.below' b34)
    have V4 := hide (V3.out.below b34)
    have T4 := hide (t4.below bn4)
    have OX4 : Hid (wc.heap.size ≤ X4 ∧ wc.heap.size ≤ Y4 ∧ X4 < w4.heap.size ∧ Y4 < w4.heap.size) := hide ⟨hX4, hY4, t4.lx, t4.ly⟩
    obtain ⟨w5, hw5⟩ : ∃ W, W = w4.alloc (.cells #[.slice (some ⟨X4, 0, none⟩) n n, .slice (some ⟨Y4, 0, none⟩) n' n'] 31) := ⟨_, rfl⟩
    have S45 : Hid (w5.heap.size = w4.heap.size + 1) := hide (by rw [hw5]; exact World.size_alloc _ _)
    rw [← hw5] at PX E4 V4 T4
    have HW5 := hide hw5.symm
    obtain ⟨D8, hD8⟩ : ∃ b, b = w4.heap.size := ⟨_, rfl⟩
    rw [← hD8] at PX S45 OX4
    have HD8 := hide hD8.symm
    clear hb4 bn4 b34 t4 hw5 hD8 E3 V3 p0 p1 hX4 hY4
    go_upto_region 10 with fail
    rw [HW5.out, HD8.out]
    clear HW5 HD8
    obtain ⟨p0, p1, _⟩ := E4.out.pb
    go_wp2_with fail
    refine (toSh_any GN hm (hide (GA.out.below E4.out.below)) GN' hm' (hide (GA'.out.below E4.out.below))).mono ?_
    rintro e w6 ⟨X6, Y6, rfl, hb6, hX6, hY6, t6⟩
    have bn6 := below_new w6 (.cells #[.slice (some ⟨X6, 0, none⟩) m m, .slice (some ⟨Y6, 0, none⟩) m' m'] 31)
    have b56 := hb6.trans (bn6.mono hb6.size)
    have PY := hide (PBox.new w6 (.slice (some ⟨X6, 0, none⟩) m m) (.slice (some ⟨Y6, 0, none⟩) m' m') 31)
    have E6 := hide (E4.out.below' b56)
    have V6 := hide (V4.out.below b56)
    have T46 := hide (T4.out.below b56)
    have PX6 := hide (PX.out.below b56)
    have T6 := hide (t6.below bn6)
    have OX6 : Hid (w5.heap.size ≤ X6 ∧ w5.heap.size ≤ Y6 ∧ X6 < w6.heap.size ∧ Y6 < w6.heap.size) := hide ⟨hX6, hY6, t6.lx, t6.ly⟩
    obtain ⟨w7, hw7⟩ : ∃ W, W = w6.alloc (.cells #[.slice (some ⟨X6, 0, none⟩) m m, .slice (some ⟨Y6, 0, none⟩) m' m'] 31) := ⟨_, rfl⟩
    have S67 : Hid (w7.heap.size = w6.heap.size + 1) := hide (by rw [hw7]; exact World.size_alloc _ _)
    rw [← hw7] at PY PX6 E6 V6 T46 T6
    have HW7 := hide hw7.symm
    obtain ⟨D9, hD9⟩ : ∃ b, b = w6.heap.size := ⟨_, rfl⟩
    rw [← hD9] at PY S67 OX6
    have HD9 := hide hD9.symm
    clear hb6 bn6 b56 t6 hw7 hD9 E4 V4 T4 PX p0 p1 hX6 hY6
    go_upto_region 11 with fail
    rw [HW7.out, HD9.out]
    clear HW7 HD9
    obtain ⟨x0, x1, _⟩ := PX6.out
    obtain ⟨y0, y1, _⟩ := PY.out
    go_wp2_with fail
    refine (HI'.out _ _ _ _ _ T46.out T6.out).mono ?_
    rintro e w8 ⟨g1, g2, r1, r2, rfl, hb8, o8⟩
    have bn8 := below_new w8 (.cells #[.slice g1 k1 r1, .slice g2 k2 r2] 31)
    have b78 := hb8.trans (bn8.mono hb8.size)
    have HGE : Hid (∀ g, (Value.slice g1 k1 r1).ownBlock = some g ∨ (Value.slice g2 k2 r2).ownBlock = some g → w7.heap.size ≤ g ∧ g < w8.heap.size) := hide fun g hg => by
      rcases hg with hg | hg
      · exact o8.o1.lt _ hg
      · exact o8.o2.lt _ hg
    have GNE := hide o8.ne
    have S9 : Hid (JAll w w2 w7 (w8.alloc (.cells #[.slice g1 k1 r1, .slice g2 k2 r2] 31)) (.slice a n c) (.slice a' n' c') (.slice b m d) (.slice b' m' d') FB D8 X4 Y4 n n' D9 X6 Y6 m m' w8.heap.size (.slice p1 k1 q1) (.slice p2 k2 q2) (.slice g1 k1 r1) (.slice g2 k2 r2) ga gb gs la lb ls) :=
      hide ⟨E6.out.below' b78, V6.out.below b78, T46.out.below b78, PX6.out.below b78, T6.out.below b78, PY.out.below b78, o8.below bn8, PBox.new w8 _ _ _⟩
    have z78 := hb8.size
    obtain ⟨w9, hw9⟩ : ∃ W, W = w8.alloc (.cells #[.slice g1 k1 r1, .slice g2 k2 r2] 31) := ⟨_, rfl⟩
    rw [← hw9] at S9
    have HW9 := hide hw9.symm
    obtain ⟨D10, hD10⟩ : ∃ b, b = w8.heap.size := ⟨_, rfl⟩
    rw [← hD10] at S9 HGE z78
    have HD10 := hide hD10.symm
    have HORD : Hid (JOrd w w2 w7 wc.heap.size FB X4 Y4 D8 X6 Y6 D9 D10 (.slice p1 k1 q1) (.slice p2 k2 q2) (.slice g1 k1 r1) (.slice g2 k2 r2)) := hide (by
      obtain ⟨f1, f2, f3⟩ := HFB.out
      obtain ⟨i1, i2, i3, i4⟩ := OX4.out
      obtain ⟨j1, j2, j3, j4⟩ := OX6.out
      have := S45.out
      have := S67.out
      exact ⟨f3, f2, f1, i1, i2, i3, i4, by omega, by omega, j3, j4, by omega, z78, HVE.out, HGE.out⟩)
    clear hb8 bn8 b78 o8 hw9 hD10 E6 V6 T46 PX6 T6 PY x0 x1 y0 y1 z78 HFB OX4 OX6 S45 S67 HVE
    go_upto_region 12 with fail
    rw [HW9.out, HD10.out]
    clear HW9 HD10
    obtain ⟨q0, q1, _⟩ := S9.out.v.p
    obtain ⟨q2, q3, _⟩ := S9.out.g.p
    go_wp2_with fail
    refine (eqSh15 HK1 (by omega) HK2 (by omega) S9.out.g.o.rows.1 S9.out.g.o.rows.2 S9.out.v.o.rows.1 S9.out.v.o.rows.2).mono ?_
    rintro e w10 ⟨rfl, hb10⟩
    have S10 := hide (S9.out.below hb10)
    clear hb10 q0 q1 q2 q3 S9
    go_upto_region 14 with fail
    have hbd : Below w10.heap.size w10 w10.drew := (Below.refl _ _).drew
    have S11 := hide (S10.out.below hbd)
    have hSd := (⟨S11.out.e.pa.1, S11.out.e.pa.2.1, S11.out.px.1, S11.out.px.2.1⟩ : _ ∧ _ ∧ _ ∧ _)
    clear hbd S10
    go_region_held3 (fun w' => w'.cell? ⟨w.heap.size, 0, none⟩ = some (.slice a n c) ∧ w'.cell? ⟨w.heap.size, 1, none⟩ = some (.slice a' n' c') ∧ w'.cell? ⟨D8, 0, none⟩ = some (.slice (some ⟨X4, 0, none⟩) n n) ∧ w'.cell? ⟨D8, 1, none⟩ = some (.slice (some ⟨Y4, 0, none⟩) n' n'))
      (first | exact hSd | assumption | fail)
      (first
      | (go_at_call 9; refine (toSh_any HN hn (hide (HA.out.below S11.out.e.below)) HN' hn' (hide (HA'.out.below S11.out.e.below))).mono ?_; rintro e we ⟨Xe, Ye, rfl, hbe, _, _, te⟩; have Te := hide te; have S11e := hide (S11.out.below hbe); have hSe := (⟨S11e.out.e.pa.1, S11e.out.e.pa.2.1, S11e.out.px.1, S11e.out.px.2.1⟩ : _ ∧ _ ∧ _ ∧ _); clear hbe te)
      | (go_at_call 11; refine (eqSh15 HN hn HN' hn' S11e.out.x.g S11e.out.x.l Te.out.g Te.out.l).mono ?_; rintro e w12 ⟨rfl, hbf⟩; have S12 := hide (S11e.out.below hbf); have hSf := (⟨S12.out.e.pa.1, S12.out.e.pa.2.1, S12.out.px.1, S12.out.px.2.1⟩ : _ ∧ _ ∧ _ ∧ _); clear hbf)
      | fail)
    clear hSd hSe hSf S11 Te S11e
    go_upto_region 16 with fail
    have hbd : Below w12.heap.size w12 w12.drew := (Below.refl _ _).drew
    have S13 := hide (S12.out.below hbd)
    have hSd := (⟨S13.out.e.pb.1, S13.out.e.pb.2.1, S13.out.py.1, S13.out.py.2.1⟩ : _ ∧ _ ∧ _ ∧ _)
    clear hbd S12
    go_region_held3 (fun w' => w'.cell? ⟨w.heap.size + 1, 0, none⟩ = some (.slice b m d) ∧ w'.cell? ⟨w.heap.size + 1, 1, none⟩ = some (.slice b' m' d') ∧ w'.cell? ⟨D9, 0, none⟩ = some (.slice (some ⟨X6, 0, none⟩) m m) ∧ w'.cell? ⟨D9, 1, none⟩ = some (.slice (some ⟨Y6, 0, none⟩) m' m'))
      (first | exact hSd | assumption | fail)
      (first
      | (go_at_call 9; refine (toSh_any GN hm (hide (GA.out.below S13.out.e.below)) GN' hm' (hide (GA'.out.below S13.out.e.below))).mono ?_; rintro e we ⟨Xe, Ye, rfl, hbe, _, _, te⟩; have Te := hide te; have S13e := hide (S13.out.below hbe); have hSe := (⟨S13e.out.e.pb.1, S13e.out.e.pb.2.1, S13e.out.py.1, S13e.out.py.2.1⟩ : _ ∧ _ ∧ _ ∧ _); clear hbe te)
      | (go_at_call 11; refine (eqSh15 GN hm GN' hm' S13e.out.y.g S13e.out.y.l Te.out.g Te.out.l).mono ?_; rintro e w14 ⟨rfl, hbf⟩; have S14 := hide (S13e.out.below hbf); have hSf := (⟨S14.out.e.pb.1, S14.out.e.pb.2.1, S14.out.py.1, S14.out.py.2.1⟩ : _ ∧ _ ∧ _ ∧ _); clear hbf)
      | fail)
    clear hSd hSe hSf S13 Te S13e
    obtain ⟨x0, x1, _⟩ := S14.out.px
    go_wp2_with fail
    refine (markSh_v hn hn' (by omega) (by omega) S14.out.x.loose15.1 S14.out.x.loose15.2 (fun g h1 h2 => S14.out.x.ne (by cases h1; cases h2; rfl))).mono ?_
    rintro e w15 ⟨rfl, _, _, of1⟩
    have S15 := hide (S14.out.mark HORD.out of1)
    clear of1 S14 x0 x1
    obtain ⟨y0, y1, _⟩ := S15.out.py
    go_wp2_with fail
    refine (markSh_v hm hm' (by omega) (by omega) S15.out.y.loose15.1 S15.out.y.loose15.2 (fun g h1 h2 => S15.out.y.ne (by cases h1; cases h2; rfl))).mono ?_
    rintro e w16 ⟨rfl, _, _, of2⟩
    have S16 := hide (S15.out.mark HORD.out of2)
    have hk : ¬ (1 : Int) + (n : Int) * 2 + (n' : Int) * 2 + (m : Int) * 2 + (m' : Int) * 2 < 0 := by omega
    clear of2 S15 y0 y1
    obtain ⟨q0, q1, _⟩ := S16.out.v.p
    obtain ⟨q2, q3, _⟩ := S16.out.g.p
    go_wp2_with fail
    refine (eqSh15 HK1 (by omega) HK2 (by omega) S16.out.g.o.rows.1 S16.out.g.o.rows.2 S16.out.v.o.rows.1 S16.out.v.o.rows.2).mono ?_
    rintro e w17 ⟨rfl, hb17⟩
    have S17 := hide (S16.out.below hb17)
    clear hb17 q0 q1 q2 q3 S16
    obtain ⟨q2, q3, _⟩ := S17.out.g.p
    go_wp2_with fail
    refine (markSh_v (by omega) (by omega) (by omega) (by omega) (S17.out.g.o.loose HK1.out HK2.out).1 (S17.out.g.o.loose HK1.out HK2.out).2 GNE.out).mono ?_
    rintro e w18 ⟨rfl, hm1, hm2, of3⟩
    have S18 := hide (S17.out.mark HORD.out of3 ⟨hm1, hm2⟩)
    have hq0 : ¬ (1 : Int) + (k1 : Int) * 2 + (k2 : Int) * 2 < 0 := by omega
    have hq1 : ((1 : Int) + (k1 : Int) * 2 + (k2 : Int) * 2 != 1 + (k1 : Int) * 2 + (k2 : Int) * 2) = false := by simp
    clear of3 hm1 hm2 S17 q2 q3 hk
    obtain ⟨q2, q3, _⟩ := S18.out.p
    go_wp2_with fail
    refine (heldSh15 (by omega) (by omega) (by omega) (by omega) S18.out.h.g S18.out.h.l).mono ?_
    rintro e w19 ⟨rfl, hb19⟩
    have S19 := hide (S18.out.below hb19)
    clear hb19 q2 q3 S18
    go_upto_region 31 with fail
    have HTA := hide fun (X : World) (hX : Below w19.heap.size w19 X) => (toSh_any (a := a) (c := c) (a' := a') (c' := c') (w := X) HN hn (hide (HA.out.below (S19.out.e.below.trans (hX.mono S19.out.e.below.size)))) HN' hn' (hide (HA'.out.below (S19.out.e.below.trans (hX.mono S19.out.e.below.size))))).mono (fun (e : Ending) (w' : World) h => by obtain ⟨XA, YA, he, hb, _, _, t⟩ := h; exact (⟨XA, YA, he, hb, t⟩ : ∃ XA YA, e = .returned (.agg #[.slice (some ⟨XA, 0, none⟩) n n, .slice (some ⟨YA, 0, none⟩) n' n']) ∧ Below X.heap.size X w' ∧ TS w' XA YA n n' ga la))
    have HTB := hide fun (X : World) (hX : Below w19.heap.size w19 X) => (toSh_any (a := b) (c := d) (a' := b') (c' := d') (w := X) GN hm (hide (GA.out.below (S19.out.e.below.trans (hX.mono S19.out.e.below.size)))) GN' hm' (hide (GA'.out.below (S19.out.e.below.trans (hX.mono S19.out.e.below.size))))).mono (fun (e : Ending) (w' : World) h => by obtain ⟨XB, YB, he, hb, _, _, t⟩ := h; exact (⟨XB, YB, he, hb, t⟩ : ∃ XB YB, e = .returned (.agg #[.slice (some ⟨XB, 0, none⟩) m m, .slice (some ⟨YB, 0, none⟩) m' m']) ∧ Below X.heap.size X w' ∧ TS w' XB YB m m' gb lb))
    have HSA : Hid (∀ X, Below w19.heap.size w19 X → (X.cell? ⟨w.heap.size, 0, none⟩ = some (.slice a n c) ∧ X.cell? ⟨w.heap.size, 1, none⟩ = some (.slice a' n' c')) ∧ X.cell? ⟨w.heap.size + 1, 0, none⟩ = some (.slice b m d) ∧ X.cell? ⟨w.heap.size + 1, 1, none⟩ = some (.slice b' m' d')) := hide fun X hX => ⟨⟨(S19.out.e.pa.below hX).1, (S19.out.e.pa.below hX).2.1⟩, (S19.out.e.pb.below hX).1, (S19.out.e.pb.below hX).2.1⟩
    have HBL : Hid (Below w19.heap.size w19 w19.drew) := hide (Below.refl _ _).drew
    go_cut [15, 16, 94, 95, 96, 97, 98, 99, 100, 101] (fun s6 s7 _ _ _ _ _ _ _ _ wc => ∃ FB p1 q1 p2 q2, s6 = .pointer (some ⟨FB, 0, none⟩) ∧ s7 = .bool ok ∧ Hid (JQ w19 wc FB (.slice p1 k1 q1) (.slice p2 k2 q2) gs ls))
    case first =>
      refine wp_region_noPanic ?_
      refine wp_region_held_drew (S := (fun X => (X.cell? ⟨w.heap.size, 0, none⟩ = some (.slice a n c) ∧ X.cell? ⟨w.heap.size, 1, none⟩ = some (.slice a' n' c')) ∧ X.cell? ⟨w.heap.size + 1, 0, none⟩ = some (.slice b m d) ∧ X.cell? ⟨w.heap.size + 1, 1, none⟩ = some (.slice b' m' d'))) (by kernel_rfl) (HSA.out _ HBL.out) (fun hHeld => ?_)
      clear hHeld
      refine wpAnyH_take (i := 0) (oi := ⟨some 95, _, _, _, _, none⟩) (v := .agg #[.slice a n c, .slice a' n' c']) rfl (by kernel_rfl) (by kernel_rfl) (by kernel_rfl) (fun _ _ _ h => h) (Or.inl ⟨by rfl, fun w' hSw => by obtain ⟨⟨s0, s1⟩, s2, s3⟩ := hSw; go_simp⟩) (HSA.out _ HBL.out) ?_
      simp only [Act.put, List.setIfInBounds_toArray, List.set_cons_zero, List.set_cons_succ]
      refine wpAnyH_take (i := 2) (oi := ⟨some 97, _, _, _, _, none⟩) (v := .agg #[.slice b m d, .slice b' m' d']) rfl (by kernel_rfl) (by kernel_rfl) (by kernel_rfl) (fun _ _ _ h => h) (Or.inl ⟨by rfl, fun w' hSw => by obtain ⟨⟨s0, s1⟩, s2, s3⟩ := hSw; go_simp⟩) (HSA.out _ HBL.out) ?_
      simp only [Act.put, List.setIfInBounds_toArray, List.set_cons_zero, List.set_cons_succ]
      refine jsd31_n HTA HTB HI' HSA (hide fun XA YA XB YB FB p1 p2 q1 q2 X HCF => ?_) HBL
      go_wp2_with fail
      go_meet
      case rel => exact ⟨FB, p1, q1, p2, q2, rfl, rfl, hide HCF⟩
    case rest =>
      obtain ⟨FH, h1, i1, h2, i2, rfl, rfl, HCF⟩ := hcut
      have S20 := hide (S19.out.below HCF.out.below)
      clear HSA HBL HTA HTB S19
      obtain ⟨q0, q1', _⟩ := S20.out.v.p
      obtain ⟨q2, q3, _⟩ := HCF.out.p
      go_wp2_with fail
      refine (eqSh15 HK1 (by omega) HK2 (by omega) HCF.out.o.rows.1 HCF.out.o.rows.2 S20.out.v.o.rows.1 S20.out.v.o.rows.2).mono ?_
      rintro e w21 ⟨rfl, hb21⟩
      have S21 := hide (S20.out.below hb21)
      clear hb21 q0 q1' q2 q3 S20 HCF
      obtain ⟨q2, q3, _⟩ := S21.out.p
      go_wp2_with fail
      refine (heldSh15 (by omega) (by omega) (by omega) (by omega) S21.out.h.g S21.out.h.l).mono ?_
      rintro e w22 ⟨rfl, hb22⟩
      have S22 := hide (S21.out.below hb22)
      clear hb22 q2 q3 S21
      go_wp2_with fail
      go_ret
      exact ⟨rfl, S22.out.e.below⟩
theorem lJs15_walk {a a' b b' : Option Addr} {n c n' c' m d m' d' : Nat} {ga gb : List Gd} {la lb : List (Int × Int)} {w : World}
    (HN : Hid (ga.length = n)) (HM : Hid (n ≤ maxLen)) (HF : Hid (Fits ga)) (HA : Hid (GRow w a ga)) (HN' : Hid (la.length = n')) (HM' : Hid (n' ≤ maxLen)) (HA' : Hid (LRow w a' la))
    (GN : Hid (gb.length = m)) (GM : Hid (m ≤ maxLen)) (GF : Hid (Fits gb)) (GA : Hid (GRow w b gb)) (GN' : Hid (lb.length = m')) (GM' : Hid (m' ≤ maxLen)) (GA' : Hid (LRow w b' lb)) :
    Calls Try.prog 6 #[.agg #[.slice a n c, .slice a' n' c'], .agg #[.slice b m d, .slice b' m' d']] w fun e w' => e = .returned (.bool true) ∧ Below w.heap.size w w' := by
  obtain ⟨k1, k2, ok, gs, ls, h1, h2, h3, h4, h5, h6⟩ := js_both HN HN' GN GN'
  exact lJs15_main HN HM HF HA HN' HM' HA' GN GM GF GA GN' GM' GA' h1 h2 h3 h4 h5 h6
end Go.Proofs.Ytogkbidphdpjaaa
