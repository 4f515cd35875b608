/-
  At any sheet PrintSheet answers as the model does: the law's own walk.
-/
import Derived.Test.YtogkbidphdpjaaaDoorXd15
import Derived.Deep.DeepCutAuto
import Derived.Deep.RegionHeld3
namespace Go.Proofs.YtogkbidphdpjaaaDoor
open Go.RowKit

set_option maxHeartbeats 1000000 in
theorem sps_yes {gs : List Gd} {ls : List (Int × Int)} {a a' : Option Addr} {n c n' c' : Nat} {w : World} (HN : Hid (gs.length = n)) (hn : n ≤ 1048576) (hc : n ≤ c) (HS : Hid (Short gs)) (HA : Hid (GRow w a gs)) (HL : Hid (ls.length = n')) (hn' : n' ≤ 1048576) (hc' : n' ≤ c') (HA' : Hid (LRow w a' ls)) (hg : Hid (sheetB gs ls = true)) :
    Calls Tryd.prog 6 #[.agg #[.slice a n c, .slice a' n' c']] w fun e w' => e = .returned (.tuple #[.string (outL gs ls n'), .bool true]) ∧ Below w.heap.size w w' := by
  have hb0 := below_new w (.cells #[.slice a n c, .slice a' n' c'] 32)
  have PB := hide (PBox.new w (.slice a n c) (.slice a' n' c') 32)
  have HB := hide hb0
  clear hb0
  go_enter Tryd.func6, Tryd.ntmps6
  obtain ⟨p0, p1, _⟩ := PB.out
  go_wp2_with fail
  refine (sgsh_hid hg HN hn hc HS (hide (HA.out.below HB.out)) HL hn' hc' (hide (HA'.out.below HB.out))).mono ?_
  rintro e w1 ⟨rfl, hb1⟩
  have HB1 := hide (HB.out.trans (hb1.mono HB.out.size))
  have PB1 := hide (PB.out.below hb1)
  clear hb1 p0 p1
  obtain ⟨p0, p1, _⟩ := PB1.out
  go_wp2_with fail
  refine (spr_any HN (hide (HA.out.below HB1.out)) HL (hide (HA'.out.below HB1.out)) hg).mono ?_
  rintro e w2 ⟨rfl, hb2⟩
  have HB2 := hide (HB1.out.trans (hb2.mono HB1.out.size))
  clear hb2
  go_wp2_with fail
  go_ret2
  exact ⟨rfl, HB2.out⟩
theorem ps_both {gs : List Gd} {ls : List (Int × Int)} {n n' : Nat} (HN : Hid (gs.length = n)) (HL : Hid (ls.length = n')) : ∃ T : ByteArray, ∃ ok : Bool,
    Hid (∀ W X Y, n ≤ 1048576 → n' ≤ 1048576 → Short gs → TS W X Y n n' gs ls → Calls Tryd.prog 6 #[.agg #[.slice (some ⟨X, 0, none⟩) n n, .slice (some ⟨Y, 0, none⟩) n' n']] W fun e w' => e = .returned (.tuple #[.string T, .bool ok]) ∧ Below W.heap.size W w')
    ∧ Hid (∀ W X Y, Short gs → TS W X Y n n' gs ls → Tab W → KTab W → Calls Tryd.prog 8 #[.agg #[.slice (some ⟨X, 0, none⟩) n n, .slice (some ⟨Y, 0, none⟩) n' n']] W fun e w' => e = .returned (.tuple #[.string T, .bool ok]) ∧ Below W.heap.size W w') := by
  cases hg : sheetB gs ls with
  | false => exact ⟨⟨#[]⟩, false, hide fun W X Y h1 h2 hs t => sps_no HN h1 (Nat.le_refl _) (hide hs) (hide t.g) HL h2 (Nat.le_refl _) (hide t.l) (hide hg), hide fun W X Y hs t _ _ => ps_no HN (Nat.le_refl _) (hide hs) (hide t.g) HL (hide t.l) (hide hg)⟩
  | true => exact ⟨outL gs ls n', true, hide fun W X Y h1 h2 hs t => sps_yes HN h1 (Nat.le_refl _) (hide hs) (hide t.g) HL h2 (Nat.le_refl _) (hide t.l) (hide hg), hide fun W X Y hs t hT hK => ps_yes HN (Nat.le_refl _) (hide hs) (hide t.g) HL (hide t.l) (hide hg) (hide hT) (hide hK)⟩
set_option maxRecDepth 100000 in
set_option maxHeartbeats 8000000 in
theorem lPs15_walk {a a' : Option Addr} {n c n' c' : Nat} {gs : List Gd} {ls : List (Int × Int)} {w : World} (HT : Hid (Tab w)) (HK : Hid (KTab w)) (HN : Hid (gs.length = n)) (HM : Hid (n ≤ maxLen)) (HF : Hid (Fits gs)) (HA : Hid (GRow w a gs)) (HN' : Hid (ls.length = n')) (HM' : Hid (n' ≤ maxLen)) (HA' : Hid (LRow w a' ls)) :
    Calls Tryd.prog 3 #[.agg #[.slice a n c, .slice a' n' c']] w fun e w' => e = .returned (.bool true) ∧ Below w.heap.size w w' := by
  obtain ⟨T, ok, Hs, Hi⟩ := ps_both HN HN'
  have hne : (ok != ok) = false := by simp
  have HB0 := hide (below_new w (.cells #[.slice a n c, .slice a' n' c'] 25))
  have P0 := hide (PBox.new w (.slice a n c) (.slice a' n' c') 25)
  go_enter Tryd.func3, Tryd.ntmps3
  go_wp2_with fail
  refine (szSh_any HN HM HF (hide (HA.out.below HB0.out)) HM' (by omega) (by omega)).mono ?_
  rintro e w1 ⟨left, rfl, hl1, hl2, hb1⟩
  have P1 := hide (P0.out.below hb1)
  have HB1 := hide (HB0.out.trans (hb1.mono HB0.out.size))
  clear hb1
  obtain ⟨p0, p1, _⟩ := P1.out
  rcases hl2 with rfl | ⟨hl0, hn, hn', hsh⟩
  · go_wp2_with fail
    go_ret
    exact ⟨rfl, HB1.out⟩
  have HSh := hide hsh
  have hl3 : ¬ left < 0 := by omega
  clear hsh
  go_wp2_with fail
  refine (toSh_any HN hn (hide (HA.out.below HB1.out)) HN' hn' (hide (HA'.out.below HB1.out))).mono ?_
  rintro e w2 ⟨X2, Y2, rfl, hb2, _, _, t2⟩
  have T2 := hide t2
  have P2 := hide (P1.out.below hb2)
  have HB2 := hide (HB1.out.trans (hb2.mono HB1.out.size))
  clear hb2 t2 p0 p1
  go_wp2_with fail
  refine (Hs.out _ _ _ hn hn' HSh.out T2.out).mono ?_
  rintro e w3 ⟨rfl, hb3⟩
  have P3 := hide (P2.out.below hb3)
  have HB3 := hide (HB2.out.trans (hb3.mono HB2.out.size))
  clear hb3 T2
  obtain ⟨p0, p1, _⟩ := P3.out
  go_wp2_with fail
  refine (toSh_any HN hn (hide (HA.out.below HB3.out)) HN' hn' (hide (HA'.out.below HB3.out))).mono ?_
  rintro e w5 ⟨X5, Y5, rfl, hb5, hX5, hY5, t5⟩
  have bn5 := below_new w5 (.cells #[.slice (some ⟨X5, 0, none⟩) n n, .slice (some ⟨Y5, 0, none⟩) n' n'] 32)
  have PX := hide (PBox.new w5 (.slice (some ⟨X5, 0, none⟩) n n) (.slice (some ⟨Y5, 0, none⟩) n' n') 32)
  have P5 := hide ((P3.out.below hb5).below bn5)
  have T5 := hide (t5.below bn5)
  have HB5 := hide ((HB3.out.trans (hb5.mono HB3.out.size)).trans (bn5.mono (by have := HB3.out.size; have := hb5.size; omega)))
  obtain ⟨w6, hw6⟩ : ∃ W, W = w5.alloc (.cells #[.slice (some ⟨X5, 0, none⟩) n n, .slice (some ⟨Y5, 0, none⟩) n' n'] 32) := ⟨_, rfl⟩
  rw [← hw6] at PX P5 T5 HB5
  have HW6 := hide hw6.symm
  obtain ⟨D6, hD6⟩ : ∃ b, b = w5.heap.size := ⟨_, rfl⟩
  rw [← hD6] at PX
  have HD6 := hide hD6.symm
  clear hb5 bn5 t5 hw6 hD6 P3 p0 p1 hX5 hY5
  go_upto_region 6 with fail
  rw [HW6.out, HD6.out]
  clear HW6 HD6
  obtain ⟨x0, x1, _⟩ := PX.out
  go_wp2_with fail
  refine (Hi.out _ _ _ HSh.out T5.out (HT.out.below HB5.out) (HK.out.below HB5.out)).mono ?_
  rintro e w7 ⟨rfl, hb7⟩
  have P7 := hide (P5.out.below hb7)
  have PX7 := hide (PX.out.below hb7)
  have T7 := hide (T5.out.below hb7)
  have HB7 := hide (HB5.out.trans (hb7.mono HB5.out.size))
  clear hb7 x0 x1 P5 PX T5
  go_upto_region 10 with fail
  have hbd : Below w7.heap.size w7 w7.drew := (Below.refl _ _).drew
  have hPd := P7.out.below hbd
  have hXd := PX7.out.below hbd
  have Td := hide (T7.out.below hbd)
  have HBd := hide (HB7.out.trans (hbd.mono HB7.out.size))
  have hSd := (⟨hPd.1, hPd.2.1, hXd.1, hXd.2.1⟩ : _ ∧ _ ∧ _ ∧ _)
  clear hbd P7 PX7 T7
  go_region_held3 (fun w' => w'.cell? ⟨w.heap.size, 0, none⟩ = some (.slice a n c) ∧ w'.cell? ⟨w.heap.size, 1, none⟩ = some (.slice a' n' c') ∧ w'.cell? ⟨D6, 0, none⟩ = some (.slice (some ⟨X5, 0, none⟩) n n) ∧ w'.cell? ⟨D6, 1, none⟩ = some (.slice (some ⟨Y5, 0, none⟩) n' n'))
    (first | exact hSd | assumption | fail)
    (first
    | (go_at_call 7; refine (toSh_any HN hn (hide (HA.out.below HBd.out)) HN' hn' (hide (HA'.out.below HBd.out))).mono ?_; rintro e w10 ⟨X10, Y10, rfl, hb10, _, _, t10⟩; have T10 := hide t10; have Te := hide (Td.out.below hb10); have hP10 := hPd.below hb10; have hX10 := hXd.below hb10; have HB10 := hide (HBd.out.trans (hb10.mono HBd.out.size)); have hS10 := (⟨hP10.1, hP10.2.1, hX10.1, hX10.2.1⟩ : _ ∧ _ ∧ _ ∧ _); clear hb10 t10)
    | (go_at_call 9; refine (eqSh15 HN hn HN' hn' Te.out.g Te.out.l T10.out.g T10.out.l).mono ?_; rintro e w11 ⟨rfl, hb11⟩; have hP11 := hP10.below hb11; have hX11 := hX10.below hb11; have HB11 := hide (HB10.out.trans (hb11.mono HB10.out.size)); have hS11 := (⟨hP11.1, hP11.2.1, hX11.1, hX11.2.1⟩ : _ ∧ _ ∧ _ ∧ _); clear hb11)
    | fail)
  go_wp2_with fail
  go_ret
  exact ⟨rfl, HB11.out⟩
end Go.Proofs.YtogkbidphdpjaaaDoor
