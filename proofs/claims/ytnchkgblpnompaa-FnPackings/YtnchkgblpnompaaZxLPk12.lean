/-
  FnPackings: the law's own walk.
-/
import Derived.Test.YtnchkgblpnompaaZ1
import Derived.Test.YtnchkgblpnompaaZ3
import Derived.Test.YtnchkgblpnompaaZ4
namespace Go.Proofs.Ytnchkgblpnompaa
open Go.RowKit

set_option maxRecDepth 100000 in
set_option maxHeartbeats 1000000 in
theorem lsum_any {a : Option Addr} {c : Nat} {xs : List Int} {w : World} (h : ARow w a xs) (hl : xs.length ≤ 1000) (hb : Pf.allB xs (-10000000) 10000000 = true) :
    Calls Try.prog 21 #[.slice a xs.length c] w fun e w' => e = .returned (.int .i64 xs.sum) ∧ w' = w := by
  have H := hide h
  have HB := hide hb
  clear h hb
  go_enter Try.func21, Try.ntmps21
  go_wp2_with fail
  go_loop [3, 5, 8] (fun s3 _ s => ∃ (k : Nat) (n : Int), s3 = .int .i64 n ∧ s = .int .i64 k ∧ k ≤ xs.length ∧ Hid (n = (xs.take k).sum) ∧ -10000000000 ≤ n ∧ n ≤ 10000000000) (fun _ _ s => xs.length - (intOf s).toNat)
  case atStart => exact ⟨0, 0, rfl, rfl, Nat.zero_le _, hide (by simp), by omega, by omega⟩
  case round =>
    obtain ⟨k, n, rfl, rfl, hk, HN, hn0, hn1⟩ := hrel
    by_cases hlt : k < xs.length
    · obtain ⟨b, off, rfl, r1⟩ := H.out.at hlt
      have i0 : (0 : Int) ≤ (k : Int) := by omega
      have i1 : (k : Int) < (xs.length : Int) := by omega
      have hs := Pf.take_sum_succ xs k hlt
      have hx := Pf.inB_yes (Pf.allB_get HB.out hlt)
      have ht := Pf.sum_bd (Pf.allB_take HB.out (k + 1))
      rw [show (xs.take (k + 1)).length = k + 1 by simp; omega] at ht
      rw [hs, ← HN.out] at ht
      rw [← HN.out] at hs
      have HS := hide hs
      generalize xs.getD k 0 = x at *
      clear hs
      obtain ⟨hx0, hx1⟩ := hx
      have ht0 : -10000000000 ≤ n + x := by omega
      have ht1 : n + x ≤ 10000000000 := by omega
      clear ht
      go_wp2_with fail
      go_round
      case rel => exact ⟨k + 1, n + x, by go_num, by go_num, by omega, hide HS.out.symm, by omega, by omega⟩
      case measure => simp only [intOf]; omega
    · have hke : k = xs.length := by omega
      subst hke
      have HE := HN.out
      rw [List.take_length] at HE
      have HE' := hide HE
      clear HE
      go_wp2_with fail
      go_ret
      exact ⟨ret_int HE'.out, rfl⟩
theorem pk_facts {l : List Int} {F : List (List Int)} (h : It.ipB l F = true) : It.goodB l = true ∧ It.fbI l ≤ (F.length : Int) ∧ It.waI l F = 20 * (F.length : Int) - l.sum ∧ 0 ≤ It.waI l F := by
  have h' := h
  simp only [It.ipB, Bool.and_eq_true] at h'
  obtain ⟨h1, h2⟩ := It.pack_few h'.1 h'.2
  have e : It.waI l F = 20 * (F.length : Int) - l.sum := by simp [It.waI, h]
  refine ⟨h'.1, ?_, e, by rw [e]; exact h2⟩
  unfold It.fbI
  rw [if_pos h'.1]
  omega
set_option maxRecDepth 100000 in
set_option maxHeartbeats 1000000 in
theorem lPk12_long {a1 a2 : Option Addr} {len1 cap1 len2 cap2 : Nat} {w : World} (h1 : (1048576 : Int) < wrap64 ((len1 : Int) + (len2 : Int))) :
    Calls Try.prog 4 #[.slice a1 len1 cap1, .slice a2 len2 cap2] w fun e w' => e = .returned (.bool true) ∧ Below w.heap.size w w' := by
  go_enter Try.func4, Try.ntmps4
  go_wp2_with fail
  go_ret
  exact ⟨rfl, Below.refl _ _⟩
set_option maxRecDepth 100000 in
set_option maxHeartbeats 4000000 in
theorem lPk12_main {a1 a2 : Option Addr} {len1 cap1 len2 cap2 : Nat} {w : World} (hs1 : Hid (Src w a1 len1)) (hs2 : Hid (Src w a2 len2)) (h1 : ¬ (1048576 : Int) < wrap64 ((len1 : Int) + (len2 : Int))) :
    Calls Try.prog 4 #[.slice a1 len1 cap1, .slice a2 len2 cap2] w fun e w' => e = .returned (.bool true) ∧ Below w.heap.size w w' := by
  go_enter Try.func4, Try.ntmps4
  go_wp2_with fail
  refine (drawIP_any hs1).mono ?_
  rintro e w1 ⟨al, cl, xs, aF, cF, F, rfl, hx10, _, hF10, hF11, rl, rF, hb1⟩
  have HB1 := hide hb1
  have HIP := hide fun (W : World) (h : Below w1.heap.size w1 W) => ip_w (w := W) (c := cl) (d := cF) rfl rfl (by omega) (fun i hi => by have := hF11 i hi; omega) (rl.below h) (rF.below h)
  have HSIP := hide fun (W : World) (h : Below w1.heap.size w1 W) => sip_w (w := W) (c := cl) (d := cF) rfl rfl (by omega) (fun i hi => by have := hF11 i hi; omega) (rl.below h) (rF.below h)
  have HFB := hide fun (W : World) (h : Below w1.heap.size w1 W) => fb_w (w := W) (c := cl) rfl (rl.below h)
  have HWA := hide fun (W : World) (h : Below w1.heap.size w1 W) => wa_w (w := W) (c := cl) (d := cF) rfl rfl (by omega) (fun i hi => by have := hF11 i hi; omega) (rl.below h) (rF.below h)
  have HPF := hide fun (h : It.ipB xs F = true) => pk_facts h
  have HSM : Hid (It.goodB xs = true → 0 ≤ xs.sum ∧ xs.sum ≤ 180 ∧ ∀ (W : World), Below w1.heap.size w1 W → Calls Try.prog 21 #[.slice al xs.length cl] W fun e w' => e = .returned (.int .i64 xs.sum) ∧ w' = W) := hide fun hg => ⟨(It.good_sum hg).1, (It.good_sum hg).2, fun W h => lsum_any (rl.below h) (by omega) (It.good_wide hg)⟩
  generalize It.ipB xs F = I at *
  generalize It.goodB xs = G at *
  generalize It.fbI xs = Q at *
  generalize It.waI xs F = V at *
  generalize xs.sum = S at *
  generalize xs.length = n at *
  generalize F.length = m at *
  have hII : (I != I) = false := by simp
  have hGG : (G != G) = false := by simp
  clear hF11 rl rF hb1
  go_wp2_with fail
  refine (HIP.out _ (Below.refl _ _)).mono ?_
  rintro e w2 ⟨rfl, hb2⟩
  have B2 := hide hb2
  clear hb2 HIP
  go_wp2_with fail
  refine (HSIP.out _ B2.out).mono ?_
  rintro e w3 ⟨rfl, hb3⟩
  have B3 := hide (B2.out.trans (hb3.mono B2.out.size))
  clear hb3 B2 HSIP
  cases I
  · cases G
    · have HB0 := hide (HB1.out.trans (B3.out.mono HB1.out.size))
      have HS2 := hide (hs2.out.below HB0.out)
      clear HFB HWA HPF HSM B3 HB1
      go_wp2_with fail
      refine (drawWO_any HS2).mono ?_
      rintro e v1 ⟨al', cl', ys, aF', cF', F', rfl, hy10, _, hF10', hF11', rl', rF', hb1⟩
      have HB1 := hide (HB0.out.trans (hb1.mono HB0.out.size))
      have HWA := hide (wa_w (w := v1) (c := cl') (d := cF') rfl rfl (by omega) (fun i hi => by have := hF11' i hi; omega) rl' rF')
      have HSW := hide fun (W : World) (h : Below v1.heap.size v1 W) => swa_w (w := W) (c := cl') (d := cF') rfl rfl (by omega) (fun i hi => by have := hF11' i hi; omega) (rl'.below h) (rF'.below h)
      generalize It.ipB ys F' = I' at *
      generalize It.waI ys F' = V' at *
      generalize ys.length = n' at *
      generalize F'.length = m' at *
      have hII' : (I' == I') = true := by simp
      have hVV' : (V' == V') = true := by simp
      clear hF11' rl' rF' hb1 HB0 HS2
      go_wp2_with fail
      refine HWA.out.mono ?_
      rintro e v2 ⟨rfl, hb2⟩
      have B2 := hide hb2
      clear hb2 HWA
      go_wp2_with fail
      refine (HSW.out _ B2.out).mono ?_
      rintro e v3 ⟨rfl, hb3⟩
      have HB3 := hide (HB1.out.trans ((B2.out.trans (hb3.mono B2.out.size)).mono HB1.out.size))
      have HS3 := hide (hs2.out.below HB3.out)
      clear hb3 B2 HSW HB1
      go_wp2_with fail
      refine (drawLB_any HS3).mono ?_
      rintro e v4 ⟨az, cz, zs, rfl, hz10, _, rz, hb4⟩
      have HB4 := hide (HB3.out.trans (hb4.mono HB3.out.size))
      have HLB := hide (lbx_any (w := v4) (c := cz) rfl rz)
      have HSL := hide (slbx_any (w := v4) (c := cz) rfl rz)
      generalize It.lbI zs = L' at *
      generalize It.goodB zs = G' at *
      generalize zs.length = n'' at *
      have hLL' : (L' == L') = true := by simp
      have hGG' : (G' == G') = true := by simp
      clear rz hb4 HB3 HS3
      go_wp2_with fail
      refine HLB.out.mono ?_
      rintro e v5 ⟨rfl, hw5⟩
      obtain rfl : v4 = v5 := hw5.symm
      go_wp2_with fail
      refine HSL.out.mono ?_
      rintro e v6 ⟨rfl, hw6⟩
      obtain rfl : v4 = v6 := hw6.symm
      go_wp2_with fail
      go_ret
      exact ⟨rfl, HB4.out⟩
    · have HB0 := hide (HB1.out.trans (B3.out.mono HB1.out.size))
      have HS2 := hide (hs2.out.below HB0.out)
      clear HFB HWA HPF HSM B3 HB1
      go_wp2_with fail
      refine (drawWO_any HS2).mono ?_
      rintro e v1 ⟨al', cl', ys, aF', cF', F', rfl, hy10, _, hF10', hF11', rl', rF', hb1⟩
      have HB1 := hide (HB0.out.trans (hb1.mono HB0.out.size))
      have HWA := hide (wa_w (w := v1) (c := cl') (d := cF') rfl rfl (by omega) (fun i hi => by have := hF11' i hi; omega) rl' rF')
      have HSW := hide fun (W : World) (h : Below v1.heap.size v1 W) => swa_w (w := W) (c := cl') (d := cF') rfl rfl (by omega) (fun i hi => by have := hF11' i hi; omega) (rl'.below h) (rF'.below h)
      generalize It.ipB ys F' = I' at *
      generalize It.waI ys F' = V' at *
      generalize ys.length = n' at *
      generalize F'.length = m' at *
      have hII' : (I' == I') = true := by simp
      have hVV' : (V' == V') = true := by simp
      clear hF11' rl' rF' hb1 HB0 HS2
      go_wp2_with fail
      refine HWA.out.mono ?_
      rintro e v2 ⟨rfl, hb2⟩
      have B2 := hide hb2
      clear hb2 HWA
      go_wp2_with fail
      refine (HSW.out _ B2.out).mono ?_
      rintro e v3 ⟨rfl, hb3⟩
      have HB3 := hide (HB1.out.trans ((B2.out.trans (hb3.mono B2.out.size)).mono HB1.out.size))
      have HS3 := hide (hs2.out.below HB3.out)
      clear hb3 B2 HSW HB1
      go_wp2_with fail
      refine (drawLB_any HS3).mono ?_
      rintro e v4 ⟨az, cz, zs, rfl, hz10, _, rz, hb4⟩
      have HB4 := hide (HB3.out.trans (hb4.mono HB3.out.size))
      have HLB := hide (lbx_any (w := v4) (c := cz) rfl rz)
      have HSL := hide (slbx_any (w := v4) (c := cz) rfl rz)
      generalize It.lbI zs = L' at *
      generalize It.goodB zs = G' at *
      generalize zs.length = n'' at *
      have hLL' : (L' == L') = true := by simp
      have hGG' : (G' == G') = true := by simp
      clear rz hb4 HB3 HS3
      go_wp2_with fail
      refine HLB.out.mono ?_
      rintro e v5 ⟨rfl, hw5⟩
      obtain rfl : v4 = v5 := hw5.symm
      go_wp2_with fail
      refine HSL.out.mono ?_
      rintro e v6 ⟨rfl, hw6⟩
      obtain rfl : v4 = v6 := hw6.symm
      go_wp2_with fail
      go_ret
      exact ⟨rfl, HB4.out⟩
  · obtain ⟨rfl, f1, f2, f3⟩ := HPF.out rfl
    obtain ⟨s0, s1, HSS⟩ := HSM.out rfl
    have HSU := hide HSS
    subst f2
    have g1 : ¬ (m : Int) < Q := by omega
    have g2 : ¬ 20 * (m : Int) - S < 0 := by omega
    have hw1 : wrap64 (20 * (m : Int)) = 20 * (m : Int) := by unfold wrap64; omega
    have hw2 : wrap64 (20 * (m : Int) - S) = 20 * (m : Int) - S := by unfold wrap64; omega
    have hne : (20 * (m : Int) - S != 20 * (m : Int) - S) = false := by simp
    clear HSS HPF HSM f1 f3
    go_wp2_with fail
    refine (HFB.out _ B3.out).mono ?_
    rintro e w4 ⟨rfl, hb4⟩
    have B4 := hide (B3.out.trans (hb4.mono B3.out.size))
    clear hb4 B3 HFB
    go_wp2_with fail
    refine (HWA.out _ B4.out).mono ?_
    rintro e w5 ⟨rfl, hb5⟩
    have B5 := hide (B4.out.trans (hb5.mono B4.out.size))
    clear hb5 B4 HWA
    go_wp2_with fail
    refine (HSU.out _ B5.out).mono ?_
    rintro e w6 ⟨rfl, hw6⟩
    obtain rfl : w5 = w6 := hw6.symm
    have HB0 := hide (HB1.out.trans (B5.out.mono HB1.out.size))
    have HS2 := hide (hs2.out.below HB0.out)
    clear HSU B5 HB1
    go_wp2_with fail
    refine (drawWO_any HS2).mono ?_
    rintro e v1 ⟨al', cl', ys, aF', cF', F', rfl, hy10, _, hF10', hF11', rl', rF', hb1⟩
    have HB1 := hide (HB0.out.trans (hb1.mono HB0.out.size))
    have HWA := hide (wa_w (w := v1) (c := cl') (d := cF') rfl rfl (by omega) (fun i hi => by have := hF11' i hi; omega) rl' rF')
    have HSW := hide fun (W : World) (h : Below v1.heap.size v1 W) => swa_w (w := W) (c := cl') (d := cF') rfl rfl (by omega) (fun i hi => by have := hF11' i hi; omega) (rl'.below h) (rF'.below h)
    generalize It.ipB ys F' = I' at *
    generalize It.waI ys F' = V' at *
    generalize ys.length = n' at *
    generalize F'.length = m' at *
    have hII' : (I' == I') = true := by simp
    have hVV' : (V' == V') = true := by simp
    clear hF11' rl' rF' hb1 HB0 HS2
    go_wp2_with fail
    refine HWA.out.mono ?_
    rintro e v2 ⟨rfl, hb2⟩
    have B2 := hide hb2
    clear hb2 HWA
    go_wp2_with fail
    refine (HSW.out _ B2.out).mono ?_
    rintro e v3 ⟨rfl, hb3⟩
    have HB3 := hide (HB1.out.trans ((B2.out.trans (hb3.mono B2.out.size)).mono HB1.out.size))
    have HS3 := hide (hs2.out.below HB3.out)
    clear hb3 B2 HSW HB1
    go_wp2_with fail
    refine (drawLB_any HS3).mono ?_
    rintro e v4 ⟨az, cz, zs, rfl, hz10, _, rz, hb4⟩
    have HB4 := hide (HB3.out.trans (hb4.mono HB3.out.size))
    have HLB := hide (lbx_any (w := v4) (c := cz) rfl rz)
    have HSL := hide (slbx_any (w := v4) (c := cz) rfl rz)
    generalize It.lbI zs = L' at *
    generalize It.goodB zs = G' at *
    generalize zs.length = n'' at *
    have hLL' : (L' == L') = true := by simp
    have hGG' : (G' == G') = true := by simp
    clear rz hb4 HB3 HS3
    go_wp2_with fail
    refine HLB.out.mono ?_
    rintro e v5 ⟨rfl, hw5⟩
    obtain rfl : v4 = v5 := hw5.symm
    go_wp2_with fail
    refine HSL.out.mono ?_
    rintro e v6 ⟨rfl, hw6⟩
    obtain rfl : v4 = v6 := hw6.symm
    go_wp2_with fail
    go_ret
    exact ⟨rfl, HB4.out⟩
theorem lPk12_walk {a1 a2 : Option Addr} {len1 cap1 len2 cap2 : Nat} {w : World} (hs1 : Src w a1 len1) (hs2 : Src w a2 len2) (_m1 : len1 ≤ 140737488351232) (_m2 : len2 ≤ 140737488351232) :
    Calls Try.prog 4 #[.slice a1 len1 cap1, .slice a2 len2 cap2] w fun e w' => e = .returned (.bool true) ∧ Below w.heap.size w w' := by
  by_cases h1 : (1048576 : Int) < wrap64 ((len1 : Int) + (len2 : Int))
  · exact lPk12_long h1
  · exact lPk12_main (hide hs1) (hide hs2) h1
end Go.Proofs.Ytnchkgblpnompaa
