/-
  FnCuts: the law's own walk.
-/
import Derived.Test.YtnepjahhconodaaY4
namespace Go.Proofs.Ytnepjahhconodaa
open Go.RowKit

set_option maxRecDepth 100000 in
set_option maxHeartbeats 1000000 in
theorem sm13_zero (a b : Option Addr) (c d : Nat) (w : World) :
    Calls Try.prog 7 #[.slice a 0 c, .slice b 0 d] w fun e w' => e = .returned (.bool true) ∧ w' = w := by
  go_enter Try.func7, Try.ntmps7
  go_wp2_with fail
  go_loop [13] (fun s => s = .int .i64 0) (fun s => 0)
  case atStart => rfl
  case round =>
    subst hrel
    go_wp2_with fail
    go_ret
    exact ⟨rfl, rfl⟩
set_option maxRecDepth 100000 in
set_option maxHeartbeats 1000000 in
theorem sm13_some (xs : List Int) (b o c b' o' c' : Nat) (w : World) (hl : xs.length ≤ 4000000000000) (h1 : ∀ i, i < xs.length → w.cell? ⟨b, o + i, none⟩ = some (.int .i64 (xs.getD i 0))) (h2 : ∀ i, i < xs.length → w.cell? ⟨b', o' + i, none⟩ = some (.int .i64 (xs.getD i 0))) :
    Calls Try.prog 7 #[.slice (some ⟨b, o, none⟩) xs.length c, .slice (some ⟨b', o', none⟩) xs.length c'] w fun e w' => e = .returned (.bool true) ∧ ∃ m, w' = w.drewN m := by
  have hne : ((xs.length : Int) != (xs.length : Int)) = false := by simp
  have H1 := hide h1
  have H2 := hide h2
  clear h1 h2
  go_enter Try.func7, Try.ntmps7
  go_wp2_with fail
  go_loopw [13] (fun s wr => ∃ k : Nat, s = .int .i64 k ∧ k ≤ xs.length ∧ ∃ m, wr = w.drewN m) (fun s _ => xs.length - (intOf s).toNat)
  case atStart => exact ⟨0, rfl, Nat.zero_le _, 0, rfl⟩
  case round =>
    obtain ⟨k, rfl, hk, m, rfl⟩ := hrel
    by_cases hlt : k < xs.length
    · have r1 := H1.out k hlt
      have r2 := H2.out k hlt
      have i0 : (0 : Int) ≤ (k : Int) := by omega
      have i1 : (k : Int) < (xs.length : Int) := by omega
      generalize xs.getD k 0 = x at *
      have hxx : (x != x) = false := by simp
      go_wp2_with fail
      go_region
      go_wp2_with fail
      exact ⟨⟨k + 1, by go_num, by omega, m + 1, rfl⟩, by simp only [intOf]; omega⟩
    · go_wp2_with fail
      go_ret
      exact ⟨rfl, m, rfl⟩
theorem sm13 {a b : Option Addr} {c d n : Nat} {xs : List Int} {w : World} (hn : Hid (xs.length = n)) (hl : n ≤ 1048576) (h1 : ARow w a xs) (h2 : ARow w b xs) :
    Calls Try.prog 7 #[.slice a n c, .slice b n d] w fun e w' => e = .returned (.bool true) ∧ Below w.heap.size w w' := by
  have := hn.out
  subst this
  rcases h1 with rfl | ⟨b1, o1, rfl, hb1, c1⟩
  · exact (sm13_zero a b c d w).mono fun e w' ⟨h, hw⟩ => ⟨h, hw ▸ Below.refl _ _⟩
  · rcases h2 with rfl | ⟨b2, o2, rfl, hb2, c2⟩
    · exact (sm13_zero _ b c d w).mono fun e w' ⟨h, hw⟩ => ⟨h, hw ▸ Below.refl _ _⟩
    · exact (sm13_some xs b1 o1 c b2 o2 d w (by omega) c1 c2).mono fun e w' ⟨h, m, hw⟩ => ⟨h, hw ▸ below_drewN (Below.refl _ _) m⟩
set_option maxRecDepth 100000 in
set_option maxHeartbeats 1000000 in
theorem lCu13_long {a1 a2 : Option Addr} {len1 cap1 len2 cap2 : Nat} {w : World} (h1 : (1048576 : Int) < wrap64 ((len1 : Int) + (len2 : Int))) :
    Calls Try.prog 3 #[.slice a1 len1 cap1, .slice a2 len2 cap2] w fun e w' => e = .returned (.bool true) ∧ Below w.heap.size w w' := by
  go_enter Try.func3, Try.ntmps3
  go_wp2_with fail
  go_ret
  exact ⟨rfl, Below.refl _ _⟩
set_option maxRecDepth 100000 in
set_option maxHeartbeats 16000000 in
theorem lCu13_main {a1 a2 : Option Addr} {len1 cap1 len2 cap2 : Nat} {w : World} (hs1 : Hid (Src w a1 len1)) (hs2 : Hid (Src w a2 len2)) (h1 : ¬ (1048576 : Int) < wrap64 ((len1 : Int) + (len2 : Int))) :
    Calls Try.prog 3 #[.slice a1 len1 cap1, .slice a2 len2 cap2] w fun e w' => e = .returned (.bool true) ∧ Below w.heap.size w w' := by
  go_enter Try.func3, Try.ntmps3
  go_wp2_with fail
  refine (drawCO_any hs1).mono ?_
  rintro e w1 ⟨ao, co, n, C, rfl, hn9, hC, hr, hb1⟩
  have HB1 := hide hb1
  have HN := hide hC
  have HI := hide (co_w (c := co) HN (hide hr))
  have HJ := hide (fun (W : World) (h : Below w1.heap.size w1 W) => sco_w (c := co) HN (by omega) (hide (hr.below h)))
  have HM := hide (fun (W : World) (h : Below w1.heap.size w1 W) => mo_w (c := co) HN (hide (hr.below h)))
  have HX := hide (fun (W : World) (h : Below w1.heap.size w1 W) (as1 : Option Addr) (cs l : Nat) (hl : (Nt.coL C).length = l) (h9 : l ≤ 1048576) (rm : ARow W as1 (Nt.coL C)) => cw_any (c := co) (d := cs) HN.out hl h9 (hr.below h) rm)
  have HFA := hide (fun (h : Nt.netB C = true) => Nt.co_facts h)
  have hl9 : (Nt.coL C).length ≤ 1048576 := by
    cases e : Nt.netB C
    · simp [Nt.coL, e]
    · have h := (Nt.co_facts e).1
      rw [Nt.sideB_eq, Bool.and_eq_true] at h
      have := Nt.sB_len h.2
      omega
  clear hb1 hC hr hs1
  generalize Nt.cwI C (Nt.coL C) = X at *
  generalize Nt.sideB C (Nt.coL C) = Y at *
  generalize Nt.moI C = Z at *
  generalize Nt.netB C = G at *
  generalize Nt.coL C = S at *
  obtain ⟨l, hl⟩ : ∃ l, S.length = l := ⟨_, rfl⟩
  rw [hl] at HI HJ hl9
  have HL := hide hl
  clear hl
  have hGG : (G != G) = false := by simp
  go_wp2_with fail
  refine HI.out.mono ?_
  rintro e w2 ⟨v2, rfl, own2, hb2⟩
  obtain ⟨a2', c2', e2, _, r2⟩ := own_cap HL.out own2
  subst e2
  have HR2 := hide r2
  have B2 := hide hb2
  clear own2 r2 hb2 HI
  go_wp2_with fail
  refine (HJ.out _ B2.out).mono ?_
  rintro e w3 ⟨v3, rfl, own3, hb3⟩
  obtain ⟨a3', c3', e3, _, r3⟩ := own_cap HL.out own3
  subst e3
  have HR3 := hide r3
  have HR2' := hide (HR2.out.below hb3)
  have B3 := hide (B2.out.trans (hb3.mono B2.out.size))
  clear own3 r3 hb3 HJ HR2 B2
  go_wp2_with fail
  refine (sm13 HL hl9 HR2'.out HR3.out).mono ?_
  rintro e w4 ⟨rfl, hb4⟩
  have HR4 := hide (HR2'.out.below hb4)
  have B4 := hide (B3.out.trans (hb4.mono B3.out.size))
  clear hb4 HR2' HR3 B3
  cases G
  · have HBD := hide (HB1.out.trans (B4.out.mono HB1.out.size))
    clear HM HX HFA B4 HB1
    have HS2 := hide (hs2.out.below HBD.out)
    clear hs2
    go_wp2_with fail
    refine (drawCW_any HS2).mono ?_
    rintro e w7 ⟨bo, ce, p, am, cm, m, A, s, rfl, hp9, hA, hm9, hs, rA, rs, hb7⟩
    have HA := hide hA
    have HSL := hide hs
    have HS7 := hide (HS2.out.below hb7)
    have HB7 := hide (HBD.out.trans (hb7.mono HBD.out.size))
    have HRA := hide rA
    have HRS := hide rs
    have HLE : Hid (Nt.sideB A s = true → Nt.netB A = true ∧ Nt.moI A ≤ Nt.cwI A s) := hide fun h => ⟨by rw [Nt.sideB_eq, Bool.and_eq_true] at h; exact h.1, Nt.most_le h⟩
    have HI := hide (cw_any (c := ce) (d := cm) hA hs (by omega) rA rs)
    have HJ := hide (scw_any (c := ce) (d := cm) hA (by omega) hs (by omega) rA rs)
    have HM := hide (fun (W : World) (h : Below w7.heap.size w7 W) => mo_w (c := ce) HA (hide (rA.below h)))
    clear hA hs rA rs hb7 HS2 HBD
    generalize Nt.cwI A s = X at *
    generalize Nt.sideB A s = Y at *
    generalize Nt.moI A = Z at *
    generalize Nt.netB A = V at *
    have hYY : (Y != Y) = false := by simp
    have hXX : (X != X) = false := by simp
    go_wp2_with fail
    refine HI.out.mono ?_
    rintro e w8 ⟨rfl, hw8⟩
    obtain rfl : w7 = w8 := hw8.symm
    go_wp2_with fail
    refine HJ.out.mono ?_
    rintro e w9 ⟨rfl, hw9⟩
    obtain rfl : w7 = w9 := hw9.symm
    clear HI HJ
    go_wp2_with fail
    refine (drawFV_any HS7).mono ?_
    rintro e w10 ⟨fo, fc, q, F, rfl, hq9, hF, rF, hb10⟩
    have B10 := hide hb10
    have HI := hide (fv_any (c := fc) hF rF)
    have HJ := hide (sfv_any (c := fc) hF (by omega) rF)
    clear hF rF hb10
    generalize Nt.fvI F = E at *
    generalize Nt.rowsB F = D at *
    have hEE : (E != E) = false := by simp
    have hDD : (D != D) = false := by simp
    go_wp2_with fail
    refine HI.out.mono ?_
    rintro e w11 ⟨rfl, hw11⟩
    obtain rfl : w10 = w11 := hw11.symm
    go_wp2_with fail
    refine HJ.out.mono ?_
    rintro e w12 ⟨rfl, hb12⟩
    have B12 := hide (B10.out.trans (hb12.mono B10.out.size))
    clear HI HJ hb12 B10
    cases Y
    · go_wp2_with fail
      go_ret
      exact ⟨rfl, HB7.out.trans (B12.out.mono HB7.out.size)⟩
    · obtain ⟨eV, hle⟩ := HLE.out rfl
      subst eV
      have HMM := hide (HM.out _ B12.out)
      clear HM HLE
      go_wp2_with fail
      refine HMM.out.mono ?_
      rintro e w13 ⟨v13, us13, rfl, L13, hb13⟩
      have B13 := hide (B12.out.trans (hb13.mono B12.out.size))
      obtain ⟨a13, c13, e13⟩ := L13.form
      subst e13
      clear L13 hb13 HMM
      go_wp2_with fail
      go_ret
      exact ⟨rfl, HB7.out.trans (B13.out.mono HB7.out.size)⟩
  · obtain ⟨hY, hXZ⟩ := HFA.out rfl
    subst hY hXZ
    have HMM := hide (HM.out _ B4.out)
    clear HM HFA
    go_wp2_with fail
    refine HMM.out.mono ?_
    rintro e w5 ⟨v5, us5, rfl, L5, hb5⟩
    have B5 := hide (B4.out.trans (hb5.mono B4.out.size))
    obtain ⟨a5, c5, e5⟩ := L5.form
    subst e5
    have HXX := hide (HX.out _ B5.out _ c2' l HL.out hl9 (HR4.out.below hb5))
    have hxx : (X != X) = false := by simp
    clear L5 hb5 HMM HX B4
    go_wp2_with fail
    refine HXX.out.mono ?_
    rintro e w6 ⟨rfl, hw6⟩
    obtain rfl : w5 = w6 := hw6.symm
    have HBD := hide (HB1.out.trans (B5.out.mono HB1.out.size))
    clear HXX B5 HB1
    have HS2 := hide (hs2.out.below HBD.out)
    clear hs2
    go_wp2_with fail
    refine (drawCW_any HS2).mono ?_
    rintro e w7 ⟨bo, ce, p, am, cm, m, A, s, rfl, hp9, hA, hm9, hs, rA, rs, hb7⟩
    have HA := hide hA
    have HSL := hide hs
    have HS7 := hide (HS2.out.below hb7)
    have HB7 := hide (HBD.out.trans (hb7.mono HBD.out.size))
    have HRA := hide rA
    have HRS := hide rs
    have HLE : Hid (Nt.sideB A s = true → Nt.netB A = true ∧ Nt.moI A ≤ Nt.cwI A s) := hide fun h => ⟨by rw [Nt.sideB_eq, Bool.and_eq_true] at h; exact h.1, Nt.most_le h⟩
    have HI := hide (cw_any (c := ce) (d := cm) hA hs (by omega) rA rs)
    have HJ := hide (scw_any (c := ce) (d := cm) hA (by omega) hs (by omega) rA rs)
    have HM := hide (fun (W : World) (h : Below w7.heap.size w7 W) => mo_w (c := ce) HA (hide (rA.below h)))
    clear hA hs rA rs hb7 HS2 HBD
    generalize Nt.cwI A s = X at *
    generalize Nt.sideB A s = Y at *
    generalize Nt.moI A = Z at *
    generalize Nt.netB A = V at *
    have hYY : (Y != Y) = false := by simp
    have hXX : (X != X) = false := by simp
    go_wp2_with fail
    refine HI.out.mono ?_
    rintro e w8 ⟨rfl, hw8⟩
    obtain rfl : w7 = w8 := hw8.symm
    go_wp2_with fail
    refine HJ.out.mono ?_
    rintro e w9 ⟨rfl, hw9⟩
    obtain rfl : w7 = w9 := hw9.symm
    clear HI HJ
    go_wp2_with fail
    refine (drawFV_any HS7).mono ?_
    rintro e w10 ⟨fo, fc, q, F, rfl, hq9, hF, rF, hb10⟩
    have B10 := hide hb10
    have HI := hide (fv_any (c := fc) hF rF)
    have HJ := hide (sfv_any (c := fc) hF (by omega) rF)
    clear hF rF hb10
    generalize Nt.fvI F = E at *
    generalize Nt.rowsB F = D at *
    have hEE : (E != E) = false := by simp
    have hDD : (D != D) = false := by simp
    go_wp2_with fail
    refine HI.out.mono ?_
    rintro e w11 ⟨rfl, hw11⟩
    obtain rfl : w10 = w11 := hw11.symm
    go_wp2_with fail
    refine HJ.out.mono ?_
    rintro e w12 ⟨rfl, hb12⟩
    have B12 := hide (B10.out.trans (hb12.mono B10.out.size))
    clear HI HJ hb12 B10
    cases Y
    · go_wp2_with fail
      go_ret
      exact ⟨rfl, HB7.out.trans (B12.out.mono HB7.out.size)⟩
    · obtain ⟨eV, hle⟩ := HLE.out rfl
      subst eV
      have HMM := hide (HM.out _ B12.out)
      clear HM HLE
      go_wp2_with fail
      refine HMM.out.mono ?_
      rintro e w13 ⟨v13, us13, rfl, L13, hb13⟩
      have B13 := hide (B12.out.trans (hb13.mono B12.out.size))
      obtain ⟨a13, c13, e13⟩ := L13.form
      subst e13
      clear L13 hb13 HMM
      go_wp2_with fail
      go_ret
      exact ⟨rfl, HB7.out.trans (B13.out.mono HB7.out.size)⟩
theorem lCu13_walk {a1 a2 : Option Addr} {len1 cap1 len2 cap2 : Nat} {w : World} (hs1 : Src w a1 len1) (hs2 : Src w a2 len2) :
    Calls Try.prog 3 #[.slice a1 len1 cap1, .slice a2 len2 cap2] w fun e w' => e = .returned (.bool true) ∧ Below w.heap.size w w' := by
  by_cases h1 : (1048576 : Int) < wrap64 ((len1 : Int) + (len2 : Int))
  · exact lCu13_long h1
  · exact lCu13_main (hide hs1) (hide hs2) h1
end Go.Proofs.Ytnepjahhconodaa
