/-
  FnLots: the law's own walk.
-/
import Derived.Test.YtebohpgdhbammaaY4
namespace Go.Proofs.Ytebohpgdhbammaa
open Go.RowKit

set_option maxRecDepth 100000 in
set_option maxHeartbeats 1000000 in
theorem lLo14_long {a1 a2 : Option Addr} {len1 cap1 len2 cap2 : Nat} {w : World} (h1 : (1048576 : Int) < wrap64 ((len1 : Int) + (len2 : Int))) :
    Calls Try.prog 3 #[.slice a1 len1 cap1, .slice a2 len2 cap2] w fun e w' => e = .returned (.bool true) ∧ Below w.heap.size w w' := by
  go_enter Try.func3, Try.ntmps3
  go_wp2_with fail
  go_ret
  exact ⟨rfl, Below.refl _ _⟩
set_option maxRecDepth 100000 in
set_option maxHeartbeats 16000000 in
theorem lLo14_main {a1 a2 : Option Addr} {len1 cap1 len2 cap2 : Nat} {w : World} (hs1 : Hid (Src w a1 len1)) (hs2 : Hid (Src w a2 len2)) (h1 : ¬ (1048576 : Int) < wrap64 ((len1 : Int) + (len2 : Int))) :
    Calls Try.prog 3 #[.slice a1 len1 cap1, .slice a2 len2 cap2] w fun e w' => e = .returned (.bool true) ∧ Below w.heap.size w w' := by
  go_enter Try.func3, Try.ntmps3
  go_wp2_with fail
  refine (drawLC_any hs1).mono ?_
  rintro e w1 ⟨ax, n, cx, xs, S, K, al, m, cl, ls, rfl, hx, hcap, hn12, hl, hcl, hm13, rx, rl, _, _, hb1⟩
  have HX := hide hx
  have HL := hide hl
  have bn := below_new w1 (.cells #[.slice ax n cx, .int .i64 S, .int .i64 K] 25)
  have PB := hide (TBox.new w1 (.slice ax n cx) (.int .i64 S) (.int .i64 K) 25)
  have HU := hide (hb1.trans (bn.mono hb1.size))
  have RX := hide (rx.below bn)
  have RL := hide (rl.below bn)
  have HSrc := hide (hs2.out.below HU.out)
  obtain ⟨U, hU⟩ : ∃ W, W = w1.alloc (.cells #[.slice ax n cx, .int .i64 S, .int .i64 K] 25) := ⟨_, rfl⟩
  obtain ⟨B, hB⟩ : ∃ b, b = w1.heap.size := ⟨_, rfl⟩
  rw [← hU] at PB HU RX RL HSrc
  rw [← hB] at PB
  have HUe := hide hU.symm
  have HBe := hide hB.symm
  clear hx hl rx rl hb1 bn hU hB hs1 hs2
  go_upto_region 4 with fail
  rw [HUe.out, HBe.out]
  clear HUe HBe
  have HG0 := hide (rfl : Lo.goodB xs S K = Lo.goodB xs S K)
  have HFacts := hide fun (hg : Lo.goodB xs S K = true) => (show (Lo.okB xs S K (Lo.blL xs S K) = true ∧ Lo.ilB xs S K (Lo.blL xs S K) = true ∧ (Lo.blL xs S K).sum = xs.sum ∧ Pf.allB (Lo.blL xs S K) 0 200 = true) ∧ Lo.lcI xs S K (Lo.blL xs S K) = Lo.blI xs S K ∧ (Lo.ctL xs S K).length = n + 1 ∧ (Lo.ctL xs S K).getD n 0 = Lo.blI xs S K ∧ 1 ≤ n ∧ n ≤ 10 ∧ Pf.allB xs 0 200 = true from
    ⟨⟨(Lo.bl_are hg).ok, (Lo.bl_are hg).il, (Lo.bl_are hg).sum, (Lo.bl_are hg).all⟩, Lo.bl_cost hg, by rw [Lo.ct_len hg, HX.out], by rw [← HX.out]; exact Lo.ct_last hg, by rw [← HX.out]; exact (Lo.good_of hg).n1, by rw [← HX.out]; exact (Lo.good_of hg).n10, Pf.allB_of fun i hi => by
      have := Pf.inB_yes (Pf.allB_get (Lo.good_of hg).all hi)
      exact Pf.inB_of this.1 (by omega)⟩)
  have HLeast := hide fun (hg : Lo.goodB xs S K = true) (h : Lo.okB xs S K ls = true) => (show ¬ Lo.lcI xs S K ls < Lo.blI xs S K from by
    rw [Lo.blI_yes hg]
    have := (Lo.ok_cst h).2.2.2.2
    omega)
  have HLN : Hid ((Lo.blL xs S K).length ≤ 10) := hide Lo.blL_le
  have hok : (Lo.okB xs S K ls != Lo.okB xs S K ls) = false := by simp
  have hlc : (Lo.lcI xs S K ls != Lo.lcI xs S K ls) = false := by simp
  have hgg : (Lo.goodB xs S K != Lo.goodB xs S K) = false := by simp
  have hbi : (Lo.blI xs S K != Lo.blI xs S K) = false := by simp
  have C1 := hide fun (W : World) (h : Below U.heap.size U W) => lc_any (S := S) (K := K) (c := cx) (c' := cl) (w := W) HX HL (hide (RX.out.below h)) (hide (RL.out.below h))
  have C2 := hide fun (W : World) (h : Below U.heap.size U W) => slc_any14 (S := S) (K := K) (c := cx) (c' := cl) (w := W) HX HL (hide (RX.out.below h)) (hide (RL.out.below h))
  have C3 := hide fun (W : World) (h : Below U.heap.size U W) => gt_any (S := S) (K := K) (c := cx) (w := W) HX (hide (RX.out.below h))
  have C4 := hide fun (W : World) (h : Below U.heap.size U W) => sgt_any (S := S) (K := K) (c := cx) (w := W) HX (hide (RX.out.below h))
  have C5 := hide fun (W : World) (h : Below U.heap.size U W) => bl_w (S := S) (K := K) (c := cx) (w := W) hcap HX (hide (RX.out.below h))
  have C6 := hide fun (W : World) (h : Below U.heap.size U W) => sbl_w (S := S) (K := K) (c := cx) (w := W) HX (hide (RX.out.below h))
  have C7 := hide fun (W : World) (h : Below U.heap.size U W) (a' : Option Addr) (m' c' : Nat) (hm : (Lo.blL xs S K).length = m') (r : ARow W a' (Lo.blL xs S K)) => lc_any (S := S) (K := K) (c := cx) (c' := c') (w := W) HX (hide hm) (hide (RX.out.below h)) (hide r)
  have C8 := hide fun (W : World) (h : Below U.heap.size U W) (a' : Option Addr) (m' c' : Nat) (hmc : m' ≤ c') (hm : (Lo.blL xs S K).length = m') (r : ARow W a' (Lo.blL xs S K)) => il_any (S := S) (K := K) (c := cx) (c' := c') (w := W) hmc HX (hide hm) (hide (RX.out.below h)) (hide r)
  have C9 := hide fun (W : World) (h : Below U.heap.size U W) => ct_v (S := S) (K := K) (c := cx) (w := W) hcap HX (hide (RX.out.below h))
  have HST : Hid (∀ W1 W2, Below U.heap.size U W1 → Below W1.heap.size W1 W2 → W2.cell? ⟨B, 0, none⟩ = some (.slice ax n cx) ∧ W2.cell? ⟨B, 1, none⟩ = some (.int .i64 S) ∧ W2.cell? ⟨B, 2, none⟩ = some (.int .i64 K) ∧ Below U.heap.size U W2) := hide fun W1 W2 h1 h2 => by
    have h := h1.trans (h2.mono h1.size)
    obtain ⟨x0, x1, x2, _⟩ := PB.out.below h
    exact ⟨x0, x1, x2, h⟩
  generalize Lo.okB xs S K ls = O at *
  generalize Lo.lcI xs S K ls = N at *
  generalize hGG : Lo.goodB xs S K = G at *
  have HGG := hide hGG
  clear hGG HG0
  generalize Lo.blL xs S K = BL at *
  generalize Lo.blI xs S K = BI at *
  generalize Lo.ctL xs S K = CT at *
  generalize Lo.lcI xs S K BL = XI at *
  generalize Lo.okB xs S K BL = XO at *
  generalize Lo.ilB xs S K BL = XL at *
  have HB0 := hide (Below.refl U.heap.size U)
  obtain ⟨p0, p1, p2, _⟩ := PB.out
  go_wp2_with fail
  refine (C1.out _ HB0.out).mono ?_
  rintro e w2 ⟨rfl, hb2⟩
  have HB2 : Hid (Below U.heap.size U w2) := hide hb2
  clear hb2 p0 p1 p2 HB0
  obtain ⟨p0, p1, p2, _⟩ := PB.out.below HB2.out
  go_wp2_with fail
  refine (C2.out _ HB2.out).mono ?_
  rintro e w3 ⟨rfl, hb3⟩
  have HB3 := hide (HB2.out.trans (hb3.mono HB2.out.size))
  have hS0 := HST.out w3 w3.drew HB3.out (Below.refl _ _).drew
  clear hb3 p0 p1 p2 HB2
  go_wp2_with fail
  go_region_held3 (fun w' => w'.cell? ⟨B, 0, none⟩ = some (.slice ax n cx) ∧ w'.cell? ⟨B, 1, none⟩ = some (.int .i64 S) ∧ w'.cell? ⟨B, 2, none⟩ = some (.int .i64 K) ∧ Below U.heap.size U w')
    (first | exact hS0 | assumption | fail)
    (first
    | (go_at_call 8; obtain ⟨_, _, _, hbS⟩ := ‹_ ∧ _ ∧ _ ∧ _›; refine (C3.out _ hbS).mono ?_; rintro e w4 ⟨rfl, hb4⟩; have hS4 := HST.out _ _ hbS hb4)
    | (go_at_call 9; obtain ⟨_, _, _, hbT⟩ := ‹_ ∧ _ ∧ _ ∧ _›; refine (C4.out _ hbT).mono ?_; rintro e w5 ⟨rfl, hb5⟩; have hS5 := HST.out _ _ hbT hb5)
    | fail)
  obtain ⟨_, _, _, hbE⟩ := ‹_ ∧ _ ∧ _ ∧ _›
  have HB5 := hide hbE
  clear hbE hb4 hb5 hbS hbT hS4 hS5 hS0
  obtain ⟨p0, p1, p2, _⟩ := PB.out.below HB5.out
  go_wp2_with fail
  refine (C5.out _ HB5.out).mono ?_
  rintro e w6 ⟨v6, rfl, hb6, o6⟩
  have HB6 := hide (HB5.out.trans (hb6.mono HB5.out.size))
  have O6 := hide o6
  clear hb6 o6 p0 p1 p2 HB5
  obtain ⟨p0, p1, p2, _⟩ := PB.out.below HB6.out
  go_wp2_with fail
  refine (C6.out _ HB6.out).mono ?_
  rintro e w7 ⟨v7, rfl, hb7, o7⟩
  have HB7 := hide (HB6.out.trans (hb7.mono HB6.out.size))
  obtain ⟨a6, c6, e6, h6c, r6, _⟩ := av_own14 (O6.out.below hb7) rfl
  obtain ⟨a7, c7, e7, h7c, r7, _⟩ := av_own14 o7 rfl
  subst e6
  subst e7
  have R6 := hide r6
  have R7 := hide r7
  clear hb7 o7 p0 p1 p2 HB6 r6 r7 O6
  obtain ⟨m6, hm6⟩ : ∃ m6, BL.length = m6 := ⟨_, rfl⟩
  have HM6 := hide hm6
  rw [hm6] at h6c h7c HLN
  rw [hm6]
  have hl6 : m6 ≤ 10 := HLN.out
  clear hm6
  go_wp2_with fail
  refine (sm14 HM6 (by omega) R6.out R7.out).mono ?_
  rintro e w8 ⟨rfl, hb8⟩
  have HB8 := hide (HB7.out.trans (hb8.mono HB7.out.size))
  have R68 := hide (R6.out.below hb8)
  clear hb8 HB7 R6 R7
  go_upto_if 93 with fail
  go_cut [4, 17, 18, 19, 20, 21, 22] (fun s4 _ _ _ _ _ _ wc => s4 = .bool false ∧ Hid (Below U.heap.size U wc))
  case first =>
    cases G
    · go_wp2_with fail
      go_meet
      case rel => exact ⟨rfl, HB8⟩
    · obtain ⟨⟨f1, f1b, f1c, f1d⟩, f2, f3, f4, n1, n10, f5⟩ := HFacts.out rfl
      have HSum := hide f1c
      have HAll := hide f1d
      have HXAll := hide f5
      have HCL := hide f3
      have HCA := hide f4
      have HLs := hide (HLeast.out rfl)
      subst f1
      subst f1b
      subst f2
      clear f1c f1d f5 f3 f4 HFacts HLeast
      obtain ⟨p0, p1, p2, _⟩ := PB.out.below HB8.out
      go_wp2_with fail
      refine (C7.out _ HB8.out _ _ _ HM6.out R68.out).mono ?_
      rintro e w9 ⟨rfl, hb9⟩
      have HB9 := hide (HB8.out.trans (hb9.mono HB8.out.size))
      have R69 := hide (R68.out.below hb9)
      clear hb9 p0 p1 p2 HB8 R68
      obtain ⟨p0, p1, p2, _⟩ := PB.out.below HB9.out
      go_wp2_with fail
      refine (C8.out _ HB9.out _ _ _ h6c HM6.out R69.out).mono ?_
      rintro e w10 ⟨rfl, hb10⟩
      have HB10 := hide (HB9.out.trans (hb10.mono HB9.out.size))
      have R610 := hide (R69.out.below hb10)
      clear hb10 p0 p1 p2 HB9 R69
      obtain ⟨p0, p1, p2, _⟩ := PB.out.below HB10.out
      go_wp2_with fail
      refine (C9.out _ HB10.out).mono ?_
      rintro e w11 ⟨v11, rfl, hb11, o11⟩
      have HB11 := hide (HB10.out.trans (hb11.mono HB10.out.size))
      have R611 := hide (R610.out.below hb11)
      obtain ⟨a9, c9, e9, _, r9, _⟩ := av_own14 o11 rfl
      subst e9
      obtain ⟨b9, o9, ea9, hl9, rr9⟩ := r9.resolve_left (by intro e; have := HCL.out; rw [e] at this; simp at this)
      subst ea9
      have q9 := rr9 n (by rw [HCL.out]; omega)
      rw [HCA.out] at q9
      obtain ⟨m9, hm9⟩ : ∃ m9, CT.length = m9 := ⟨_, rfl⟩
      have hm9n : m9 = n + 1 := by rw [← hm9, HCL.out]
      rw [hm9]
      have u1 : IntKind.i64.wrap ((m9 : Int) - 1) = (n : Int) := by rw [IntKind.wrap_i64]; omega
      have u2 : (0 : Int) ≤ (n : Int) := by omega
      have u3 : (n : Int) < (m9 : Int) := by omega
      have HS1 := hide fun (W : World) (h : Below w11.heap.size w11 W) => lsum14n (c := c6) (w := W) HM6 (hide (R611.out.below h)) (by omega) HAll
      have HS2 := hide fun (W : World) (h : Below w11.heap.size w11 W) => lsum14n (c := cx) (w := W) HX (hide (RX.out.below (HB11.out.trans (h.mono HB11.out.size)))) (by omega) HXAll
      have HSS : Hid (∀ W, Below w11.heap.size w11 W → W.cell? ⟨b9, o9 + n, none⟩ = some (.int .i64 XI) ∧ W.cell? ⟨B, 0, none⟩ = some (.slice ax n cx) ∧ Below w11.heap.size w11 W) := hide fun W h => ⟨(h.cell (p := ⟨b9, o9 + n, none⟩) hl9).trans q9, (PB.out.below (HB11.out.trans (h.mono HB11.out.size))).1, h⟩
      rw [HSum.out] at HS1
      have hss : (xs.sum != xs.sum) = false := by simp
      generalize xs.sum = SX at *
      clear hb11 o11 p0 p1 p2 HB10 R610 rr9 hm9 hm9n hl9 r9
      have hS0 := HSS.out w11.drew (Below.refl _ _).drew
      clear q9
      have q9 := hS0.1
      have p0 := hS0.2.1
      have HQ1 := hide fun (k : Nat) => HS1.out (w11.drewN k) (below_drewN (Below.refl _ _) k)
      have HQ2 := hide fun (k : Nat) => HS2.out (w11.drewN k) (below_drewN (Below.refl _ _) k)
      change w11.cell? ⟨b9, o9 + n, none⟩ = _ at q9
      change w11.cell? ⟨B, 0, none⟩ = _ at p0
      clear hS0 HSS HS1 HS2 C1 C2 C3 C4 C5 C6 C7 C8 C9 HST HSum HAll HXAll HCL HCA R611 HM6 HX HL RX RL PB HGG HLN
      cases O
      · clear HLs
        go_wp2_with fail
        go_quiet (first
          | (go_at_call_of 15 (Value.slice a6 m6 c6); exact (HQ1.out _).mono fun _ _ h => ⟨h.1, _, h.2⟩)
          | (go_at_call 15; exact (HQ2.out _).mono fun _ _ h => ⟨h.1, _, h.2⟩))
        go_wp2_with fail
        go_meet
        case rel => exact ⟨rfl, hide (below_drewN HB11.out _)⟩
      · have hlt := HLs.out rfl
        have hgt : decide (N < XI) = false := decide_eq_false (by omega)
        clear hlt HLs
        go_wp2_with fail
        go_quiet (first
          | (go_at_call_of 15 (Value.slice a6 m6 c6); exact (HQ1.out _).mono fun _ _ h => ⟨h.1, _, h.2⟩)
          | (go_at_call 15; exact (HQ2.out _).mono fun _ _ h => ⟨h.1, _, h.2⟩))
        go_wp2_with fail
        go_meet
        case rel => exact ⟨rfl, hide (below_drewN HB11.out _)⟩
  case rest =>
    obtain ⟨rfl, HBc⟩ := hcut
    clear C1 C2 C3 C4 C5 C6 C7 C8 C9 HST HFacts HLeast HB8 R68 HM6 HLN PB RX RL HX HL HGG
    have HBw := hide (HU.out.trans (HBc.out.mono HU.out.size))
    go_wp2_with fail
    refine (drawIL_any (hide (HSrc.out.below HBc.out))).mono ?_
    rintro e w2 ⟨ax, n, cx, xs, S, K, al, m, cl, ls, rfl, hx, hcap, hn12, hl, hcl, hm13, rx, rl, _, _, hb2⟩
    have HX := hide hx
    have HL := hide hl
    have bn := below_new w2 (.cells #[.slice ax n cx, .int .i64 S, .int .i64 K] 25)
    have PB := hide (TBox.new w2 (.slice ax n cx) (.int .i64 S) (.int .i64 K) 25)
    have HV := hide (HBw.out.trans ((hb2.trans (bn.mono hb2.size)).mono HBw.out.size))
    have RX := hide (rx.below bn)
    have RL := hide (rl.below bn)
    obtain ⟨V, hV⟩ : ∃ W, W = w2.alloc (.cells #[.slice ax n cx, .int .i64 S, .int .i64 K] 25) := ⟨_, rfl⟩
    obtain ⟨D, hD⟩ : ∃ b, b = w2.heap.size := ⟨_, rfl⟩
    rw [← hV] at PB HV RX RL
    rw [← hD] at PB
    have HVe := hide hV.symm
    have HDe := hide hD.symm
    clear hx hl rx rl hb2 bn hV hD HSrc HBc HBw
    go_upto_region 19 with fail
    rw [HVe.out, HDe.out]
    clear HVe HDe
    have D1 := hide (il_any (S := S) (K := K) (c := cx) (c' := cl) (w := V) hcl HX HL RX RL)
    have D2 := hide fun (W : World) (h : Below V.heap.size V W) => sil_any (S := S) (K := K) (c := cx) (c' := cl) (w := W) HX HL (hide (RX.out.below h)) (hide (RL.out.below h))
    have eoo : (Lo.okB xs S K ls == Lo.okB xs S K ls) = true := by simp
    have ell : (Lo.ilB xs S K ls == Lo.ilB xs S K ls) = true := by simp
    generalize Lo.okB xs S K ls = O2 at *
    generalize Lo.ilB xs S K ls = L2 at *
    obtain ⟨p0, p1, p2, _⟩ := PB.out
    go_wp2_with fail
    refine D1.out.mono ?_
    rintro e w3 ⟨rfl, hb3⟩
    have HB3 : Hid (Below V.heap.size V w3) := hide hb3
    clear hb3 p0 p1 p2
    obtain ⟨p0, p1, p2, _⟩ := PB.out.below HB3.out
    go_wp2_with fail
    refine (D2.out _ HB3.out).mono ?_
    rintro e w4 ⟨rfl, hb4⟩
    have HB4 := hide (HV.out.trans ((HB3.out.trans (hb4.mono HB3.out.size)).mono HV.out.size))
    clear hb4 p0 p1 p2
    go_wp2_with fail
    go_ret
    exact ⟨rfl, HB4.out⟩
theorem lLo14_walk {a1 a2 : Option Addr} {len1 cap1 len2 cap2 : Nat} {w : World} (hs1 : Src w a1 len1) (hs2 : Src w a2 len2) (_m1 : len1 ≤ 140737488351232) (_m2 : len2 ≤ 140737488351232) :
    Calls Try.prog 3 #[.slice a1 len1 cap1, .slice a2 len2 cap2] w fun e w' => e = .returned (.bool true) ∧ Below w.heap.size w w' := by
  by_cases h1 : (1048576 : Int) < wrap64 ((len1 : Int) + (len2 : Int))
  · exact lLo14_long h1
  · exact lLo14_main (hide hs1) (hide hs2) h1
end Go.Proofs.Ytebohpgdhbammaa
