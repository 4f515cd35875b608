/-
  FnLean: the law's own walk.
-/
import Derived.Test.YtebohpgdhbammaaZ4
namespace Go.Proofs.Ytebohpgdhbammaa
namespace Lo
open Lt
theorem lf_are {nd ds : List Int} {S K : Int} (h : lfB nd S K ds = true) : goodB nd S K = true ∧ LotsAre nd S K (lfL nd S K ds) := by
  have h' := h
  simp only [lfB, Bool.and_eq_true] at h'
  rw [lfL_yes h]
  exact ⟨h'.1, lots_are h'.1 (day_zero h'.2)⟩
theorem ed_yes {nd : List Int} {S K : Int} (hg : goodB nd S K = true) : edL nd S K = nd := by rw [edL, if_pos hg]
theorem wide20 {nd : List Int} (h : Pf.allB nd 0 20 = true) : Pf.allB nd 0 200 = true := Pf.allB_of fun i hi => by
  have := Pf.inB_yes (Pf.allB_get h hi)
  exact Pf.inB_of this.1 (by omega)
end Lo
open Go.RowKit

set_option maxRecDepth 100000 in
set_option maxHeartbeats 1000000 in
theorem lLe14x_long {a1 a2 : Option Addr} {len1 cap1 len2 cap2 : Nat} {w : World} (h1 : (1048576 : Int) < wrap64 ((len1 : Int) + (len2 : Int))) :
    Calls Try.prog 4 #[.slice a1 len1 cap1, .slice a2 len2 cap2] w fun e w' => e = .returned (.bool true) ∧ Below w.heap.size w w' := by
  go_enter Try.func4, Try.ntmps4
  go_wp2_with fail
  go_ret
  exact ⟨rfl, Below.refl _ _⟩
set_option maxRecDepth 100000 in
set_option maxHeartbeats 16000000 in
theorem lLe14x_main {a1 a2 : Option Addr} {len1 cap1 len2 cap2 : Nat} {w : World} (hs1 : Hid (Src w a1 len1)) (hs2 : Hid (Src w a2 len2)) (h1 : ¬ (1048576 : Int) < wrap64 ((len1 : Int) + (len2 : Int))) :
    Calls Try.prog 4 #[.slice a1 len1 cap1, .slice a2 len2 cap2] w fun e w' => e = .returned (.bool true) ∧ Below w.heap.size w w' := by
  go_enter Try.func4, Try.ntmps4
  go_wp2_with fail
  refine (drawLF_any hs1).mono ?_
  rintro e w1 ⟨ax, n, cx, xs, S, K, al, m, cl, ds, rfl, hx, hcap, hn12, hl, hcl, hm13, rx, rl, _, _, hb1⟩
  have HX := hide hx
  have HL := hide hl
  have bn := below_new w1 (.cells #[.slice ax n cx, .int .i64 S, .int .i64 K] 25)
  have PB := hide (TBox.new w1 (.slice ax n cx) (.int .i64 S) (.int .i64 K) 25)
  have HU := hide (hb1.trans (bn.mono hb1.size))
  have RX := hide (rx.below bn)
  have RL := hide (rl.below bn)
  have HSrc := hide (hs2.out.below HU.out)
  obtain ⟨U, hU⟩ : ∃ W, W = w1.alloc (.cells #[.slice ax n cx, .int .i64 S, .int .i64 K] 25) := ⟨_, rfl⟩
  obtain ⟨B, hB⟩ : ∃ b, b = w1.heap.size := ⟨_, rfl⟩
  rw [← hU] at PB HU RX RL HSrc
  rw [← hB] at PB
  have HUe := hide hU.symm
  have HBe := hide hB.symm
  clear hx hl rx rl hb1 bn hU hB hs1 hs2
  go_upto_region 4 with fail
  rw [HUe.out, HBe.out]
  clear HUe HBe
  have HFacts := hide fun (h : Lo.lfB xs S K ds = true) => (show Lo.okB xs S K (Lo.lfL xs S K ds) = true ∧ Lo.ilB xs S K (Lo.lfL xs S K ds) = true ∧ (Lo.lfL xs S K ds).sum = xs.sum ∧ Pf.allB (Lo.lfL xs S K ds) 0 200 = true ∧ ¬ Lo.lcI xs S K (Lo.lfL xs S K ds) < Lo.blI xs S K ∧ Lo.goodB xs S K = true ∧ Pf.allB xs 0 200 = true ∧ n ≤ 10 from by
    obtain ⟨hg, q⟩ := Lo.lf_are h
    exact ⟨q.ok, q.il, q.sum, q.all, by have := q.least; omega, hg, Lo.wide20 (Lo.good_of hg).all, by rw [← HX.out]; exact (Lo.good_of hg).n10⟩)
  have HLN : Hid ((Lo.lfL xs S K ds).length ≤ 10) := hide Lo.lfL_le
  have hff : (Lo.lfB xs S K ds != Lo.lfB xs S K ds) = false := by simp
  have C1 := hide (lf_v (S := S) (K := K) (c := cx) (c' := cl) (w := U) HX HL (by omega) RX RL)
  have C2 := hide fun (W : World) (h : Below U.heap.size U W) => slf_v (S := S) (K := K) (c := cx) (c' := cl) (w := W) HX HL (by omega) (hide (RX.out.below h)) (hide (RL.out.below h))
  have C3 := hide fun (W : World) (h : Below U.heap.size U W) (a' : Option Addr) (m' c' : Nat) (hmc : m' ≤ c') (hm : (Lo.lfL xs S K ds).length = m') (r : ARow W a' (Lo.lfL xs S K ds)) => il_any (S := S) (K := K) (c := cx) (c' := c') (w := W) hmc HX (hide hm) (hide (RX.out.below h)) (hide r)
  have C4 := hide fun (W : World) (h : Below U.heap.size U W) (a' : Option Addr) (m' c' : Nat) (hm : (Lo.lfL xs S K ds).length = m') (r : ARow W a' (Lo.lfL xs S K ds)) => lc_any (S := S) (K := K) (c := cx) (c' := c') (w := W) HX (hide hm) (hide (RX.out.below h)) (hide r)
  have C5 := hide fun (W : World) (h : Below U.heap.size U W) => bl_w (S := S) (K := K) (c := cx) (w := W) hcap HX (hide (RX.out.below h))
  generalize Lo.lfB xs S K ds = F at *
  generalize Lo.lfL xs S K ds = FL at *
  generalize Lo.goodB xs S K = G at *
  generalize Lo.blI xs S K = BI at *
  generalize Lo.lcI xs S K FL = XI at *
  generalize Lo.okB xs S K FL = XO at *
  generalize Lo.ilB xs S K FL = XL at *
  obtain ⟨p0, p1, p2, _⟩ := PB.out
  go_wp2_with fail
  refine C1.out.mono ?_
  rintro e w2 ⟨v2, rfl, hb2, o2⟩
  have HB2 : Hid (Below U.heap.size U w2) := hide hb2
  have O2 := hide o2
  clear hb2 o2 p0 p1 p2
  obtain ⟨p0, p1, p2, _⟩ := PB.out.below HB2.out
  go_wp2_with fail
  refine (C2.out _ HB2.out).mono ?_
  rintro e w3 ⟨v3, rfl, hb3, o3⟩
  have HB3 := hide (HB2.out.trans (hb3.mono HB2.out.size))
  obtain ⟨a6, c6, e6, h6c, r6, _⟩ := av_own14 (O2.out.below hb3) rfl
  obtain ⟨a7, c7, e7, h7c, r7, _⟩ := av_own14 o3 rfl
  subst e6
  subst e7
  have R6 := hide r6
  have R7 := hide r7
  clear hb3 o3 p0 p1 p2 HB2 r6 r7 O2
  obtain ⟨m6, hm6⟩ : ∃ m6, FL.length = m6 := ⟨_, rfl⟩
  have HM6 := hide hm6
  rw [hm6] at h6c h7c HLN
  rw [hm6]
  have hl6 : m6 ≤ 10 := HLN.out
  clear hm6
  go_wp2_with fail
  refine (sm14 HM6 (by omega) R6.out R7.out).mono ?_
  rintro e w8 ⟨rfl, hb8⟩
  have HB8 := hide (HB3.out.trans (hb8.mono HB3.out.size))
  have R68 := hide (R6.out.below hb8)
  clear hb8 HB3 R6 R7
  go_upto_if 65 with fail
  go_cut [4, 11, 12, 13, 14, 15, 16, 17] (fun s4 _ _ _ _ _ _ _ wc => s4 = .bool false ∧ Hid (Below U.heap.size U wc))
  case first =>
    cases F
    · go_wp2_with fail
      go_meet
      case rel => exact ⟨rfl, HB8⟩
    · obtain ⟨f1, f2, f3, f4, f5, f6, f7, n10⟩ := HFacts.out rfl
      have HSum := hide f3
      have HAll := hide f4
      have HXAll := hide f7
      subst f1
      subst f2
      subst f6
      have hlt : decide (XI < BI) = false := decide_eq_false (by omega)
      clear f3 f4 f7 f5 HFacts
      obtain ⟨p0, p1, p2, _⟩ := PB.out.below HB8.out
      go_wp2_with fail
      refine (C3.out _ HB8.out _ _ _ h6c HM6.out R68.out).mono ?_
      rintro e w9 ⟨rfl, hb9⟩
      have HB9 := hide (HB8.out.trans (hb9.mono HB8.out.size))
      have R69 := hide (R68.out.below hb9)
      clear hb9 p0 p1 p2 HB8 R68
      obtain ⟨p0, p1, p2, _⟩ := PB.out.below HB9.out
      go_wp2_with fail
      refine (C4.out _ HB9.out _ _ _ HM6.out R69.out).mono ?_
      rintro e w10 ⟨rfl, hb10⟩
      have HB10 := hide (HB9.out.trans (hb10.mono HB9.out.size))
      have R610 := hide (R69.out.below hb10)
      clear hb10 p0 p1 p2 HB9 R69
      obtain ⟨p0, p1, p2, _⟩ := PB.out.below HB10.out
      go_wp2_with fail
      refine (C5.out _ HB10.out).mono ?_
      rintro e w11 ⟨v11, rfl, hb11, _⟩
      have HB11 := hide (HB10.out.trans (hb11.mono HB10.out.size))
      have R611 := hide (R610.out.below hb11)
      have HQ1 := hide fun (k : Nat) => lsum14n (c := c6) (w := w11.drewN k) HM6 (hide R611.out) (by omega) HAll
      have HQ2 := hide fun (k : Nat) => lsum14n (c := cx) (w := w11.drewN k) HX (hide (show ARow (w11.drewN k) ax xs from RX.out.below (below_drewN HB11.out k))) (by omega) HXAll
      rw [HSum.out] at HQ1
      have hss : (xs.sum != xs.sum) = false := by simp
      generalize xs.sum = SX at *
      clear hb11 p0 p1 p2 HB10 R610
      obtain ⟨p0, p1, p2, _⟩ := PB.out.below HB11.out
      clear C1 C2 C3 C4 C5 HSum HAll HXAll R611 HM6 HX HL RX RL PB HLN
      go_wp2_with fail
      go_quiet (first
        | (go_at_call_of 15 (Value.slice a6 m6 c6); exact (HQ1.out _).mono fun _ _ h => ⟨h.1, _, h.2⟩)
        | (go_at_call 15; exact (HQ2.out _).mono fun _ _ h => ⟨h.1, _, h.2⟩))
      go_wp2_with fail
      go_meet
      case rel => exact ⟨rfl, hide (below_drewN HB11.out _)⟩
  case rest =>
    obtain ⟨rfl, HBc⟩ := hcut
    clear C1 C2 C3 C4 C5 HFacts HB8 R68 HM6 HLN PB RX RL HX HL
    have HBw := hide (HU.out.trans (HBc.out.mono HU.out.size))
    go_wp2_with fail
    refine (drawED_any (hide (HSrc.out.below HBc.out))).mono ?_
    rintro e w2 ⟨ax, n, cx, xs, S, K, rfl, hx, hcap, hn12, rx, _, hb2⟩
    have HX := hide hx
    have bn := below_new w2 (.cells #[.slice ax n cx, .int .i64 S, .int .i64 K] 25)
    have PB := hide (TBox.new w2 (.slice ax n cx) (.int .i64 S) (.int .i64 K) 25)
    have HV := hide (HBw.out.trans ((hb2.trans (bn.mono hb2.size)).mono HBw.out.size))
    have RX := hide (rx.below bn)
    obtain ⟨V, hV⟩ : ∃ W, W = w2.alloc (.cells #[.slice ax n cx, .int .i64 S, .int .i64 K] 25) := ⟨_, rfl⟩
    obtain ⟨D, hD⟩ : ∃ b, b = w2.heap.size := ⟨_, rfl⟩
    rw [← hV] at PB HV RX
    rw [← hD] at PB
    have HVe := hide hV.symm
    have HDe := hide hD.symm
    clear hx rx hb2 bn hV hD HSrc HBc HBw
    go_upto_region 15 with fail
    rw [HVe.out, HDe.out]
    clear HVe HDe
    have hgg : (Lo.goodB xs S K != Lo.goodB xs S K) = false := by simp
    have HFb := hide fun (hg : Lo.goodB xs S K = true) => (show Lo.edL xs S K = xs ∧ Lo.okB xs S K (Lo.edL xs S K) = true ∧ Lo.lcI xs S K (Lo.edL xs S K) = Lo.startsTo xs S n ∧ (Lo.ctL xs S K).length = n + 1 ∧ (Lo.ctL xs S K).getD 0 0 = 0 ∧ ¬ Lo.startsTo xs S n < (Lo.ctL xs S K).getD n 0 ∧ (∀ i, 1 ≤ i → i ≤ n → ¬ (Lo.ctL xs S K).getD i 0 < (Lo.ctL xs S K).getD (i - 1) 0) ∧ (∀ k, 0 ≤ Lo.startsTo xs S k ∧ Lo.startsTo xs S k ≤ 100 * (k : Int)) ∧ 1 ≤ n ∧ n ≤ 10 ∧ 0 ≤ S ∧ S ≤ 100 from by
      have e := Lo.ed_yes hg
      have g := Lo.good_of hg
      have q := Lo.nd_are hg
      have hc := Lo.nd_cost hg
      have hle := q.least
      rw [Lo.blI_yes hg, hc, HX.out] at hle
      have n1 := g.n1
      have n10 := g.n10
      rw [HX.out] at n1 n10
      rw [e]
      refine ⟨rfl, q.ok, by rw [hc, HX.out], by rw [Lo.ct_len hg, HX.out], by rw [Lo.ct_at hg (Nat.zero_le _)]; rfl, ?_, fun i h1 hi => Lo.ct_mono hg h1 (by rw [HX.out]; exact hi), Lo.starts_bd hg, n1, n10, g.s0, g.s1⟩
      rw [Lo.ct_at hg (by rw [HX.out]; exact Nat.le_refl _)]
      omega)
    have HEL : Hid ((Lo.edL xs S K).length ≤ 10) := hide Lo.edL_le
    have HCLn : Hid ((Lo.ctL xs S K).length ≤ 11) := hide Lo.ctL_le
    have D1 := hide (ed_v (S := S) (K := K) (c := cx) (w := V) HX RX)
    have D2 := hide fun (W : World) (h : Below V.heap.size V W) => sed_v (S := S) (K := K) (c := cx) (w := W) HX (hide (RX.out.below h))
    have D3 := hide fun (W : World) (h : Below V.heap.size V W) => ct_v (S := S) (K := K) (c := cx) (w := W) hcap HX (hide (RX.out.below h))
    have D4 := hide fun (W : World) (h : Below V.heap.size V W) => sct_v (S := S) (K := K) (c := cx) (w := W) HX (hide (RX.out.below h))
    have D5 := hide fun (W : World) (h : Below V.heap.size V W) (a' : Option Addr) (m' c' : Nat) (hm : (Lo.edL xs S K).length = m') (r : ARow W a' (Lo.edL xs S K)) => lc_any (S := S) (K := K) (c := cx) (c' := c') (w := W) HX (hide hm) (hide (RX.out.below h)) (hide r)
    generalize Lo.goodB xs S K = G2 at *
    generalize Lo.edL xs S K = EL at *
    generalize Lo.ctL xs S K = CT at *
    generalize Lo.lcI xs S K EL = NI at *
    generalize Lo.okB xs S K EL = NO at *
    obtain ⟨p0, p1, p2, _⟩ := PB.out
    go_wp2_with fail
    refine D1.out.mono ?_
    rintro e w3 ⟨v3, rfl, hb3, o3⟩
    have HB3 : Hid (Below V.heap.size V w3) := hide hb3
    have O3 := hide o3
    clear hb3 p0 p1 p2 o3
    obtain ⟨p0, p1, p2, _⟩ := PB.out.below HB3.out
    go_wp2_with fail
    refine (D2.out _ HB3.out).mono ?_
    rintro e w4 ⟨v4, rfl, hb4, o4⟩
    have HB4 := hide (HB3.out.trans (hb4.mono HB3.out.size))
    have O34 := hide (O3.out.below hb4)
    have O4 := hide o4
    clear hb4 p0 p1 p2 o4 O3 HB3
    obtain ⟨p0, p1, p2, _⟩ := PB.out.below HB4.out
    go_wp2_with fail
    refine (D3.out _ HB4.out).mono ?_
    rintro e w5 ⟨v5, rfl, hb5, o5⟩
    have HB5 := hide (HB4.out.trans (hb5.mono HB4.out.size))
    have O35 := hide (O34.out.below hb5)
    have O45 := hide (O4.out.below hb5)
    have O5 := hide o5
    clear hb5 p0 p1 p2 o5 O34 O4 HB4
    obtain ⟨p0, p1, p2, _⟩ := PB.out.below HB5.out
    go_wp2_with fail
    refine (D4.out _ HB5.out).mono ?_
    rintro e w6 ⟨v6, rfl, hb6, o6⟩
    have HB6 := hide (HB5.out.trans (hb6.mono HB5.out.size))
    obtain ⟨a3, c3, e3, h3c, r3, _⟩ := av_own14 (O35.out.below hb6) rfl
    obtain ⟨a4, c4, e4, _, r4, _⟩ := av_own14 (O45.out.below hb6) rfl
    obtain ⟨a5, c5, e5, _, r5, _⟩ := av_own14 (O5.out.below hb6) rfl
    obtain ⟨a6, c6, e6, _, r6, _⟩ := av_own14 o6 rfl
    subst e3 e4 e5 e6
    have R3 := hide r3
    have R4 := hide r4
    have R5 := hide r5
    have R6 := hide r6
    clear hb6 o6 p0 p1 p2 HB5 O35 O45 O5 r3 r4 r5 r6
    obtain ⟨m3, hm3⟩ : ∃ m, EL.length = m := ⟨_, rfl⟩
    obtain ⟨m5, hm5⟩ : ∃ m, CT.length = m := ⟨_, rfl⟩
    have HM3 := hide hm3
    have HM5 := hide hm5
    rw [hm3] at HEL h3c
    rw [hm5] at HCLn
    rw [hm3, hm5]
    have hl3 : m3 ≤ 10 := HEL.out
    have hl5 : m5 ≤ 11 := HCLn.out
    clear hm3 hm5
    go_wp2_with fail
    refine (sm14 HM3 (by omega) R3.out R4.out).mono ?_
    rintro e w7 ⟨rfl, hb7⟩
    have HB7 := hide (HB6.out.trans (hb7.mono HB6.out.size))
    have R37 := hide (R3.out.below hb7)
    have R57 := hide (R5.out.below hb7)
    have R67 := hide (R6.out.below hb7)
    clear hb7 HB6 R3 R4 R5 R6
    go_wp2_with fail
    refine (sm14 HM5 (by omega) R57.out R67.out).mono ?_
    rintro e w8 ⟨rfl, hb8⟩
    have HB8 := hide (HB7.out.trans (hb8.mono HB7.out.size))
    have R38 := hide (R37.out.below hb8)
    have R58 := hide (R57.out.below hb8)
    clear hb8 HB7 R37 R57 R67
    cases G2
    · have HF := hide (HV.out.trans (HB8.out.mono HV.out.size))
      go_wp2_with fail
      go_ret
      exact ⟨rfl, HF.out⟩
    · obtain ⟨f0, f1, f2, f3, f4, f5, f6, f7, n1, n10, s0, s1⟩ := HFb.out rfl
      subst f1
      have hm5 : m5 = n + 1 := by rw [← HM5.out, f3]
      subst hm5
      have HF4 := hide f4
      have HF6 := hide f6
      have HF7 := hide f7
      have HF2 := hide f2
      have hlt : decide (NI < CT.getD n 0) = false := decide_eq_false (by rw [f2]; omega)
      clear f0 f2 f3 f4 f5 f6 f7 HFb
      obtain ⟨p0, p1, p2, _⟩ := PB.out.below HB8.out
      go_wp2_with fail
      refine (D5.out _ HB8.out _ _ _ HM3.out R38.out).mono ?_
      rintro e w9 ⟨rfl, hb9⟩
      have HB9 := hide (HB8.out.trans (hb9.mono HB8.out.size))
      have R59 := hide (R58.out.below hb9)
      have RX9 := hide (RX.out.below HB9.out)
      have HF := hide (HV.out.trans (HB9.out.mono HV.out.size))
      clear hb9 p0 p1 p2 HB8 R38 R58 D1 D2 D3 D4 D5
      obtain ⟨p0, p1, p2, _⟩ := PB.out.below HB9.out
      go_wp2_with fail
      go_loop [29, 31, 163] (fun s29 _ s => ∃ (k : Nat) (x : Int), s29 = .int .i64 x ∧ s = .int .i64 k ∧ k ≤ n ∧ Hid (x = Lo.startsTo xs S k)) (fun _ _ s => n - (intOf s).toNat)
      case atStart => exact ⟨0, 0, rfl, rfl, Nat.zero_le _, hide rfl⟩
      case round =>
        obtain ⟨k, x, rfl, rfl, hk, HXs⟩ := hrel
        by_cases hkn : k < n
        · obtain ⟨b1, o1, rfl, r1⟩ := RX9.out.at (i := k) (by rw [HX.out]; exact hkn)
          have i0 : (0 : Int) ≤ (k : Int) := by omega
          have i1 : (k : Int) < (n : Int) := by omega
          obtain ⟨x0, x1⟩ := HF7.out k
          have HSt : Hid (Lo.startsTo xs S (k + 1) = x + if 0 < xs.getD k 0 then S else 0) := hide (by rw [HXs.out]; rfl)
          rw [← HXs.out] at x0 x1
          have x2 : x ≤ 2000 := by omega
          generalize xs.getD k 0 = q at *
          clear x1
          by_cases hq : 0 < q
          · rw [if_pos hq] at HSt
            go_wp2_with fail
            go_round
            case rel => exact ⟨k + 1, x + S, by go_num, by go_num, by omega, hide HSt.out.symm⟩
            case measure => simp only [intOf]; omega
          · rw [if_neg hq, Int.add_zero] at HSt
            go_wp2_with fail
            go_round
            case rel => exact ⟨k + 1, x, rfl, by go_num, by omega, hide HSt.out.symm⟩
            case measure => simp only [intOf]; omega
        · have hke : k = n := by omega
          subst hke
          obtain rfl : x = NI := by rw [HXs.out, HF2.out]
          clear HXs HF2 HF7
          obtain ⟨b5, o5, rfl, q0⟩ := R59.out.at (i := 0) (by rw [HM5.out]; omega)
          obtain ⟨b5', o5', e5, q9⟩ := R59.out.at (i := k) (by rw [HM5.out]; omega)
          cases e5
          rw [HF4.out, Nat.add_zero] at q0
          have hxx : (x != x) = false := by simp
          have hll : ((k : Int) + 1 != (k : Int) + 1) = false := by simp
          have u0 : (0 : Int) < (k : Int) + 1 := by omega
          have u1 : (0 : Int) ≤ (k : Int) := by omega
          have u2 : (k : Int) < (k : Int) + 1 := by omega
          have HMon := HF6
          generalize hTL : CT.getD k 0 = TL at *
          clear hTL
          go_wp2_with fail
          go_loopw [32] (fun s wr => ∃ (i q : Nat), s = .int .i64 i ∧ 1 ≤ i ∧ i ≤ k + 1 ∧ wr = w9.drewN q) (fun s _ => k + 1 - (intOf s).toNat)
          case atStart => exact ⟨1, 0, rfl, Nat.le_refl _, by omega, rfl⟩
          case round =>
            obtain ⟨i, q, rfl, hi1, hik, rfl⟩ := hrel
            by_cases hlt2 : i < k + 1
            · obtain ⟨j, rfl⟩ : ∃ j, i = j + 1 := ⟨i - 1, by omega⟩
              obtain ⟨b8, o8, e8, q8⟩ := R59.out.at (i := j + 1) (by rw [HM5.out]; exact hlt2)
              cases e8
              obtain ⟨b7, o7, e7, q7⟩ := R59.out.at (i := j) (by rw [HM5.out]; omega)
              cases e7
              have hmo := HMon.out (j + 1) (by omega) (by omega)
              rw [Nat.add_sub_cancel] at hmo
              have hdec : decide (CT.getD (j + 1) 0 < CT.getD j 0) = false := decide_eq_false (by omega)
              obtain ⟨i', hi'⟩ : ∃ i', i' = j + 1 := ⟨_, rfl⟩
              rw [← hi'] at q8 hdec hmo hlt2 hi1 hik ⊢
              generalize CT.getD i' 0 = X1 at *
              generalize CT.getD j 0 = X2 at *
              have v0 : (0 : Int) ≤ (i' : Int) := by omega
              have v1 : (i' : Int) < (k : Int) + 1 := by omega
              have v2 : (0 : Int) ≤ (j : Int) := by omega
              have v3 : (j : Int) < (k : Int) + 1 := by omega
              have v4 : IntKind.i64.wrap ((i' : Int) - 1) = (j : Int) := by rw [IntKind.wrap_i64]; omega
              have HI' := hide hi'
              clear hi' hmo
              go_wp2_with fail
              go_quiet (fail)
              go_wp2_with fail
              go_roundw
              case rel => exact ⟨i' + 1, _, by go_num, by omega, by omega, rfl⟩
              case measure => simp only [intOf]; omega
            · have hke2 : i = k + 1 := by omega
              subst hke2
              have HFq := hide (below_drewN HF.out q)
              have v1 : ¬ (k : Int) + 1 < (k : Int) + 1 := by omega
              go_wp2_with fail
              go_ret
              exact ⟨rfl, HFq.out⟩
theorem lLe14x_walk {a1 a2 : Option Addr} {len1 cap1 len2 cap2 : Nat} {w : World} (hs1 : Src w a1 len1) (hs2 : Src w a2 len2) (_m1 : len1 ≤ 140737488351232) (_m2 : len2 ≤ 140737488351232) :
    Calls Try.prog 4 #[.slice a1 len1 cap1, .slice a2 len2 cap2] w fun e w' => e = .returned (.bool true) ∧ Below w.heap.size w w' := by
  by_cases h1 : (1048576 : Int) < wrap64 ((len1 : Int) + (len2 : Int))
  · exact lLe14x_long h1
  · exact lLe14x_main (hide hs1) (hide hs2) h1
end Go.Proofs.Ytebohpgdhbammaa
