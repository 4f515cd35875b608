/-
  What NearestOf answers, the program's and the model's.
-/
import Derived.Test.YtlbagigghpiifaaHd17
import Derived.Test.YtlbagigghpiifaaHo17
import Derived.Deep.DeepCutAuto
namespace Go.Proofs.Ytlbagigghpiifaa
open Go.RowKit

set_option maxHeartbeats 1000000 in
theorem nrc_any {W : World} {B C bo oo n c i : Nat} {v0 v1 : Value} {x k : Int} (hi : i < n) (hB : HBox W B v0 v1 (.slice (some ⟨bo, oo, none⟩) n c)) (hC : W.cell? ⟨C, 0, none⟩ = some (.int .i64 k)) (hx : W.cell? ⟨bo, oo + i, none⟩ = some (.int .i64 x)) :
    Calls Try.prog 45 #[.int .i64 i, .pointer (some ⟨B, 0, none⟩), .pointer (some ⟨C, 0, none⟩)] W fun e w' => e = .returned (.bool (x == k)) ∧ ∃ q, w' = W.drewN q := by
  have i0 : (0 : Int) ≤ (i : Int) := by omega
  have i1 : (i : Int) < (n : Int) := by omega
  obtain ⟨_, _, x2, _⟩ := hB
  clear hi
  go_enter Try.func45, Try.ntmps45
  go_wp2_with fail
  go_quiet (fail)
  go_wp2_with fail
  go_ret
  exact ⟨rfl, _, rfl⟩
set_option maxHeartbeats 2000000 in
theorem if17_any {G n m c d B C j : Nat} {a b o : Option Addr} {k : Int} {L : List Nat} {os : List Int} {q e : Nat} {w : World} (HL : Hid (L.length = n)) (hn : n ≤ 10) (HO : Hid (Ow w G n (nats L))) (hLT : Hid (∀ i, i < n → L.getD i 0 < n)) (HQ : Hid (os.length = n)) (HOS : Hid (ARow w o os)) (HX : Hid (HBox w B (.slice a q c) (.slice b m d) (.slice o n e))) (HC : Hid (w.cell? ⟨C, 0, none⟩ = some (.int .i64 k) ∧ C < w.heap.size))
    (hj : j < n) (hown : Hid (os.getD (L.getD j 0) 0 = k)) (hf : Hid (∀ i, i < j → os.getD (L.getD i 0) 0 ≠ k)) :
    Calls Try.prog 44 #[.slice (some ⟨G, 0, none⟩) n n, .func (.func 45) #[] #[.pointer (some ⟨B, 0, none⟩), .pointer (some ⟨C, 0, none⟩)]] w fun e w' => e = .returned (.int .i64 (j : Int)) ∧ Below w.heap.size w w' := by
  have eg : ∀ args w, (callFunc 45 args).run Try.prog w = .ok (.enter 45 args) w := enters_of Try.func45 (by kernel_rfl) rfl
  go_enter Try.func44, Try.ntmps44
  go_wp2_with fail
  go_loopw [4, 5, 8] (fun _ _ s wr => ∃ i : Nat, s = .int .i64 i ∧ i ≤ j ∧ Hid (Below w.heap.size w wr)) (fun _ _ s _ => n - (intOf s).toNat)
  case atStart => exact ⟨0, rfl, Nat.zero_le _, hide (Below.refl _ _)⟩
  case round =>
    obtain ⟨i, rfl, hi, HBl⟩ := hrel
    have hin : i < n := by omega
    obtain ⟨_, _, e1, r1⟩ := ((HO.out.below HBl.out).row (by rw [nats_len]; exact HL.out)).at (i := i) (by rw [nats_len, HL.out]; exact hin)
    cases e1
    rw [nats_get, Nat.zero_add] at r1
    have i0 : (0 : Int) ≤ (i : Int) := by omega
    have i1 : (i : Int) < (n : Int) := by omega
    have hlt := hLT.out i hin
    obtain ⟨bo, oo, rfl, r2⟩ := (HOS.out.below HBl.out).at (i := L.getD i 0) (by rw [HQ.out]; exact hlt)
    have hcall := hide (nrc_any hlt (HX.out.below HBl.out) ((HBl.out.cell (p := ⟨C, 0, none⟩) HC.out.2).trans HC.out.1) r2)
    by_cases hij : i = j
    · subst hij
      have he : (os.getD (L.getD i 0) 0 == k) = true := by rw [hown.out]; simp
      rw [he] at hcall
      generalize L.getD i 0 = x at *
      clear he r2
      go_wp2_with (go_at_fn 45; refine hcall.out.mono ?_; rintro _ w1 ⟨rfl, t, rfl⟩)
      go_ret
      exact ⟨rfl, below_drewN HBl.out _⟩
    · have he : (os.getD (L.getD i 0) 0 == k) = false := by simpa using hf.out i (by omega)
      rw [he] at hcall
      generalize L.getD i 0 = x at *
      clear he r2
      go_wp2_with (go_at_fn 45; refine hcall.out.mono ?_; rintro _ w1 ⟨rfl, t, rfl⟩)
      go_roundw
      case rel => exact ⟨i + 1, by go_num, by omega, hide (below_drewN HBl.out _)⟩
      case measure => simp only [intOf]; omega
theorem box17 (w : World) (x : Int) (t : TypeId) : (w.alloc (.cells #[.int .i64 x] t)).cell? ⟨w.heap.size, 0, none⟩ = some (.int .i64 x) := by simp [go_sem]
set_option maxHeartbeats 2000000 in
theorem nr_any {a b o : Option Addr} {n m q c d e : Nat} {k : Int} {ws cs os : List Int} {w : World} (HN : Hid (ws.length = n)) (HM : Hid (cs.length = m)) (HQ : Hid (os.length = q)) (hq : q ≤ 1048576) (HA : Hid (ARow w a ws)) (HB : Hid (ARow w b cs)) (HO : Hid (ARow w o os)) :
    Calls Try.prog 25 #[.agg #[.slice a n c, .slice b m d, .slice o q e], .int .i64 k] w fun e w' => e = .returned (.tuple #[.int .i64 (Hs.nearI ws cs os k), .bool (Hs.nearB ws cs os k)]) ∧ Below w.heap.size w w' := by
  have hb0 := below_new w (.cells #[.slice a n c, .slice b m d, .slice o q e] 41)
  have hb1 := below_new (w.alloc (.cells #[.slice a n c, .slice b m d, .slice o q e] 41)) (.cells #[.int .i64 k] 3)
  have HB0 := hide (hb0.trans (hb1.mono hb0.size))
  have HX := hide ((HBox.new w (.slice a n c) (.slice b m d) (.slice o q e) 41).below hb1)
  have hk := box17 (w.alloc (.cells #[.slice a n c, .slice b m d, .slice o q e] 41)) k 3
  rw [World.size_alloc] at hk
  have HK := hide (And.intro hk (show w.heap.size + 1 < ((w.alloc (.cells #[.slice a n c, .slice b m d, .slice o q e] 41)).alloc (.cells #[.int .i64 k] 3)).heap.size by simp))
  have HE : Hid (Hs.nearB ws cs os k = (Hs.houseB ws cs os && Pf.inB k 0 ((m : Int) - 1))) := hide (by unfold Hs.nearB; rw [HM.out])
  have HI : Hid (Hs.nearB ws cs os k = false → Hs.nearI ws cs os k = 0) := hide fun h => by unfold Hs.nearI; rw [if_neg (by rw [h]; simp)]
  clear hb0 hb1 hk
  cases h1 : Hs.houseB ws cs os
  · have HF : Hid (Hs.nearB ws cs os k = false) := hide (by rw [HE.out, h1]; rfl)
    have HF2 := hide (HI.out HF.out)
    have H1 := hide h1
    generalize Hs.nearI ws cs os k = X at *
    generalize Hs.nearB ws cs os k = Y at *
    clear h1 HE HI
    go_enter Try.func25, Try.ntmps25
    go_wp2_with fail
    refine (gh17_eq HN HM HQ hq (hide (HA.out.below HB0.out)) (hide (HB.out.below HB0.out)) (hide (HO.out.below HB0.out)) H1).mono ?_
    rintro _ w1 ⟨rfl, hb1⟩
    have HBf := hide (HB0.out.trans (hb1.mono HB0.out.size))
    clear hb1
    go_wp2_with fail
    go_ret2
    exact ⟨by rw [HF.out, HF2.out]; rfl, HBf.out⟩
  · have H1 := hide h1
    obtain ⟨hql, hm1, hm8, hn10⟩ := Hs.house_len h1
    have hqn : q = n := by rw [← HQ.out, ← HN.out]; exact hql
    subst hqn
    rw [HM.out] at hm1 hm8
    rw [HN.out] at hn10
    have hml : wrap64 ((m : Int) - 1) = (m : Int) - 1 := wrap_id _ (by omega) (by omega)
    cases h2 : Pf.inB k 0 ((m : Int) - 1)
    · have HF : Hid (Hs.nearB ws cs os k = false) := hide (by rw [HE.out, h1, h2]; rfl)
      have HF2 := hide (HI.out HF.out)
      generalize Hs.nearI ws cs os k = X at *
      generalize Hs.nearB ws cs os k = Y at *
      clear h1 HE HI
      go_enter Try.func25, Try.ntmps25
      go_wp2_with fail
      refine (gh17_eq HN HM HQ hq (hide (HA.out.below HB0.out)) (hide (HB.out.below HB0.out)) (hide (HO.out.below HB0.out)) H1).mono ?_
      rintro _ w1 ⟨rfl, hb1⟩
      have HBf := hide (HB0.out.trans (hb1.mono HB0.out.size))
      obtain ⟨x0, x1, x2, _⟩ := HX.out.below hb1
      have k1 := (hb1.cell (p := ⟨w.heap.size + 1, 0, none⟩) HK.out.2).trans HK.out.1
      clear hb1
      go_wp2_with fail
      refine (between_eq h2).mono ?_
      rintro _ w2 ⟨rfl, rfl⟩
      go_wp2_with fail
      go_ret2
      exact ⟨by rw [HF.out, HF2.out]; rfl, HBf.out⟩
    · have HF : Hid (Hs.nearB ws cs os k = true) := hide (by rw [HE.out, h1, h2]; rfl)
      obtain ⟨hk0, hk1⟩ := Pf.inB_yes h2
      obtain ⟨g, rfl⟩ := Int.eq_ofNat_of_zero_le hk0
      have hh := h1
      rw [Hs.house_split, Bool.and_eq_true] at hh
      have hcnt := (Hs.slotsB_yes hh.1).1
      obtain ⟨s, hs1, hs2⟩ := Hs.fit_some hh.2 (fun i hi => (Hs.cntB_at hcnt hi).1) (g := g) (by rw [HM.out]; omega)
      have hlen : (Rk.rank (negs ws)).length = q := by rw [Rk.rank_len, negs_len, HN.out]
      obtain ⟨j, hj1, hj2, hj3⟩ := Hs.some_first (P := fun i => os.getD ((Rk.rank (negs ws)).getD i 0) 0 = (g : Int)) q (by
        have hm : s ∈ Rk.rank (negs ws) := by rw [(Rk.rank_perm (negs ws)).mem_iff]; rw [negs_len]; simp; omega
        obtain ⟨i, hi, e⟩ := List.getElem_of_mem hm
        exact ⟨i, by omega, by rw [Pf.getD_lt _ 0 hi, e]; exact hs2⟩)
      have hb := Hs.near_best (ws := ws) (os := os) (g := (g : Int)) (j := j) (by rw [HN.out]; exact hj1) hj2 (fun i hi => hj3 i hi)
      have HXX : Hid (Hs.nearI ws cs os (g : Int) = (((Rk.rank (negs ws)).getD j 0 : Nat) : Int)) := hide (by
        unfold Hs.nearI
        rw [if_pos HF.out]
        rcases Hs.best_spec ws os (g : Int) ws.length with ⟨_, h⟩ | ⟨t, e, ht⟩
        · exact absurd hb.own (h _ hb.lt)
        · rw [e, Hs.best_uniq ht hb])
      have HLT : Hid (∀ i, i < q → (Rk.rank (negs ws)).getD i 0 < q) := hide fun i hi => by
        have := rk_nth_lt (vs := negs ws) (k := i) (by rw [negs_len, HN.out]; exact hi)
        rwa [negs_len, HN.out] at this
      have HLL := hide hlen
      have HJ2 := hide hj2
      have HJ3 : Hid (∀ i, i < j → os.getD ((Rk.rank (negs ws)).getD i 0) 0 ≠ (g : Int)) := hide fun i hi => hj3 i hi
      generalize Hs.nearI ws cs os (g : Int) = X at *
      generalize Hs.nearB ws cs os (g : Int) = Y at *
      have j0 : (0 : Int) ≤ (j : Int) := by omega
      have j1 : (j : Int) < (q : Int) := by omega
      clear h1 HE HI hh hcnt hs1 hs2 hlen hj2 hj3 hb
      go_enter Try.func25, Try.ntmps25
      go_wp2_with fail
      refine (gh17_eq HN HM HQ hq (hide (HA.out.below HB0.out)) (hide (HB.out.below HB0.out)) (hide (HO.out.below HB0.out)) H1).mono ?_
      rintro _ w1 ⟨rfl, hb1⟩
      have HBf := hide (HB0.out.trans (hb1.mono HB0.out.size))
      have HX1 := hide (HX.out.below hb1)
      obtain ⟨x0, x1, x2, _⟩ := HX1.out
      have k1 := (hb1.cell (p := ⟨w.heap.size + 1, 0, none⟩) HK.out.2).trans HK.out.1
      have HK1 := hide (And.intro k1 (Nat.lt_of_lt_of_le HK.out.2 hb1.size))
      clear hb1
      go_wp2_with fail
      refine (between_eq h2).mono ?_
      rintro _ w2 ⟨rfl, hw⟩
      obtain rfl : w1 = w2 := hw.symm
      go_wp2_with fail
      refine (nf_any HN.out (by omega) (HA.out.below HBf.out)).mono ?_
      rintro _ w3 ⟨rfl, hb3, own3⟩
      obtain ⟨O3, _⟩ := Ow.mk' own3
      have HO3 := hide O3
      have HBg := hide (HBf.out.trans (hb3.mono HBf.out.size))
      have HX3 := hide (HX1.out.below hb3)
      have HK3 := hide (And.intro ((hb3.cell (p := ⟨w.heap.size + 1, 0, none⟩) HK1.out.2).trans HK1.out.1) (Nat.lt_of_lt_of_le HK1.out.2 hb3.size))
      generalize w1.heap.size + 1 = G at *
      clear own3 O3 hb3 x0 x1 x2 k1
      go_wp2_with fail
      refine (if17_any HLL hn10 HO3 HLT HQ (hide (HO.out.below HBg.out)) HX3 HK3 hj1 HJ2 HJ3).mono ?_
      rintro _ w4 ⟨rfl, hb4⟩
      have HBh := hide (HBg.out.trans (hb4.mono HBg.out.size))
      obtain ⟨_, _, e1, r1⟩ := ((HO3.out.below hb4).row (by rw [nats_len]; exact HLL.out)).at (i := j) (by rw [nats_len, HLL.out]; exact hj1)
      cases e1
      rw [nats_get, Nat.zero_add] at r1
      clear hb4
      go_wp2_with fail
      go_ret2
      exact ⟨by rw [HXX.out, HF.out]; rfl, HBh.out⟩
set_option maxHeartbeats 4000000 in
theorem snr_any {a b o : Option Addr} {n m q c d e : Nat} {k : Int} {ws cs os : List Int} {w : World} (HN : Hid (ws.length = n)) (hn : n ≤ 1048576) (HM : Hid (cs.length = m)) (HQ : Hid (os.length = q)) (hq : q ≤ 1048576) (HA : Hid (ARow w a ws)) (HB : Hid (ARow w b cs)) (HO : Hid (ARow w o os)) :
    Calls Try.prog 24 #[.agg #[.slice a n c, .slice b m d, .slice o q e], .int .i64 k] w fun e w' => e = .returned (.tuple #[.int .i64 (Hs.nearI ws cs os k), .bool (Hs.nearB ws cs os k)]) ∧ Below w.heap.size w w' := by
  have HB0 := hide (below_new w (.cells #[.slice a n c, .slice b m d, .slice o q e] 41))
  have HX := hide (HBox.new w (.slice a n c) (.slice b m d) (.slice o q e) 41)
  have HE : Hid (Hs.nearB ws cs os k = (Hs.houseB ws cs os && Pf.inB k 0 ((m : Int) - 1))) := hide (by unfold Hs.nearB; rw [HM.out])
  have HI : Hid (Hs.nearB ws cs os k = false → Hs.nearI ws cs os k = 0) := hide fun h => by unfold Hs.nearI; rw [if_neg (by rw [h]; simp)]
  have HI2 : Hid (Hs.nearB ws cs os k = true → Hs.nearI ws cs os k = Hs.best ws os k ws.length) := hide fun h => by unfold Hs.nearI; rw [if_pos h]
  cases h1 : Hs.houseB ws cs os
  · have HF : Hid (Hs.nearB ws cs os k = false) := hide (by rw [HE.out, h1]; rfl)
    have HF2 := hide (HI.out HF.out)
    have H1 := hide h1
    generalize Hs.nearI ws cs os k = X at *
    generalize Hs.nearB ws cs os k = Y at *
    clear h1 HE HI HI2
    go_enter Try.func24, Try.ntmps24
    go_wp2_with fail
    refine (sgh17_eq HN HM hn HQ hq (hide (HA.out.below HB0.out)) (hide (HB.out.below HB0.out)) (hide (HO.out.below HB0.out)) H1).mono ?_
    rintro _ w1 ⟨rfl, hb1⟩
    have HBf := hide (HB0.out.trans (hb1.mono HB0.out.size))
    clear hb1
    go_wp2_with fail
    go_ret2
    exact ⟨by rw [HF.out, HF2.out]; rfl, HBf.out⟩
  · have H1 := hide h1
    obtain ⟨hql, hm1, hm8, hn10⟩ := Hs.house_len h1
    have hqn : q = n := by rw [← HQ.out, ← HN.out]; exact hql
    subst hqn
    rw [HM.out] at hm1 hm8
    rw [HN.out] at hn10
    cases h2 : Pf.inB k 0 ((m : Int) - 1)
    · have HF : Hid (Hs.nearB ws cs os k = false) := hide (by rw [HE.out, h1, h2]; rfl)
      have HF2 := hide (HI.out HF.out)
      generalize Hs.nearI ws cs os k = X at *
      generalize Hs.nearB ws cs os k = Y at *
      have hko := Pf.inB_no h2
      clear h1 HE HI HI2 h2
      by_cases hk0 : k < 0
      · clear hko
        go_enter Try.func24, Try.ntmps24
        go_wp2_with fail
        refine (sgh17_eq HN HM hn HQ hq (hide (HA.out.below HB0.out)) (hide (HB.out.below HB0.out)) (hide (HO.out.below HB0.out)) H1).mono ?_
        rintro _ w1 ⟨rfl, hb1⟩
        have HBf := hide (HB0.out.trans (hb1.mono HB0.out.size))
        clear hb1
        go_wp2_with fail
        go_ret2
        exact ⟨by rw [HF.out, HF2.out]; rfl, HBf.out⟩
      · have hk1 : (m : Int) ≤ k := by omega
        clear hko
        go_enter Try.func24, Try.ntmps24
        go_wp2_with fail
        refine (sgh17_eq HN HM hn HQ hq (hide (HA.out.below HB0.out)) (hide (HB.out.below HB0.out)) (hide (HO.out.below HB0.out)) H1).mono ?_
        rintro _ w1 ⟨rfl, hb1⟩
        have HBf := hide (HB0.out.trans (hb1.mono HB0.out.size))
        obtain ⟨x0, x1, x2, _⟩ := HX.out.below hb1
        clear hb1
        go_wp2_with fail
        go_ret2
        exact ⟨by rw [HF.out, HF2.out]; rfl, HBf.out⟩
    · have HF : Hid (Hs.nearB ws cs os k = true) := hide (by rw [HE.out, h1, h2]; rfl)
      have HF2 := hide (HI2.out HF.out)
      obtain ⟨hk0, hk1⟩ := Pf.inB_yes h2
      have hk2 : ¬ k < 0 := by omega
      have hk3 : ¬ (m : Int) ≤ k := by omega
      generalize Hs.nearI ws cs os k = X at *
      generalize Hs.nearB ws cs os k = Y at *
      clear h1 HE HI HI2 h2 hk0 hk1
      go_enter Try.func24, Try.ntmps24
      go_wp2_with fail
      refine (sgh17_eq HN HM hn HQ hq (hide (HA.out.below HB0.out)) (hide (HB.out.below HB0.out)) (hide (HO.out.below HB0.out)) H1).mono ?_
      rintro _ w1 ⟨rfl, hb1⟩
      have HBf := hide (HB0.out.trans (hb1.mono HB0.out.size))
      have HX1 := hide (HX.out.below hb1)
      obtain ⟨x0, x1, x2, _⟩ := HX1.out
      have HA1 := hide (HA.out.below HBf.out)
      have HO1 := hide (HO.out.below HBf.out)
      clear hb1
      go_wp2_with fail
      go_loopw [6, 7, 8, 26] (fun s6 _ _ s wr => ∃ (i t : Nat), s6 = .int .i64 (Hs.best ws os k i) ∧ s = .int .i64 i ∧ i ≤ q ∧ wr = w1.drewN t) (fun _ _ _ s _ => q - (intOf s).toNat)
      case atStart => exact ⟨0, 0, rfl, rfl, Nat.zero_le _, rfl⟩
      case round =>
        obtain ⟨i, t, rfl, rfl, hi, rfl⟩ := hrel
        by_cases hlt : i < q
        · obtain ⟨ba, oa, rfl, r1⟩ := HA1.out.at (i := i) (by rw [HN.out]; exact hlt)
          obtain ⟨bo, oo, rfl, r2⟩ := HO1.out.at (i := i) (by rw [HQ.out]; exact hlt)
          have i0 : (0 : Int) ≤ (i : Int) := by omega
          have i1 : (i : Int) < (q : Int) := by omega
          have HST : Hid (Hs.best ws os k (i + 1) = if os.getD i 0 = k ∧ (Hs.best ws os k i < 0 ∨ ws.getD i 0 < ws.getD (Hs.best ws os k i).toNat 0) then (i : Int) else Hs.best ws os k i) := hide rfl
          by_cases ho : os.getD i 0 = k
          · have hok : (os.getD i 0 == k) = true := by simpa using ho
            rcases Hs.best_spec ws os k i with ⟨hbe, _⟩ | ⟨s, hbe, hbs⟩
            · rw [hbe] at HST ⊢
              have HS1 : Hid (Hs.best ws os k (i + 1) = (i : Int)) := hide (by rw [HST.out, if_pos ⟨ho, Or.inl (by omega)⟩])
              generalize os.getD i 0 = y at *
              generalize ws.getD i 0 = z at *
              clear HST ho
              go_wp2_with fail
              go_quiet (fail)
              go_wp2_with fail
              go_roundw
              case rel => exact ⟨i + 1, t + nq, by rw [HS1.out], by go_num, by omega, by first | rfl | rw [World.drewN_drewN]⟩
              case measure => simp only [intOf]; omega
            · have hsq : s < q := by have := hbs.lt; omega
              obtain ⟨_, _, e1, r3⟩ := HA1.out.at (i := s) (by rw [HN.out]; exact hsq)
              cases e1
              have s0 : (0 : Int) ≤ (s : Int) := by omega
              have s1 : (s : Int) < (q : Int) := by omega
              have s2 : decide ((s : Int) < 0) = false := by simp
              rw [hbe, Int.toNat_natCast] at HST
              rw [hbe]
              by_cases hw : ws.getD i 0 < ws.getD s 0
              · have HS1 : Hid (Hs.best ws os k (i + 1) = (i : Int)) := hide (by rw [HST.out, if_pos ⟨ho, Or.inr hw⟩])
                generalize os.getD i 0 = y at *
                generalize ws.getD i 0 = z at *
                generalize ws.getD s 0 = u at *
                clear HST ho hbs
                go_wp2_with fail
                go_quiet (fail)
                go_wp2_with fail
                go_roundw
                case rel => exact ⟨i + 1, t + nq, by rw [HS1.out], by go_num, by omega, by first | rfl | rw [World.drewN_drewN]⟩
                case measure => simp only [intOf]; omega
              · have HS1 : Hid (Hs.best ws os k (i + 1) = (s : Int)) := hide (by rw [HST.out, if_neg (fun h => by
                  rcases h.2 with h | h
                  · omega
                  · exact hw h)])
                have hw' : decide (ws.getD i 0 < ws.getD s 0) = false := decide_eq_false hw
                generalize os.getD i 0 = y at *
                generalize ws.getD i 0 = z at *
                generalize ws.getD s 0 = u at *
                clear HST ho hbs
                go_wp2_with fail
                go_quiet (fail)
                go_wp2_with fail
                go_roundw
                case rel => exact ⟨i + 1, t + nq, by rw [HS1.out], by go_num, by omega, by first | rfl | rw [World.drewN_drewN]⟩
                case measure => simp only [intOf]; omega
          · have hok : (os.getD i 0 == k) = false := by simpa using ho
            have HS1 : Hid (Hs.best ws os k (i + 1) = Hs.best ws os k i) := hide (by rw [HST.out, if_neg (fun h => ho h.1)])
            generalize os.getD i 0 = y at *
            generalize ws.getD i 0 = z at *
            clear HST ho
            go_wp2_with fail
            go_quiet (fail)
            go_wp2_with fail
            go_roundw
            case rel => exact ⟨i + 1, t + nq, by rw [HS1.out], by go_num, by omega, by first | rfl | rw [World.drewN_drewN]⟩
            case measure => simp only [intOf]; omega
        · have hie : i = q := by omega
          subst hie
          have HBE := hide (below_drewN HBf.out t)
          clear x0 x1 x2
          go_wp2_with fail
          go_ret2
          exact ⟨by rw [HF.out, HF2.out, HN.out]; rfl, HBE.out⟩
end Go.Proofs.Ytlbagigghpiifaa
