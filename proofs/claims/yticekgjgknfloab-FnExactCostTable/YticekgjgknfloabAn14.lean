/-
  CostTable of the program and of the model.
-/
import Derived.Test.YticekgjgknfloabAm14
namespace Go.Proofs.Yticekgjgknfloab
namespace Lo
theorem ctL_le {nd : List Int} {S K : Int} : (ctL nd S K).length ≤ 11 := by
  cases h : goodB nd S K
  · simp [ctL, h]
  · rw [ctL, if_pos h, Lt.tab_len]; have := (good_of h).n10; omega
end Lo
open Go.RowKit
set_option maxHeartbeats 4000000 in
theorem ct_w {a : Option Addr} {n c : Nat} {xs : List Int} {S K : Int} {w : World} (hc : n ≤ c) (HN : Hid (xs.length = n)) (HA : Hid (ARow w a xs)) :
    Calls Try.prog 7 #[.agg #[.slice a n c, .int .i64 S, .int .i64 K]] w fun e w' => LB14 w (Lo.goodB xs S K) (Lo.ctL xs S K) e w' := by
  have hB0 := below_new w (.cells #[.slice a n c, .int .i64 S, .int .i64 K] 28)
  have pb0 := TBox.new w (.slice a n c) (.int .i64 S) (.int .i64 K) 28
  obtain ⟨w0, hw0⟩ : ∃ W, W = w.alloc (.cells #[.slice a n c, .int .i64 S, .int .i64 K] 28) := ⟨_, rfl⟩
  rw [← hw0] at hB0 pb0
  have HW0 := hide hw0.symm
  obtain ⟨B, hB⟩ : ∃ b, b = w.heap.size := ⟨_, rfl⟩
  rw [← hB] at pb0
  have HBe := hide hB.symm
  have PB := hide pb0
  have R0 := hide (HA.out.below hB0)
  have HB0 := hide hB0
  clear hw0 hB pb0 hB0 HA
  obtain ⟨YY, hY⟩ : ∃ G, G = Lo.ctL xs S K := ⟨_, rfl⟩
  rw [← hY]
  cases hg : Lo.goodB xs S K
  · have HG := hide hg
    have HNO : Hid (∀ W, Below w.heap.size w W → LB14 w false YY (.returned (.tuple #[.slice none 0 0, .bool false])) W) := hide fun W h => by
      rw [hY, Lo.ctL, hg]
      exact ⟨_, rfl, h, av_nil14 _ _⟩
    obtain ⟨p0, p1, p2, _⟩ := PB.out
    clear hg hY
    go_enter Try.func7, Try.ntmps7
    go_upto_region 1 with fail
    rw [HW0.out, HBe.out]
    clear HW0 HBe
    go_wp2_with fail
    refine (gt_eq HN R0 HG).mono ?_
    rintro e w1 ⟨rfl, hb1⟩
    have HB1 := hide (HB0.out.trans (hb1.mono HB0.out.size))
    clear hb1
    go_wp2_with fail
    go_ret2
    exact HNO.out _ HB1.out
  · have HG := hide hg
    have g := Lo.good_of hg
    obtain ⟨n1, n10, hall, s0, s1, k0, k1⟩ := g
    rw [HN.out] at n1 n10
    have HYES : Hid (∀ v W, Below w.heap.size w W → (∃ lo hi, w.heap.size ≤ lo ∧ AV W lo hi v (n + 1) (Lt.tab S K (Lo.fn xs) n)) → LB14 w true YY (.returned (.tuple #[v, .bool true])) W) := hide fun v W h ⟨lo, hi, h1, h2⟩ => by
      rw [hY, Lo.ctL, if_pos hg, HN.out]
      refine ⟨v, rfl, h, ?_⟩
      rw [Lt.tab_len]
      exact ⟨owns_low h2.1 h1, fun g hg => by have := (h2.1.lt g hg).2; exact this, Nat.le_refl _⟩
    have HLT := hide fun (W : World) (r : Hid (ARow W a xs)) => lt14_any (w := W) (c := c) s0 s1 k0 k1 HN n10 hc r hall
    obtain ⟨p0, p1, p2, _⟩ := PB.out
    clear hg hY hall s0 s1 k0 k1
    go_enter Try.func7, Try.ntmps7
    go_upto_region 1 with fail
    rw [HW0.out, HBe.out]
    clear HW0 HBe
    go_wp2_with fail
    refine (gt_eq HN R0 HG).mono ?_
    rintro e w1 ⟨rfl, hb1⟩
    have R1 := hide (R0.out.below hb1)
    have HB1 := hide (HB0.out.trans (hb1.mono HB0.out.size))
    obtain ⟨p0, p1, p2, _⟩ := PB.out.below hb1
    clear hb1
    go_wp2_with fail
    refine (HLT.out _ R1).mono ?_
    rintro e w2 ⟨b2, c2, rfl, hb2, o2⟩
    have HB2 := hide (HB1.out.trans (hb2.mono HB1.out.size))
    have HE := hide (show ∃ lo hi, w.heap.size ≤ lo ∧ AV w2 lo hi (.slice (some ⟨b2, 0, none⟩) (n + 1) c2) (n + 1) (Lt.tab S K (Lo.fn xs) n) from ⟨_, _, HB1.out.size, o2⟩)
    clear hb2 o2
    go_wp2_with fail
    go_ret2
    exact HYES.out _ _ HB2.out HE.out
theorem ct_v {a : Option Addr} {n c : Nat} {xs : List Int} {S K : Int} {w : World} (hc : n ≤ c) (HN : Hid (xs.length = n)) (HA : Hid (ARow w a xs)) :
    Calls Try.prog 7 #[.agg #[.slice a n c, .int .i64 S, .int .i64 K]] w fun e w' => ∃ v, e = .returned (.tuple #[v, .bool (Lo.goodB xs S K)]) ∧ Below w.heap.size w w' ∧ AV w' w.heap.size w'.heap.size v (Lo.ctL xs S K).length (Lo.ctL xs S K) := ct_w hc HN HA
set_option maxHeartbeats 4000000 in
theorem sct_w {a : Option Addr} {n c : Nat} {xs : List Int} {S K : Int} {w : World} (HN : Hid (xs.length = n)) (HA : Hid (ARow w a xs)) :
    Calls Try.prog 5 #[.agg #[.slice a n c, .int .i64 S, .int .i64 K]] w fun e w' => LB14 w (Lo.goodB xs S K) (Lo.ctL xs S K) e w' := by
  have hB0 := below_new w (.cells #[.slice a n c, .int .i64 S, .int .i64 K] 28)
  have pb0 := TBox.new w (.slice a n c) (.int .i64 S) (.int .i64 K) 28
  obtain ⟨w0, hw0⟩ : ∃ W, W = w.alloc (.cells #[.slice a n c, .int .i64 S, .int .i64 K] 28) := ⟨_, rfl⟩
  rw [← hw0] at hB0 pb0
  have HW0 := hide hw0.symm
  obtain ⟨B, hB⟩ : ∃ b, b = w.heap.size := ⟨_, rfl⟩
  rw [← hB] at pb0
  have HBe := hide hB.symm
  have PB := hide pb0
  have R0 := hide (HA.out.below hB0)
  have HB0 := hide hB0
  clear hw0 hB pb0 hB0 HA
  obtain ⟨YY, hY⟩ : ∃ G, G = Lo.ctL xs S K := ⟨_, rfl⟩
  rw [← hY]
  cases hg : Lo.goodB xs S K
  · have HG := hide hg
    have HNO : Hid (∀ W, Below w.heap.size w W → LB14 w false YY (.returned (.tuple #[.slice none 0 0, .bool false])) W) := hide fun W h => by
      rw [hY, Lo.ctL, hg]
      exact ⟨_, rfl, h, av_nil14 _ _⟩
    obtain ⟨p0, p1, p2, _⟩ := PB.out
    clear hg hY
    go_enter Try.func5, Try.ntmps5
    go_upto_region 1 with fail
    rw [HW0.out, HBe.out]
    clear HW0 HBe
    go_wp2_with fail
    refine (sgt_eq HN R0 HG).mono ?_
    rintro e w1 ⟨rfl, hb1⟩
    have HB1 := hide (HB0.out.trans (hb1.mono HB0.out.size))
    clear hb1
    go_wp2_with fail
    go_ret2
    exact HNO.out _ HB1.out
  · have HG := hide hg
    have g := Lo.good_of hg
    obtain ⟨n1, n10, hall, s0, s1, k0, k1⟩ := g
    rw [HN.out] at n1 n10
    have HYES : Hid (∀ v W, Below w.heap.size w W → (∃ lo hi, w.heap.size ≤ lo ∧ AV W lo hi v (n + 1) (Lt.tab S K (Lo.fn xs) n)) → LB14 w true YY (.returned (.tuple #[v, .bool true])) W) := hide fun v W h ⟨lo, hi, h1, h2⟩ => by
      rw [hY, Lo.ctL, if_pos hg, HN.out]
      refine ⟨v, rfl, h, ?_⟩
      rw [Lt.tab_len]
      exact ⟨owns_low h2.1 h1, fun g hg => by have := (h2.1.lt g hg).2; exact this, Nat.le_refl _⟩
    have HLT := hide fun (W : World) (r : Hid (ARow W a xs)) => slt14_any (w := W) (c := c) s0 s1 k0 k1 HN n10 r hall
    obtain ⟨p0, p1, p2, _⟩ := PB.out
    clear hg hY hall s0 s1 k0 k1
    go_enter Try.func5, Try.ntmps5
    go_upto_region 1 with fail
    rw [HW0.out, HBe.out]
    clear HW0 HBe
    go_wp2_with fail
    refine (sgt_eq HN R0 HG).mono ?_
    rintro e w1 ⟨rfl, hb1⟩
    have R1 := hide (R0.out.below hb1)
    have HB1 := hide (HB0.out.trans (hb1.mono HB0.out.size))
    obtain ⟨p0, p1, p2, _⟩ := PB.out.below hb1
    clear hb1
    go_wp2_with fail
    refine (HLT.out _ R1).mono ?_
    rintro e w2 ⟨b2, c2, rfl, hb2, o2⟩
    have HB2 := hide (HB1.out.trans (hb2.mono HB1.out.size))
    have HE := hide (show ∃ lo hi, w.heap.size ≤ lo ∧ AV w2 lo hi (.slice (some ⟨b2, 0, none⟩) (n + 1) c2) (n + 1) (Lt.tab S K (Lo.fn xs) n) from ⟨_, _, HB1.out.size, o2⟩)
    clear hb2 o2
    go_wp2_with fail
    go_ret2
    exact HYES.out _ _ HB2.out HE.out
theorem sct_v {a : Option Addr} {n c : Nat} {xs : List Int} {S K : Int} {w : World} (HN : Hid (xs.length = n)) (HA : Hid (ARow w a xs)) :
    Calls Try.prog 5 #[.agg #[.slice a n c, .int .i64 S, .int .i64 K]] w fun e w' => ∃ v, e = .returned (.tuple #[v, .bool (Lo.goodB xs S K)]) ∧ Below w.heap.size w w' ∧ AV w' w.heap.size w'.heap.size v (Lo.ctL xs S K).length (Lo.ctL xs S K) := sct_w HN HA
end Go.Proofs.Yticekgjgknfloab
