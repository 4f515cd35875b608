/-
  IsLean of the program and of the model.
-/
import Derived.Test.YticekgjgknfloaaAf14
namespace Go.Proofs.Yticekgjgknfloaa
namespace Lo
open Lt
def badAt (nd ls : List Int) (i : Nat) : Prop := 0 < fn ls i ∧ 0 < left (fn nd) (fn ls) i
theorem bad_zero (nd ls : List Int) : ¬ badAt nd ls 0 := fun h => by
  have := h.2
  rw [left_zero] at this
  omega
theorem il_yes {nd ls : List Int} {S K : Int} (ho : okB nd S K ls = true) (h : ∀ i, i < ls.length → ¬ badAt nd ls i) : ilB nd S K ls = true := by
  rw [ilB, ho, lean_of h]; rfl
theorem il_no {nd ls : List Int} {S K : Int} {i : Nat} (hi : i < ls.length) (h : badAt nd ls i) : ilB nd S K ls = false := by
  rw [ilB, lean_not hi h.1 h.2, Bool.and_false]
end Lo
open Go.RowKit

set_option maxHeartbeats 4000000 in
theorem il_any {a a' : Option Addr} {n c m c' : Nat} {xs ls : List Int} {S K : Int} {w : World} (hc : m ≤ c') (HN : Hid (xs.length = n)) (HM : Hid (ls.length = m)) (HA : Hid (ARow w a xs)) (HA' : Hid (ARow w a' ls)) :
    Calls Try.prog 24 #[.agg #[.slice a n c, .int .i64 S, .int .i64 K], .slice a' m c'] w fun e w' => e = .returned (.tuple #[.bool (Lo.ilB xs S K ls), .bool (Lo.okB xs S K ls)]) ∧ Below w.heap.size w w' := by
  have hB0 := below_new w (.cells #[.slice a n c, .int .i64 S, .int .i64 K] 27)
  have pb0 := TBox.new w (.slice a n c) (.int .i64 S) (.int .i64 K) 27
  obtain ⟨w0, hw0⟩ : ∃ W, W = w.alloc (.cells #[.slice a n c, .int .i64 S, .int .i64 K] 27) := ⟨_, rfl⟩
  rw [← hw0] at hB0 pb0
  have HW0 := hide hw0.symm
  obtain ⟨B, hB⟩ : ∃ b, b = w.heap.size := ⟨_, rfl⟩
  rw [← hB] at pb0
  have HBe := hide hB.symm
  have PB := hide pb0
  have R0 := hide (HA.out.below hB0)
  have R1 := hide (HA'.out.below hB0)
  have HB0 := hide hB0
  have HAE := hide (ae_any (c := c) (c' := c') (S := S) (K := K) HN HM R0 R1)
  clear hw0 hB pb0 hB0 HA HA'
  cases ho : Lo.okB xs S K ls
  · have HI0 : Hid (Lo.ilB xs S K ls = false) := hide (by simp [Lo.ilB, ho])
    rw [ho] at HAE
    obtain ⟨p0, p1, p2, _⟩ := PB.out
    clear ho
    go_enter Try.func24, Try.ntmps24
    go_upto_region 1 with fail
    rw [HW0.out, HBe.out]
    clear HW0 HBe
    go_wp2_with fail
    refine HAE.out.mono ?_
    rintro e w1 ⟨rfl, hb1⟩
    have HB1 := hide (HB0.out.trans (hb1.mono HB0.out.size))
    clear hb1
    go_wp2_with fail
    go_ret2
    exact ⟨by rw [HI0.out]; rfl, HB1.out⟩
  · rw [ho] at HAE
    obtain ⟨p0, p1, p2, _⟩ := PB.out
    have h := ho
    simp only [Lo.okB, Lo.lotsB, Bool.and_eq_true, decide_eq_true_eq] at h
    have g := Lo.good_of h.1.1
    obtain ⟨n1, n10, hall, _⟩ := g
    have hmn : m = n := by rw [← HM.out, ← HN.out]; exact h.1.2.1
    subst hmn
    rw [HN.out] at n1 n10
    have HLA := hide fun (W : World) (hW : Below w0.heap.size w0 W) => la_av (w := W) (c := c) (c' := c') HN HM n10 (hide (R0.out.below hW)) (hide (R1.out.below hW)) hall h.1.2.2
    have HY := hide (fun h => Lo.il_yes (nd := xs) (ls := ls) (S := S) (K := K) ho h)
    have HNO := hide fun (i : Nat) (hi : i < ls.length) (h : Lo.badAt xs ls i) => Lo.il_no (S := S) (K := K) hi h
    have HLL : Hid ((Lo.leftL xs ls).length = m) := hide (by rw [Lo.leftL_len, HM.out])
    have HZ := hide (Lo.bad_zero xs ls)
    clear ho h hall
    obtain ⟨b3, o3, rfl, hl3, rr3⟩ := R1.out.resolve_left (by intro e; have := HM.out; rw [e] at this; simp at this; omega)
    have HR3 : Hid (∀ W, Below w0.heap.size w0 W → ∀ k, k + 1 < m → W.cell? ⟨b3, o3 + 1 + k, none⟩ = some (.int .i64 (ls.getD (k + 1) 0))) := hide fun W h k hk => by
      rw [show o3 + 1 + k = o3 + (k + 1) by omega]
      exact (h.cell (p := ⟨b3, o3 + (k + 1), none⟩) hl3).trans (rr3 (k + 1) (by rw [HM.out]; exact hk))
    clear rr3
    by_cases hc1 : c' = 1
    · have hm1 : m = 1 := by omega
      subst hm1
      have HT : Hid (Lo.ilB xs S K ls = true) := hide (HY.out fun i hi => by
        have : i = 0 := by rw [HM.out] at hi; omega
        subst this; exact HZ.out)
      subst hc1
      clear n1 n10 hc
      go_enter Try.func24, Try.ntmps24
      go_upto_region 1 with fail
      rw [HW0.out, HBe.out]
      clear HW0 HBe
      go_wp2_with fail
      refine HAE.out.mono ?_
      rintro e w1 ⟨rfl, hb1⟩
      have HB1 := hide hb1
      obtain ⟨p0, p1, p2, _⟩ := PB.out.below hb1
      clear hb1
      go_wp2_with fail
      refine (HLA.out _ HB1.out).mono ?_
      rintro e w2 ⟨b2, rfl, hb2, o2⟩
      have HB2 := hide (HB0.out.trans ((HB1.out.trans (hb2.mono HB1.out.size)).mono HB0.out.size))
      clear hb2 o2
      go_wp2_with fail
      go_loop [7, 8, 20] (fun _ _ s => s = .int .i64 0) (fun _ _ _ => 0)
      case atStart => rfl
      case round =>
        subst hrel
        go_wp2_with fail
        go_ret2
        exact ⟨by rw [HT.out]; rfl, HB2.out⟩
    · have c0 : ¬ c' = 0 := by omega
      have c2 : ¬ c' - 1 = 0 := by omega
      have cc : (m : Int) ≤ (c' : Int) := by omega
      have cm : (1 : Int) ≤ (m : Int) := by omega
      have c1m : 1 ≤ m := n1
      go_enter Try.func24, Try.ntmps24
      go_upto_region 1 with fail
      rw [HW0.out, HBe.out]
      clear HW0 HBe
      go_wp2_with fail
      refine HAE.out.mono ?_
      rintro e w1 ⟨rfl, hb1⟩
      have HB1 := hide hb1
      obtain ⟨p0, p1, p2, _⟩ := PB.out.below hb1
      clear hb1
      go_wp2_with fail
      refine (HLA.out _ HB1.out).mono ?_
      rintro e w2 ⟨b2, rfl, hb2, o2⟩
      have HB2 := hide (HB1.out.trans (hb2.mono HB1.out.size))
      have R2 := hide (arow_owns HLL.out.symm o2.1)
      have HE2 := hide (HB0.out.trans (HB2.out.mono HB0.out.size))
      clear hb2 o2
      go_wp2_with fail
      go_loop [7, 8, 20] (fun _ _ s => ∃ k : Nat, s = .int .i64 k ∧ k + 1 ≤ m ∧ Hid (∀ i, i ≤ k → ¬ Lo.badAt xs ls i)) (fun _ _ s => m - (intOf s).toNat)
      case atStart => exact ⟨0, rfl, n1, hide fun i hi => by
        have : i = 0 := by omega
        subst this; exact HZ.out⟩
      case round =>
        obtain ⟨k, rfl, hk, HK⟩ := hrel
        by_cases hlt : k + 1 < m
        · have r3 := HR3.out _ HB2.out k hlt
          obtain ⟨b4, o4, e4, r4⟩ := R2.out.at (i := k) (by rw [HLL.out]; omega)
          cases e4
          rw [Nat.zero_add, Lo.leftL_at (by rw [HM.out]; omega)] at r4
          have i0 : (0 : Int) ≤ (k : Int) := by omega
          have i1 : (k : Int) < (m : Int) - 1 := by omega
          have i2 : (k : Int) < (m : Int) := by omega
          have i3 : k < m - 1 := by omega
          have HBK : Hid (Lo.badAt xs ls (k + 1) ↔ (0 < ls.getD (k + 1) 0 ∧ 0 < Lt.left (Lo.fn xs) (Lo.fn ls) (k + 1))) := hide Iff.rfl
          generalize ls.getD (k + 1) 0 = q at *
          generalize Lt.left (Lo.fn xs) (Lo.fn ls) (k + 1) = l at *
          by_cases hq : 0 < q
          · by_cases hl : 0 < l
            · have HF := hide (HNO.out (k + 1) (by rw [HM.out]; exact hlt) (HBK.out.2 ⟨hq, hl⟩))
              go_wp2_with fail
              go_ret2
              exact ⟨by rw [HF.out]; rfl, HE2.out⟩
            · have HK2 : Hid (∀ i, i ≤ k + 1 → ¬ Lo.badAt xs ls i) := hide fun i hi => by
                by_cases e : i = k + 1
                · subst e; exact fun h => hl (HBK.out.1 h).2
                · exact HK.out i (by omega)
              go_wp2_with fail
              go_round
              case rel => exact ⟨k + 1, by go_num, by omega, HK2⟩
              case measure => simp only [intOf]; omega
          · have HK2 : Hid (∀ i, i ≤ k + 1 → ¬ Lo.badAt xs ls i) := hide fun i hi => by
              by_cases e : i = k + 1
              · subst e; exact fun h => hq (HBK.out.1 h).1
              · exact HK.out i (by omega)
            go_wp2_with fail
            go_round
            case rel => exact ⟨k + 1, by go_num, by omega, HK2⟩
            case measure => simp only [intOf]; omega
        · have hke : m = k + 1 := by omega
          have HT : Hid (Lo.ilB xs S K ls = true) := hide (HY.out fun i hi => HK.out i (by rw [HM.out] at hi; omega))
          have j1 : ¬ (k : Int) < (m : Int) - 1 := by omega
          have j2 : ¬ k < m - 1 := by omega
          clear hke
          go_wp2_with fail
          go_ret2
          exact ⟨by rw [HT.out]; rfl, HE2.out⟩
set_option maxHeartbeats 4000000 in
theorem sil_any {a a' : Option Addr} {n c m c' : Nat} {xs ls : List Int} {S K : Int} {w : World} (HN : Hid (xs.length = n)) (HM : Hid (ls.length = m)) (HA : Hid (ARow w a xs)) (HA' : Hid (ARow w a' ls)) :
    Calls Try.prog 23 #[.agg #[.slice a n c, .int .i64 S, .int .i64 K], .slice a' m c'] w fun e w' => e = .returned (.tuple #[.bool (Lo.ilB xs S K ls), .bool (Lo.okB xs S K ls)]) ∧ Below w.heap.size w w' := by
  have hB0 := below_new w (.cells #[.slice a n c, .int .i64 S, .int .i64 K] 27)
  have pb0 := TBox.new w (.slice a n c) (.int .i64 S) (.int .i64 K) 27
  obtain ⟨w0, hw0⟩ : ∃ W, W = w.alloc (.cells #[.slice a n c, .int .i64 S, .int .i64 K] 27) := ⟨_, rfl⟩
  rw [← hw0] at hB0 pb0
  have HW0 := hide hw0.symm
  obtain ⟨B, hB⟩ : ∃ b, b = w.heap.size := ⟨_, rfl⟩
  rw [← hB] at pb0
  have HBe := hide hB.symm
  have PB := hide pb0
  have R0 := hide (HA.out.below hB0)
  have R1 := hide (HA'.out.below hB0)
  have HB0 := hide hB0
  have HAE := hide (sl14_any (c := c) (c' := c') (S := S) (K := K) HN HM R0 R1)
  clear hw0 hB pb0 hB0 HA HA'
  cases ho : Lo.lotsB xs S K ls
  · have HI0 : Hid (Lo.ilB xs S K ls = false) := hide (by simp [Lo.ilB, Lo.okB, ho])
    have HI1 : Hid (Lo.okB xs S K ls = false) := hide (by simp [Lo.okB, ho])
    rw [ho] at HAE
    obtain ⟨p0, p1, p2, _⟩ := PB.out
    clear ho
    go_enter Try.func23, Try.ntmps23
    go_upto_region 1 with fail
    rw [HW0.out, HBe.out]
    clear HW0 HBe
    go_wp2_with fail
    refine HAE.out.mono ?_
    rintro e w1 ⟨rfl, hb1⟩
    have HB1 := hide (HB0.out.trans (hb1.mono HB0.out.size))
    clear hb1
    go_wp2_with fail
    go_ret2
    exact ⟨by rw [HI0.out, HI1.out]; rfl, HB1.out⟩
  · rw [ho] at HAE
    have h := ho
    simp only [Lo.lotsB, Bool.and_eq_true, decide_eq_true_eq] at h
    have g := Lo.good_of h.1
    obtain ⟨n1, n10, hall, s0, s1, k0, k1⟩ := g
    have hmn : m = n := by rw [← HM.out, ← HN.out]; exact h.2.1
    subst hmn
    rw [HN.out] at n1 n10
    have HOL := hide fun (W : World) (hW : Below w0.heap.size w0 W) => sc14_any (c := c) (c' := c') (w := W) s0 s1 k0 k1 HN HM n10 (hide (R0.out.below hW)) (hide (R1.out.below hW)) hall h.2.2
    cases he : Lo.enB xs ls
    · have HI0 : Hid (Lo.ilB xs S K ls = false) := hide (by simp [Lo.ilB, Lo.okB, he])
      have HI1 : Hid (Lo.okB xs S K ls = false) := hide (by simp [Lo.okB, he])
      have hsc : sc14 S K xs ls m = -1 := by rw [sc14, he]; rfl
      rw [hsc] at HOL
      obtain ⟨p0, p1, p2, _⟩ := PB.out
      clear ho h s0 s1 k0 k1 hall he hsc
      go_enter Try.func23, Try.ntmps23
      go_upto_region 1 with fail
      rw [HW0.out, HBe.out]
      clear HW0 HBe
      go_wp2_with fail
      refine HAE.out.mono ?_
      rintro e w1 ⟨rfl, hb1⟩
      have HB1 := hide hb1
      obtain ⟨p0, p1, p2, _⟩ := PB.out.below hb1
      clear hb1
      go_wp2_with fail
      refine (HOL.out _ HB1.out).mono ?_
      rintro e w2 ⟨rfl, hb2⟩
      have HB2 := hide (HB0.out.trans ((HB1.out.trans (hb2.mono HB1.out.size)).mono HB0.out.size))
      clear hb2
      go_wp2_with fail
      go_ret2
      exact ⟨by rw [HI0.out, HI1.out]; rfl, HB2.out⟩
    · have ho2 : Lo.okB xs S K ls = true := by simp [Lo.okB, he, ho]
      have HI1 : Hid (Lo.okB xs S K ls = true) := hide ho2
      have HY := hide (fun h => Lo.il_yes (nd := xs) (ls := ls) (S := S) (K := K) ho2 h)
      have HNO := hide fun (i : Nat) (hi : i < ls.length) (h : Lo.badAt xs ls i) => Lo.il_no (S := S) (K := K) hi h
      have hnn : 0 ≤ sc14 S K xs ls m := by
        rw [sc14, he, if_pos rfl]
        exact (Lo.cst_bd m s0 s1 k0 k1 fun j hj => by
          have h1 := Lo.left_bds hall h.2.2 HN.out HM.out (j := j) hj
          cases j with
          | zero => exact ⟨Int.le_refl _, by show (0 : Int) ≤ 2000; omega⟩
          | succ j => exact ⟨Lo.en_at he (by rw [HM.out]; omega), by omega⟩).1
      generalize sc14 S K xs ls m = V at *
      have hv : ¬ V < 0 := by omega
      have HD := hide fun (k : Nat) (hk : k ≤ m) => Lo.left_bds hall h.2.2 HN.out HM.out hk
      have HP1 := hide fun (k : Nat) (hk : k < m) => Pf.inB_yes (Pf.allB_get hall (show k < xs.length by rw [HN.out]; exact hk))
      have HP2 := hide fun (k : Nat) (hk : k < m) => Pf.inB_yes (Pf.allB_get h.2.2 (show k < ls.length by rw [HM.out]; exact hk))
      obtain ⟨p0, p1, p2, _⟩ := PB.out
      clear ho h s0 s1 k0 k1 hall he ho2
      go_enter Try.func23, Try.ntmps23
      go_upto_region 1 with fail
      rw [HW0.out, HBe.out]
      clear HW0 HBe
      go_wp2_with fail
      refine HAE.out.mono ?_
      rintro e w1 ⟨rfl, hb1⟩
      have HB1 := hide hb1
      obtain ⟨p0, p1, p2, _⟩ := PB.out.below hb1
      clear hb1
      go_wp2_with fail
      refine (HOL.out _ HB1.out).mono ?_
      rintro e w2 ⟨rfl, hb2⟩
      have HU2 := hide (HB1.out.trans (hb2.mono HB1.out.size))
      have HB2 := hide (HB0.out.trans (HU2.out.mono HB0.out.size))
      obtain ⟨p0, p1, p2, _⟩ := PB.out.below HU2.out
      clear hb2
      go_wp2_with fail
      go_loop [6, 7, 8, 21] (fun s6 _ _ s => ∃ (k : Nat) (l : Int), s6 = .int .i64 l ∧ s = .int .i64 k ∧ k ≤ m ∧ Hid (l = Lt.left (Lo.fn xs) (Lo.fn ls) k) ∧ Hid (∀ i, i < k → ¬ Lo.badAt xs ls i)) (fun _ _ _ s => m - (intOf s).toNat)
      case atStart => exact ⟨0, 0, rfl, rfl, Nat.zero_le _, hide rfl, hide fun i hi => absurd hi (Nat.not_lt_zero _)⟩
      case round =>
        obtain ⟨k, l, rfl, rfl, hk, HLf, HK⟩ := hrel
        by_cases hlt : k < m
        · obtain ⟨b1, o1, rfl, r1⟩ := (R0.out.below HU2.out).at (i := k) (by rw [HN.out]; exact hlt)
          obtain ⟨b2, o2, rfl, r2⟩ := (R1.out.below HU2.out).at (i := k) (by rw [HM.out]; exact hlt)
          have i0 : (0 : Int) ≤ (k : Int) := by omega
          have i1 : (k : Int) < (m : Int) := by omega
          obtain ⟨q0, q1⟩ := HP1.out k hlt
          obtain ⟨q2, q3⟩ := HP2.out k hlt
          obtain ⟨d0, d1⟩ := HD.out k hk
          have HE : Hid (l + (ls.getD k 0 - xs.getD k 0) = Lt.left (Lo.fn xs) (Lo.fn ls) (k + 1)) := hide (by rw [HLf.out, Lo.left_succ])
          have HBK : Hid (Lo.badAt xs ls k ↔ (0 < ls.getD k 0 ∧ 0 < l)) := hide (by rw [HLf.out]; exact Iff.rfl)
          rw [← HLf.out] at d0 d1
          have l0 : -200 ≤ l := by omega
          have l1 : l ≤ 2000 := by omega
          generalize xs.getD k 0 = p at *
          generalize ls.getD k 0 = q at *
          clear d0 d1
          by_cases hq : 0 < q
          · by_cases hl : 0 < l
            · have HF := hide (HNO.out k (by rw [HM.out]; exact hlt) (HBK.out.2 ⟨hq, hl⟩))
              go_wp2_with fail
              go_ret2
              exact ⟨by rw [HF.out, HI1.out]; rfl, HB2.out⟩
            · have HK2 : Hid (∀ i, i < k + 1 → ¬ Lo.badAt xs ls i) := hide fun i hi => by
                by_cases e : i = k
                · subst e; exact fun h => hl (HBK.out.1 h).2
                · exact HK.out i (by omega)
              go_wp2_with fail
              go_round
              case rel => exact ⟨k + 1, l + (q - p), by go_num, by go_num, by omega, HE, HK2⟩
              case measure => simp only [intOf]; omega
          · have HK2 : Hid (∀ i, i < k + 1 → ¬ Lo.badAt xs ls i) := hide fun i hi => by
              by_cases e : i = k
              · subst e; exact fun h => hq (HBK.out.1 h).1
              · exact HK.out i (by omega)
            go_wp2_with fail
            go_round
            case rel => exact ⟨k + 1, l + (q - p), by go_num, by go_num, by omega, HE, HK2⟩
            case measure => simp only [intOf]; omega
        · have hke : k = m := by omega
          subst hke
          have HT : Hid (Lo.ilB xs S K ls = true) := hide (HY.out fun i hi => HK.out i (by rw [HM.out] at hi; exact hi))
          go_wp2_with fail
          go_ret2
          exact ⟨by rw [HT.out, HI1.out]; rfl, HB2.out⟩
end Go.Proofs.Yticekgjgknfloaa
