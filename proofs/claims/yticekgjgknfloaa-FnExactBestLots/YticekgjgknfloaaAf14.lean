/-
  LotCost of the model; IsLean of both.
-/
import Derived.Test.YticekgjgknfloaaAe14
namespace Go.Proofs.Yticekgjgknfloaa
open Go.RowKit

set_option maxHeartbeats 2000000 in
theorem sl14_any {a a' : Option Addr} {n c m c' : Nat} {xs ls : List Int} {S K : Int} {w : World} (HN : Hid (xs.length = n)) (HM : Hid (ls.length = m)) (HA : Hid (ARow w a xs)) (HA' : Hid (ARow w a' ls)) :
    Calls Try.prog 34 #[.agg #[.slice a n c, .int .i64 S, .int .i64 K], .slice a' m c'] w fun e w' => e = .returned (.bool (Lo.lotsB xs S K ls)) ∧ Below w.heap.size w w' := by
  have hB0 := below_new w (.cells #[.slice a n c, .int .i64 S, .int .i64 K] 27)
  have pb0 := TBox.new w (.slice a n c) (.int .i64 S) (.int .i64 K) 27
  obtain ⟨w0, hw0⟩ : ∃ W, W = w.alloc (.cells #[.slice a n c, .int .i64 S, .int .i64 K] 27) := ⟨_, rfl⟩
  rw [← hw0] at hB0 pb0
  have HW0 := hide hw0.symm
  obtain ⟨B, hB⟩ : ∃ b, b = w.heap.size := ⟨_, rfl⟩
  rw [← hB] at pb0
  have HBe := hide hB.symm
  have PB := hide pb0
  have R0 := hide (HA.out.below hB0)
  have R1 := hide (HA'.out.below hB0)
  have HB0 := hide hB0
  clear hw0 hB pb0 hB0 HA HA'
  cases hg : Lo.goodB xs S K
  · have HG := hide hg
    have HN0 : Hid (Lo.lotsB xs S K ls = false) := hide (by simp [Lo.lotsB, hg])
    obtain ⟨p0, p1, p2, _⟩ := PB.out
    clear hg
    go_enter Try.func34, Try.ntmps34
    go_upto_region 1 with fail
    rw [HW0.out, HBe.out]
    clear HW0 HBe
    go_wp2_with fail
    refine (sgt_eq HN R0 HG).mono ?_
    rintro e w1 ⟨rfl, hb1⟩
    have HB1 := hide (HB0.out.trans (hb1.mono HB0.out.size))
    clear hb1
    go_wp2_with fail
    go_ret
    exact ⟨ret_bool HN0.out.symm, HB1.out⟩
  · have HG := hide hg
    have g := Lo.good_of hg
    obtain ⟨n1, n10, hall, _⟩ := g
    rw [HN.out] at n1 n10
    by_cases hmn : m = n
    · subst hmn
      have e1 : ((m : Int) == (m : Int)) = true := by simp
      obtain ⟨b2, h2⟩ : ∃ b, Pf.allB ls 0 200 = b := ⟨_, rfl⟩
      have H2 := hide h2
      have HN0 : Hid (Lo.lotsB xs S K ls = b2) := hide (by simp [Lo.lotsB, h2, hg, HN.out, HM.out])
      obtain ⟨p0, p1, p2, _⟩ := PB.out
      clear hg h2 hall
      go_enter Try.func34, Try.ntmps34
      go_upto_region 1 with fail
      rw [HW0.out, HBe.out]
      clear HW0 HBe
      go_wp2_with fail
      refine (sgt_eq HN R0 HG).mono ?_
      rintro e w1 ⟨rfl, hb1⟩
      have HB1 := hide (HB0.out.trans (hb1.mono HB0.out.size))
      have R1x := hide (R1.out.below hb1)
      obtain ⟨p0, p1, p2, _⟩ := PB.out.below hb1
      clear hb1
      go_wp2_with fail
      refine (all_hid R1x HM (by omega) H2).mono ?_
      rintro e w2 ⟨rfl, hw2⟩
      obtain rfl := hw2.symm
      go_wp2_with fail
      go_ret
      exact ⟨ret_bool HN0.out.symm, HB1.out⟩
    · have e1 : ((m : Int) == (n : Int)) = false := by simp; omega
      have HN0 : Hid (Lo.lotsB xs S K ls = false) := hide (by simp [Lo.lotsB, HN.out, HM.out, hmn])
      obtain ⟨p0, p1, p2, _⟩ := PB.out
      clear hg hall
      go_enter Try.func34, Try.ntmps34
      go_upto_region 1 with fail
      rw [HW0.out, HBe.out]
      clear HW0 HBe
      go_wp2_with fail
      refine (sgt_eq HN R0 HG).mono ?_
      rintro e w1 ⟨rfl, hb1⟩
      have HB1 := hide (HB0.out.trans (hb1.mono HB0.out.size))
      obtain ⟨p0, p1, p2, _⟩ := PB.out.below hb1
      clear hb1
      go_wp2_with fail
      go_ret
      exact ⟨ret_bool HN0.out.symm, HB1.out⟩
/-- What the model's lots cost: -1 where something lacks. -/
def sc14 (S K : Int) (nd ls : List Int) (n : Nat) : Int := if Lo.enB nd ls then Lt.cst S K (Lo.fn nd) (Lo.fn ls) n else -1
set_option maxHeartbeats 4000000 in
theorem sc14_any {a a' : Option Addr} {n c c' : Nat} {S K : Int} {nd ls : List Int} {w : World} (s0 : 0 ≤ S) (s1 : S ≤ 100) (k0 : 0 ≤ K) (k1 : K ≤ 10) (HN : Hid (nd.length = n)) (HL : Hid (ls.length = n)) (hn : n ≤ 10) (HA : Hid (ARow w a nd)) (HA' : Hid (ARow w a' ls)) (hb1 : Pf.allB nd 0 20 = true) (hb2 : Pf.allB ls 0 200 = true) :
    Calls Try.prog 35 #[.agg #[.slice a n c, .int .i64 S, .int .i64 K], .slice a' n c'] w fun e w' => e = .returned (.int .i64 (sc14 S K nd ls n)) ∧ Below w.heap.size w w' := by
  have hB0 := below_new w (.cells #[.slice a n c, .int .i64 S, .int .i64 K] 27)
  have pb0 := TBox.new w (.slice a n c) (.int .i64 S) (.int .i64 K) 27
  obtain ⟨w0, hw0⟩ : ∃ W, W = w.alloc (.cells #[.slice a n c, .int .i64 S, .int .i64 K] 27) := ⟨_, rfl⟩
  rw [← hw0] at hB0 pb0
  have HW0 := hide hw0.symm
  obtain ⟨B, hB⟩ : ∃ b, b = w.heap.size := ⟨_, rfl⟩
  rw [← hB] at pb0
  have HBe := hide hB.symm
  obtain ⟨p0, p1, p2, _⟩ := pb0
  have R0 := hide (HA.out.below hB0)
  have R1 := hide (HA'.out.below hB0)
  have HB0 := hide hB0
  have HD := hide fun (k : Nat) (hk : k ≤ n) => Lo.left_bds hb1 hb2 HN.out HL.out hk
  have HCB := hide fun (k : Nat) (hk : k ≤ n) => Lo.cst_bds s0 s1 k0 k1 hn hb1 hb2 HN.out HL.out hk
  have HP1 := hide fun (k : Nat) (hk : k < n) => Pf.inB_yes (Pf.allB_get hb1 (show k < nd.length by rw [HN.out]; exact hk))
  have HP2 := hide fun (k : Nat) (hk : k < n) => Pf.inB_yes (Pf.allB_get hb2 (show k < ls.length by rw [HL.out]; exact hk))
  have HMB := hide fun (l : Int) (l0 : -200 ≤ l) (l1 : l ≤ 2000) => Lo.mul_bd k0 k1 l0 l1
  clear hw0 hB hB0 HA HA' hb1 hb2 k0 k1
  go_enter Try.func35, Try.ntmps35
  go_upto_region 1 with fail
  rw [HW0.out, HBe.out]
  clear HW0 HBe
  go_wp2_with fail
  go_loop [4, 5, 6, 7, 8, 11] (fun s4 s5 s6 _ _ s => ∃ (k : Nat) (x l : Int), s4 = .int .i64 0 ∧ s5 = .int .i64 x ∧ s6 = .int .i64 l ∧ s = .int .i64 k ∧ k ≤ n ∧ Hid (x = Lt.cst S K (Lo.fn nd) (Lo.fn ls) k) ∧ Hid (l = Lt.left (Lo.fn nd) (Lo.fn ls) k) ∧ Hid (∀ i, i < k → 0 ≤ Lt.left (Lo.fn nd) (Lo.fn ls) (i + 1))) (fun _ _ _ _ _ s => n - (intOf s).toNat)
  case atStart => exact ⟨0, 0, 0, rfl, rfl, rfl, rfl, Nat.zero_le _, hide rfl, hide rfl, hide fun i hi => absurd hi (Nat.not_lt_zero _)⟩
  case round =>
    obtain ⟨k, x, l, rfl, rfl, rfl, rfl, hk, HX, HLf, HALL⟩ := hrel
    by_cases hlt : k < n
    · obtain ⟨b1, o1, rfl, r1⟩ := R0.out.at (i := k) (by rw [HN.out]; exact hlt)
      obtain ⟨b2, o2, rfl, r2⟩ := R1.out.at (i := k) (by rw [HL.out]; exact hlt)
      have i0 : (0 : Int) ≤ (k : Int) := by omega
      have i1 : (k : Int) < (n : Int) := by omega
      obtain ⟨q0, q1⟩ := HP1.out k hlt
      obtain ⟨q2, q3⟩ := HP2.out k hlt
      obtain ⟨d0, d1⟩ := HD.out k hk
      obtain ⟨d2, d3⟩ := HD.out (k + 1) hlt
      obtain ⟨c0, c1⟩ := HCB.out k hk
      have HE : Hid (l + (ls.getD k 0 - nd.getD k 0) = Lt.left (Lo.fn nd) (Lo.fn ls) (k + 1)) := hide (by rw [HLf.out, Lo.left_succ])
      have HE2 : Hid (x + ((if 0 < ls.getD k 0 then S else 0) + K * Lt.left (Lo.fn nd) (Lo.fn ls) (k + 1)) = Lt.cst S K (Lo.fn nd) (Lo.fn ls) (k + 1)) := hide (by rw [HX.out, Lo.cst_succ])
      rw [← HX.out] at c0 c1
      rw [← HLf.out] at d0 d1
      rw [← HE.out] at d2 d3 HE2
      have hkk : (k : Int) ≤ 10 := by omega
      have x0 : -20000 ≤ x := by omega
      have x1 : x ≤ 201000 := by omega
      have l0 : -200 ≤ l := by omega
      have l1 : l ≤ 2000 := by omega
      have HNOT := hide fun (h : Lt.left (Lo.fn nd) (Lo.fn ls) (k + 1) < 0) => Lo.en_not (nd := nd) (lots := ls) (i := k) (by rw [HL.out]; exact hlt) h
      rw [← HE.out] at HNOT
      obtain ⟨m0, m1⟩ := HMB.out (l + (ls.getD k 0 - nd.getD k 0)) (by omega) (by omega)
      generalize nd.getD k 0 = p at *
      generalize ls.getD k 0 = q at *
      by_cases hneg : l + (q - p) < 0
      · have HF : Hid (sc14 S K nd ls n = -1) := hide (by rw [sc14, HNOT.out hneg]; rfl)
        clear d0 d1 d2 d3 c0 c1 hkk m0 m1
        by_cases hq : 0 < q
        · go_wp2_with fail
          go_ret
          exact ⟨ret_int HF.out.symm, HB0.out⟩
        · go_wp2_with fail
          go_ret
          exact ⟨ret_int HF.out.symm, HB0.out⟩
      · have HALL2 : Hid (∀ i, i < k + 1 → 0 ≤ Lt.left (Lo.fn nd) (Lo.fn ls) (i + 1)) := hide fun i hi => by
          by_cases e : i = k
          · subst e; rw [← HE.out]; omega
          · exact HALL.out i (by omega)
        clear d0 d1 d2 d3 c0 c1 hkk
        by_cases hq : 0 < q
        · rw [if_pos hq] at HE2
          have HE3 : Hid (x + S + K * (l + (q - p)) = Lt.cst S K (Lo.fn nd) (Lo.fn ls) (k + 1)) := hide (by rw [← HE2.out]; omega)
          go_wp2_with fail
          go_round
          case rel => exact ⟨k + 1, x + S + K * (l + (q - p)), l + (q - p), rfl, by go_num, by go_num, by go_num, by omega, HE3, HE, HALL2⟩
          case measure => simp only [intOf]; omega
        · rw [if_neg hq] at HE2
          have HE3 : Hid (x + K * (l + (q - p)) = Lt.cst S K (Lo.fn nd) (Lo.fn ls) (k + 1)) := hide (by rw [← HE2.out]; omega)
          go_wp2_with fail
          go_round
          case rel => exact ⟨k + 1, x + K * (l + (q - p)), l + (q - p), rfl, by go_num, by go_num, by go_num, by omega, HE3, HE, HALL2⟩
          case measure => simp only [intOf]; omega
    · have hke : k = n := by omega
      subst hke
      have HF : Hid (sc14 S K nd ls k = x) := hide (by
        rw [sc14, if_pos (Lo.en_of fun i hi => HALL.out i (by rw [HL.out] at hi; exact hi)), HX.out])
      go_wp2_with fail
      go_ret
      exact ⟨ret_int HF.out.symm, HB0.out⟩
set_option maxHeartbeats 4000000 in
theorem slc_any14 {a a' : Option Addr} {n c m c' : Nat} {xs ls : List Int} {S K : Int} {w : World} (HN : Hid (xs.length = n)) (HM : Hid (ls.length = m)) (HA : Hid (ARow w a xs)) (HA' : Hid (ARow w a' ls)) :
    Calls Try.prog 14 #[.agg #[.slice a n c, .int .i64 S, .int .i64 K], .slice a' m c'] w fun e w' => e = .returned (.tuple #[.int .i64 (Lo.lcI xs S K ls), .bool (Lo.okB xs S K ls)]) ∧ Below w.heap.size w w' := by
  have hB0 := below_new w (.cells #[.slice a n c, .int .i64 S, .int .i64 K] 27)
  have pb0 := TBox.new w (.slice a n c) (.int .i64 S) (.int .i64 K) 27
  obtain ⟨w0, hw0⟩ : ∃ W, W = w.alloc (.cells #[.slice a n c, .int .i64 S, .int .i64 K] 27) := ⟨_, rfl⟩
  rw [← hw0] at hB0 pb0
  have HW0 := hide hw0.symm
  obtain ⟨B, hB⟩ : ∃ b, b = w.heap.size := ⟨_, rfl⟩
  rw [← hB] at pb0
  have HBe := hide hB.symm
  have PB := hide pb0
  have R0 := hide (HA.out.below hB0)
  have R1 := hide (HA'.out.below hB0)
  have HB0 := hide hB0
  have HAE := hide (sl14_any (c := c) (c' := c') (S := S) (K := K) HN HM R0 R1)
  clear hw0 hB pb0 hB0 HA HA'
  cases ho : Lo.lotsB xs S K ls
  · have HI0 : Hid (Lo.lcI xs S K ls = 0) := hide (by simp [Lo.lcI, Lo.okB, ho])
    have HI1 : Hid (Lo.okB xs S K ls = false) := hide (by simp [Lo.okB, ho])
    rw [ho] at HAE
    obtain ⟨p0, p1, p2, _⟩ := PB.out
    clear ho
    go_enter Try.func14, Try.ntmps14
    go_upto_region 1 with fail
    rw [HW0.out, HBe.out]
    clear HW0 HBe
    go_wp2_with fail
    refine HAE.out.mono ?_
    rintro e w1 ⟨rfl, hb1⟩
    have HB1 := hide (HB0.out.trans (hb1.mono HB0.out.size))
    clear hb1
    go_wp2_with fail
    go_ret2
    exact ⟨by rw [HI0.out, HI1.out]; rfl, HB1.out⟩
  · rw [ho] at HAE
    have h := ho
    simp only [Lo.lotsB, Bool.and_eq_true, decide_eq_true_eq] at h
    have g := Lo.good_of h.1
    obtain ⟨n1, n10, hall, s0, s1, k0, k1⟩ := g
    have hmn : m = n := by rw [← HM.out, ← HN.out]; exact h.2.1
    subst hmn
    rw [HN.out] at n1 n10
    have HOL := hide fun (W : World) (hW : Below w0.heap.size w0 W) => sc14_any (c := c) (c' := c') (w := W) s0 s1 k0 k1 HN HM n10 (hide (R0.out.below hW)) (hide (R1.out.below hW)) hall h.2.2
    cases he : Lo.enB xs ls
    · have HI0 : Hid (Lo.lcI xs S K ls = 0) := hide (by simp [Lo.lcI, Lo.okB, he])
      have HI1 : Hid (Lo.okB xs S K ls = false) := hide (by simp [Lo.okB, he])
      have hsc : sc14 S K xs ls m = -1 := by rw [sc14, he]; rfl
      rw [hsc] at HOL
      obtain ⟨p0, p1, p2, _⟩ := PB.out
      clear ho h s0 s1 k0 k1 hall he hsc
      go_enter Try.func14, Try.ntmps14
      go_upto_region 1 with fail
      rw [HW0.out, HBe.out]
      clear HW0 HBe
      go_wp2_with fail
      refine HAE.out.mono ?_
      rintro e w1 ⟨rfl, hb1⟩
      have HB1 := hide hb1
      obtain ⟨p0, p1, p2, _⟩ := PB.out.below hb1
      clear hb1
      go_wp2_with fail
      refine (HOL.out _ HB1.out).mono ?_
      rintro e w2 ⟨rfl, hb2⟩
      have HB2 := hide (HB0.out.trans ((HB1.out.trans (hb2.mono HB1.out.size)).mono HB0.out.size))
      clear hb2
      go_wp2_with fail
      go_ret2
      exact ⟨by rw [HI0.out, HI1.out]; rfl, HB2.out⟩
    · have HI1 : Hid (Lo.okB xs S K ls = true) := hide (by simp [Lo.okB, he, ho])
      have HI0 : Hid (Lo.lcI xs S K ls = sc14 S K xs ls m) := hide (by rw [Lo.lcI, HI1.out, sc14, he, HN.out]; rfl)
      have hnn : 0 ≤ sc14 S K xs ls m := by
        rw [sc14, he, if_pos rfl]
        exact (Lo.cst_bd m s0 s1 k0 k1 fun j hj => by
          have h1 := Lo.left_bds hall h.2.2 HN.out HM.out (j := j) hj
          cases j with
          | zero => exact ⟨Int.le_refl _, by show (0 : Int) ≤ 2000; omega⟩
          | succ j => exact ⟨Lo.en_at he (by rw [HM.out]; omega), by omega⟩).1
      generalize sc14 S K xs ls m = V at *
      have hv : ¬ V < 0 := by omega
      obtain ⟨p0, p1, p2, _⟩ := PB.out
      clear ho h s0 s1 k0 k1 hall he
      go_enter Try.func14, Try.ntmps14
      go_upto_region 1 with fail
      rw [HW0.out, HBe.out]
      clear HW0 HBe
      go_wp2_with fail
      refine HAE.out.mono ?_
      rintro e w1 ⟨rfl, hb1⟩
      have HB1 := hide hb1
      obtain ⟨p0, p1, p2, _⟩ := PB.out.below hb1
      clear hb1
      go_wp2_with fail
      refine (HOL.out _ HB1.out).mono ?_
      rintro e w2 ⟨rfl, hb2⟩
      have HB2 := hide (HB0.out.trans ((HB1.out.trans (hb2.mono HB1.out.size)).mono HB0.out.size))
      clear hb2
      go_wp2_with fail
      go_ret2
      exact ⟨by rw [HI0.out, HI1.out]; rfl, HB2.out⟩
end Go.Proofs.Yticekgjgknfloaa
