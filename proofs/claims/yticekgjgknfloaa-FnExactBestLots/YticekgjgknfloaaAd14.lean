/-
  What is left after each day, the least of a list, which lots are enough, what the model's lots cost.
-/
import Derived.Test.YticekgjgknfloaaAc14
import Derived.Test.YticekgjgknfloaaMm14
namespace Go.Proofs.Yticekgjgknfloaa
namespace Lo
open Lt
def leftL (nd lots : List Int) : List Int := tbl lots.length fun i => left (fn nd) (fn lots) (i + 1)
theorem leftL_len (nd lots : List Int) : (leftL nd lots).length = lots.length := tbl_len _ _
theorem leftL_at {nd lots : List Int} {i : Nat} (h : i < lots.length) : (leftL nd lots).getD i 0 = left (fn nd) (fn lots) (i + 1) := tbl_get _ h
def leftT (nd lots : List Int) (k : Nat) : List Int := tbl lots.length fun i => if i < k then left (fn nd) (fn lots) (i + 1) else 0
theorem leftT_zero (nd lots : List Int) : leftT nd lots 0 = List.replicate lots.length 0 := by
  rw [← tbl_zero]; exact tbl_eq fun i _ => by simp
theorem leftT_all (nd lots : List Int) : leftT nd lots lots.length = leftL nd lots := tbl_eq fun i hi => by simp [hi]
theorem leftT_set {nd lots : List Int} {k : Nat} : (leftT nd lots k).set k (left (fn nd) (fn lots) (k + 1)) = leftT nd lots (k + 1) := tbl_set (by simp) fun j _ hj => by
  by_cases e : j < k
  · simp [e, show j < k + 1 by omega]
  · simp [e, show ¬ j < k + 1 by omega]
theorem leftT_at {nd lots : List Int} {k : Nat} (hk : k < lots.length) : (leftT nd lots k).getD k 0 = 0 := by rw [leftT, tbl_get _ hk]; simp
theorem left_bds {nd lots : List Int} {n : Nat} (h1 : Pf.allB nd 0 20 = true) (h2 : Pf.allB lots 0 200 = true) (e1 : nd.length = n) (e2 : lots.length = n) {j : Nat} (hj : j ≤ n) : -20 * (j : Int) ≤ left (fn nd) (fn lots) j ∧ left (fn nd) (fn lots) j ≤ 200 * (j : Int) :=
  left_bd j (fun i hi => Pf.inB_yes (Pf.allB_get h1 (by omega))) fun i hi => Pf.inB_yes (Pf.allB_get h2 (by omega))
/-- All of it is nothing or more just if the least is. -/
theorem min_en {nd lots : List Int} {n : Nat} (e2 : lots.length = n) (h1 : 1 ≤ n) : decide (0 ≤ minTo (fn (leftL nd lots)) (n - 1)) = enB nd lots := by
  cases e : enB nd lots
  · rw [decide_eq_false_iff_not]
    intro h
    have : enB nd lots = true := en_of fun i hi => by
      have := minTo_le (fn (leftL nd lots)) (n - 1) i (by omega)
      rw [show fn (leftL nd lots) i = _ from leftL_at hi] at this
      omega
    rw [e] at this; cases this
  · rw [decide_eq_true_iff]
    obtain ⟨d, hd, he⟩ := minTo_is (fn (leftL nd lots)) (n - 1)
    rw [he, show fn (leftL nd lots) d = _ from leftL_at (by omega)]
    exact en_at e (by omega)
end Lo
open Go.RowKit

theorem least14 (r : List Int) (k : Nat) (hk : 1 ≤ k) : min (Lt.minTo (Lo.fn r) (k - 1)) (r.getD k 0) = Lt.minTo (Lo.fn r) (k + 1 - 1) := by
  obtain ⟨m, rfl⟩ : ∃ m, k = m + 1 := ⟨k - 1, by omega⟩
  simp only [Nat.add_sub_cancel]
  rw [Lt.minTo]
  show min (Lt.minTo (Lo.fn r) m) (Lo.fn r (m + 1)) = _
  split <;> omega
set_option maxHeartbeats 1000000 in
theorem min14 {a : Option Addr} {n c : Nat} {r : List Int} {w : World} (HN : Hid (r.length = n)) (h1 : 1 ≤ n) (h10 : n ≤ 10) (HA : Hid (ARow w a r)) :
    Calls Try.prog 51 #[.slice a n c] w fun e w' => e = .returned (.int .i64 (Lt.minTo (Lo.fn r) (n - 1))) ∧ w' = w := by
  obtain ⟨b0, o0, rfl, r0⟩ := HA.out.at (i := 0) (by have := HN.out; omega)
  have HS := hide (least14 r)
  have i0 : ¬ (n : Int) < 1 := by omega
  have i1 : (0 : Int) < (n : Int) := by omega
  rw [Nat.add_zero] at r0
  have HE : Hid (Lt.minTo (Lo.fn r) (1 - 1) = r.getD 0 0) := hide rfl
  go_enter Try.func51, Try.ntmps51
  go_wp2_with fail
  go_loop [3, 4] (fun s3 s => ∃ (k : Nat) (x : Int), s = .int .i64 k ∧ s3 = .int .i64 x ∧ 1 ≤ k ∧ k ≤ n ∧ Hid (x = Lt.minTo (Lo.fn r) (k - 1))) (fun _ s => n - (intOf s).toNat)
  case atStart => exact ⟨1, _, rfl, rfl, Nat.le_refl _, h1, hide HE.out.symm⟩
  case round =>
    obtain ⟨k, x, rfl, rfl, k1, hk, HX⟩ := hrel
    by_cases hlt : k < n
    · obtain ⟨b, off, e0, r1⟩ := HA.out.at (i := k) (by rw [HN.out]; exact hlt)
      cases e0
      have j0 : (0 : Int) ≤ (k : Int) := by omega
      have j1 : (k : Int) < (n : Int) := by omega
      have HX1 : Hid (min x (r.getD k 0) = Lt.minTo (Lo.fn r) (k + 1 - 1)) := hide (by rw [HX.out]; exact HS.out k k1)
      generalize r.getD k 0 = y at *
      go_wp2_with fail
      go_round
      case rel => exact ⟨k + 1, min x y, by go_num, by go_num, by omega, by omega, HX1⟩
      case measure => simp only [intOf]; omega
    · have hke : k = n := by omega
      subst hke
      go_wp2_with fail
      go_ret
      exact ⟨ret_int HX.out, rfl⟩
set_option maxHeartbeats 2000000 in
theorem la_own {a a' : Option Addr} {n c c' : Nat} {nd ls : List Int} {w : World} (HN : Hid (nd.length = n)) (HL : Hid (ls.length = n)) (hn : n ≤ 10) (HA : Hid (ARow w a nd)) (HA' : Hid (ARow w a' ls)) (hb1 : Pf.allB nd 0 20 = true) (hb2 : Pf.allB ls 0 200 = true) :
    Calls Try.prog 46 #[.slice a n c, .slice a' n c'] w fun e w' => e = .returned (.slice (some ⟨w.heap.size, 0, none⟩) n n) ∧ Below w.heap.size w w' ∧ w.heap.size < w'.heap.size ∧ w'.ownsRow w.heap.size 3 1 (.slice (some ⟨w.heap.size, 0, none⟩) n n) n (ints (Lo.leftL nd ls)) := by
  have hmk := makeI_run n (by omega)
  have HD := hide fun (k : Nat) (hk : k ≤ n) => Lo.left_bds hb1 hb2 HN.out HL.out hk
  have HB1 := hide fun (k : Nat) (hk : k < n) => Pf.inB_yes (Pf.allB_get hb1 (show k < nd.length by rw [HN.out]; exact hk))
  have HB2 := hide fun (k : Nat) (hk : k < n) => Pf.inB_yes (Pf.allB_get hb2 (show k < ls.length by rw [HL.out]; exact hk))
  have HM := hide (made_own w n (by omega))
  clear hb1 hb2
  go_enter Try.func46, Try.ntmps46
  go_wp2_with fail
  go_loopw [6, 7, 8, 14] (fun s6 _ _ s wr => ∃ (k : Nat) (x : Int), s6 = .int .i64 x ∧ s = .int .i64 k ∧ k ≤ n ∧ Hid (x = Lt.left (Lo.fn nd) (Lo.fn ls) k) ∧ Hid (wr.ownsRow w.heap.size 3 1 (.slice (some ⟨w.heap.size, 0, none⟩) n n) n (ints (Lo.leftT nd ls k))) ∧ Hid (Below w.heap.size w wr) ∧ w.heap.size < wr.heap.size) (fun _ _ _ s _ => n - (intOf s).toNat)
  case atStart => exact ⟨0, 0, rfl, rfl, Nat.zero_le _, hide rfl, hide (by rw [Lo.leftT_zero, HL.out]; exact HM.out), hide (below_new _ _), by simp⟩
  case round =>
    clear HM
    obtain ⟨k, x, rfl, rfl, hk, HX, HO, HB, hz⟩ := hrel
    by_cases hlt : k < n
    · obtain ⟨b1, o1, rfl, r1⟩ := (HA.out.below HB.out).at (i := k) (by rw [HN.out]; exact hlt)
      obtain ⟨b2, o2, rfl, r2⟩ := (HA'.out.below HB.out).at (i := k) (by rw [HL.out]; exact hlt)
      have i0 : (0 : Int) ≤ (k : Int) := by omega
      have i1 : (k : Int) < (n : Int) := by omega
      obtain ⟨p0, p1⟩ := HB1.out k hlt
      obtain ⟨p2, p3⟩ := HB2.out k hlt
      obtain ⟨d0, d1⟩ := HD.out k hk
      have HE : Hid (x + (ls.getD k 0 - nd.getD k 0) = Lt.left (Lo.fn nd) (Lo.fn ls) (k + 1)) := hide (by rw [HX.out, Lo.left_succ])
      have HSET := hide (Lo.leftT_set (nd := nd) (lots := ls) (k := k))
      rw [← HE.out] at HSET
      rw [← HX.out] at d0 d1
      have x0 : -200 ≤ x := by omega
      have x1 : x ≤ 2000 := by omega
      generalize nd.getD k 0 = p at *
      generalize ls.getD k 0 = q at *
      have c0 : wr.cell? ⟨w.heap.size, k, none⟩ = some (.int .i64 0) := by rw [HO.out.cellAt k (by omega), ints_get _ k (by rw [Lo.leftT, Lo.tbl_len, HL.out]; exact hlt), Lo.leftT_at (by rw [HL.out]; exact hlt)]
      have f0 := HO.out.frozenAt k
      obtain ⟨st1, st2⟩ := HO.out.stored k (.int .i64 (x + (q - p)))
      rw [ints_set, HSET.out] at st1
      have HST := hide st1
      have HB3 := hide (HB.out.setCell (p := ⟨w.heap.size, k, none⟩) (Nat.le_refl _) (.int .i64 (x + (q - p))))
      clear hmk st1 st2 d0 d1 HO
      go_wp2_with fail
      exact ⟨⟨k + 1, x + (q - p), by go_num, by go_num, by omega, HE, HST, HB3, by simpa using hz⟩, by simp only [intOf]; omega⟩
    · have hke : k = n := by omega
      subst hke
      have HE := hide (show wr.ownsRow w.heap.size 3 1 (.slice (some ⟨w.heap.size, 0, none⟩) k k) k (ints (Lo.leftL nd ls)) by rw [← Lo.leftT_all, HL.out]; exact HO.out)
      clear hmk
      go_wp2_with fail
      go_ret
      exact ⟨rfl, HB.out, hz, HE.out⟩
theorem la_av {a a' : Option Addr} {n c c' : Nat} {nd ls : List Int} {w : World} (HN : Hid (nd.length = n)) (HL : Hid (ls.length = n)) (hn : n ≤ 10) (HA : Hid (ARow w a nd)) (HA' : Hid (ARow w a' ls)) (hb1 : Pf.allB nd 0 20 = true) (hb2 : Pf.allB ls 0 200 = true) :
    Calls Try.prog 46 #[.slice a n c, .slice a' n c'] w fun e w' => ∃ b, e = .returned (.slice (some ⟨b, 0, none⟩) n n) ∧ Below w.heap.size w w' ∧ AV w' w.heap.size w'.heap.size (.slice (some ⟨b, 0, none⟩) n n) n (Lo.leftL nd ls) :=
  (la_own HN HL hn HA HA' hb1 hb2).mono fun _ _ h => ⟨_, h.1, h.2.1, AV.new h.2.2.2⟩
set_option maxHeartbeats 4000000 in
theorem ae_any {a a' : Option Addr} {n c m c' : Nat} {xs ls : List Int} {S K : Int} {w : World} (HN : Hid (xs.length = n)) (HM : Hid (ls.length = m)) (HA : Hid (ARow w a xs)) (HA' : Hid (ARow w a' ls)) :
    Calls Try.prog 36 #[.agg #[.slice a n c, .int .i64 S, .int .i64 K], .slice a' m c'] w fun e w' => e = .returned (.bool (Lo.okB xs S K ls)) ∧ Below w.heap.size w w' := by
  have hB0 := below_new w (.cells #[.slice a n c, .int .i64 S, .int .i64 K] 27)
  have pb0 := TBox.new w (.slice a n c) (.int .i64 S) (.int .i64 K) 27
  obtain ⟨w0, hw0⟩ : ∃ W, W = w.alloc (.cells #[.slice a n c, .int .i64 S, .int .i64 K] 27) := ⟨_, rfl⟩
  rw [← hw0] at hB0 pb0
  have HW0 := hide hw0.symm
  obtain ⟨B, hB⟩ : ∃ b, b = w.heap.size := ⟨_, rfl⟩
  rw [← hB] at pb0
  have HBe := hide hB.symm
  have PB := hide pb0
  have R0 := hide (HA.out.below hB0)
  have R1 := hide (HA'.out.below hB0)
  have HB0 := hide hB0
  clear hw0 hB pb0 hB0 HA HA'
  cases hg : Lo.goodB xs S K
  · have HG := hide hg
    have HN0 : Hid (Lo.okB xs S K ls = false) := hide (by simp [Lo.okB, Lo.lotsB, hg])
    obtain ⟨p0, p1, p2, _⟩ := PB.out
    clear hg
    go_enter Try.func36, Try.ntmps36
    go_upto_region 1 with fail
    rw [HW0.out, HBe.out]
    clear HW0 HBe
    go_wp2_with fail
    refine (gt_eq HN R0 HG).mono ?_
    rintro e w1 ⟨rfl, hb1⟩
    have HB1 := hide (HB0.out.trans (hb1.mono HB0.out.size))
    clear hb1
    go_wp2_with fail
    go_ret
    exact ⟨ret_bool HN0.out.symm, HB1.out⟩
  · have HG := hide hg
    have g := Lo.good_of hg
    obtain ⟨n1, n10, hall, _⟩ := g
    rw [HN.out] at n1 n10
    by_cases hmn : m = n
    · subst hmn
      have e1 : ((m : Int) == (m : Int)) = true := by simp
      cases h2 : Pf.allB ls 0 200
      · have H2 := hide h2
        have HN0 : Hid (Lo.okB xs S K ls = false) := hide (by simp [Lo.okB, Lo.lotsB, h2])
        obtain ⟨p0, p1, p2, _⟩ := PB.out
        clear hg h2 hall
        go_enter Try.func36, Try.ntmps36
        go_upto_region 1 with fail
        rw [HW0.out, HBe.out]
        clear HW0 HBe
        go_wp2_with fail
        refine (gt_eq HN R0 HG).mono ?_
        rintro e w1 ⟨rfl, hb1⟩
        have HB1 := hide (HB0.out.trans (hb1.mono HB0.out.size))
        have R1x := hide (R1.out.below hb1)
        obtain ⟨p0, p1, p2, _⟩ := PB.out.below hb1
        clear hb1
        go_wp2_with fail
        refine (areb_eqn R1x HM (by omega) H2).mono ?_
        rintro e w2 ⟨rfl, hw2⟩
        obtain rfl := hw2.symm
        go_wp2_with fail
        go_ret
        exact ⟨ret_bool HN0.out.symm, HB1.out⟩
      · have H2 := hide h2
        have HMI := hide (Lo.min_en (nd := xs) (lots := ls) HM.out n1)
        have HN0 : Hid (Lo.okB xs S K ls = Lo.enB xs ls) := hide (by simp [Lo.okB, Lo.lotsB, h2, hg, HN.out, HM.out])
        have HLL : Hid ((Lo.leftL xs ls).length = m) := hide (by rw [Lo.leftL_len, HM.out])
        obtain ⟨p0, p1, p2, _⟩ := PB.out
        have HLA := hide fun (W : World) (r0 : Hid (ARow W a xs)) (r1 : Hid (ARow W a' ls)) => la_av (w := W) (c := c) (c' := c') HN HM n10 r0 r1 hall h2
        clear hg h2 hall
        go_enter Try.func36, Try.ntmps36
        go_upto_region 1 with fail
        rw [HW0.out, HBe.out]
        clear HW0 HBe
        go_wp2_with fail
        refine (gt_eq HN R0 HG).mono ?_
        rintro e w1 ⟨rfl, hb1⟩
        have HB1 := hide (HB0.out.trans (hb1.mono HB0.out.size))
        have R0x := hide (R0.out.below hb1)
        have R1x := hide (R1.out.below hb1)
        obtain ⟨p0, p1, p2, _⟩ := PB.out.below hb1
        clear hb1
        go_wp2_with fail
        refine (areb_eqn R1x HM (by omega) H2).mono ?_
        rintro e w2 ⟨rfl, hw2⟩
        obtain rfl := hw2.symm
        go_wp2_with fail
        refine (HLA.out _ R0x R1x).mono ?_
        rintro e w3 ⟨b3, rfl, hb3, o3⟩
        have HB3 := hide (HB1.out.trans (hb3.mono HB1.out.size))
        have R3 := hide (arow_owns HLL.out.symm o3.1)
        clear hb3 o3
        go_wp2_with fail
        refine (min14 HLL n1 n10 R3).mono ?_
        rintro e w4 ⟨rfl, hw4⟩
        obtain rfl := hw4.symm
        generalize Lt.minTo (Lo.fn (Lo.leftL xs ls)) (m - 1) = M at *
        have HT : Hid (Lo.okB xs S K ls = decide (0 ≤ M)) := hide (by rw [HN0.out, ← HMI.out])
        go_wp2_with fail
        go_ret
        exact ⟨ret_bool HT.out.symm, HB3.out⟩
    · have e1 : ((m : Int) == (n : Int)) = false := by simp; omega
      have HN0 : Hid (Lo.okB xs S K ls = false) := hide (by simp [Lo.okB, Lo.lotsB, HN.out, HM.out, hmn])
      obtain ⟨p0, p1, p2, _⟩ := PB.out
      clear hg hall
      go_enter Try.func36, Try.ntmps36
      go_upto_region 1 with fail
      rw [HW0.out, HBe.out]
      clear HW0 HBe
      go_wp2_with fail
      refine (gt_eq HN R0 HG).mono ?_
      rintro e w1 ⟨rfl, hb1⟩
      have HB1 := hide (HB0.out.trans (hb1.mono HB0.out.size))
      obtain ⟨p0, p1, p2, _⟩ := PB.out.below hb1
      clear hb1
      go_wp2_with fail
      go_ret
      exact ⟨ret_bool HN0.out.symm, HB1.out⟩
end Go.Proofs.Yticekgjgknfloaa
