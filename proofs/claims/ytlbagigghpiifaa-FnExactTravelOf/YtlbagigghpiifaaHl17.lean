/-
  What TravelOf answers, the program's and the model's.
-/
import Derived.Test.YtlbagigghpiifaaHk17
import Derived.Test.YtlbagigghpiifaaHh17
import Derived.Test.YtlbagigghpiifaaSd
import Derived.Test.YtlbagigghpiifaaSe
namespace Go.Proofs.Ytlbagigghpiifaa
open Go.RowKit

namespace Hs
def trB (ps cs ws os : List Int) : Bool := dayB ps cs ws && fitB cs os
def trF (ps cs ws os : List Int) : Int × Int := if trB ps cs ws os = true then (Fr.sumN (farL ps cs ws os), Fr.sumD (farL ps cs ws os)) else (0, 0)
def trG (ps cs ws os : List Int) : Bool := trB ps cs ws os && Fr.sumB (farL ps cs ws os)
theorem tr_yes {ps cs ws os : List Int} {n m : Nat} (hm : cs.length = m) (hn : ws.length = n) (h : trB ps cs ws os = true) : ps.length = m ∧ os.length = n ∧ n ≤ 10 ∧ m ≤ 8 ∧ (∀ i, i < m → 1 ≤ ps.getD i 0 ∧ ps.getD i 0 ≤ 30) ∧ (∀ i, i < m → 1 ≤ cs.getD i 0 ∧ cs.getD i 0 ≤ 10) ∧ (∀ i, i < n → 0 ≤ ws.getD i 0 ∧ ws.getD i 0 ≤ 1000) ∧ (∀ i, i < n → 0 ≤ os.getD i 0 ∧ os.getD i 0 < (m : Int)) := by
  rw [trB, Bool.and_eq_true] at h
  obtain ⟨h1, h2⟩ := h
  obtain ⟨f1, f2, f3⟩ := day_yes h1
  obtain ⟨c1, c2, c3, c4⟩ := slotsB_yes f3
  have hl := fit_len h2
  have h8 := (cntB_yes c1).2.1
  have hq : os.length = n := by omega
  refine ⟨by omega, hq, by omega, by omega, fun i hi => Sh.flowB_at f1 (by omega), fun i hi => cntB_at c1 (by omega), fun i hi => Pf.inB_yes (Pf.allB_get c3 (by omega)), fun i hi => ?_⟩
  have := fit_at h2 (i := i) (by omega)
  omega
end Hs
/-- The answer's variable, behind whatever was laid since. -/
theorem res17 {w W1 : World} {o : Obj} {t : TypeId} (h : Below ((w.alloc (.cells #[.int .i64 0, .int .i64 0] t)).alloc o).heap.size ((w.alloc (.cells #[.int .i64 0, .int .i64 0] t)).alloc o) W1) :
    W1.cell? ⟨w.heap.size, 0, none⟩ = some (.int .i64 0) ∧ W1.cell? ⟨w.heap.size, 1, none⟩ = some (.int .i64 0) ∧ W1.frozen? ⟨w.heap.size, 0, none⟩ = false ∧ W1.frozen? ⟨w.heap.size, 1, none⟩ = false := by
  have hz : w.heap.size < (w.alloc (.cells #[.int .i64 0, .int .i64 0] t)).heap.size := by simp
  have hb := (below_new (w.alloc (.cells #[.int .i64 0, .int .i64 0] t)) o).trans (h.mono (by simp))
  exact ⟨(hb.cell (p := ⟨w.heap.size, 0, none⟩) hz).trans (by simp [go_sem]), (hb.cell (p := ⟨w.heap.size, 1, none⟩) hz).trans (by simp [go_sem]), (hb.frozen (p := ⟨w.heap.size, 0, none⟩) hz).trans (by simp [go_sem]), (hb.frozen (p := ⟨w.heap.size, 1, none⟩) hz).trans (by simp [go_sem])⟩
theorem below_res17 {w W1 : World} {o : Obj} {t : TypeId} (h : Below ((w.alloc (.cells #[.int .i64 0, .int .i64 0] t)).alloc o).heap.size ((w.alloc (.cells #[.int .i64 0, .int .i64 0] t)).alloc o) W1) (u v : Value) :
    Below w.heap.size w ((W1.setCell ⟨w.heap.size, 0, none⟩ u).setCell ⟨w.heap.size, 1, none⟩ v) := by
  have b1 := below_new w (.cells #[.int .i64 0, .int .i64 0] t)
  have hb := b1.trans (((below_new (w.alloc (.cells #[.int .i64 0, .int .i64 0] t)) o).trans (h.mono (by simp))).mono b1.size)
  exact (hb.setCell (p := ⟨w.heap.size, 0, none⟩) (Nat.le_refl _) u).setCell (p := ⟨w.heap.size, 1, none⟩) (Nat.le_refl _) v
theorem sumF17 {b n cap : Nat} {xs : List (Int × Int)} {w : World} (hr : Hid (RowAt w b 0 xs)) (hn : Hid (xs.length = n)) (hb : b < w.heap.size) :
    Calls Try.prog 35 #[.slice (some ⟨b, 0, none⟩) n cap] w fun e w' => e = .returned (fb (Fr.sumN xs, Fr.sumD xs) (Fr.sumB xs)) ∧ Below w.heap.size w w' := by
  have := hn.out
  subst this
  exact sum_any b 0 cap xs w hr.out hb
theorem ssumF17 {b n cap : Nat} {xs : List (Int × Int)} {w : World} (hr : Hid (RowAt w b 0 xs)) (hn : Hid (xs.length = n)) (hb : b < w.heap.size) :
    Calls Try.prog 33 #[.slice (some ⟨b, 0, none⟩) n cap] w fun e w' => e = .returned (fb (Fr.sumN xs, Fr.sumD xs) (Fr.sumB xs)) ∧ Below w.heap.size w w' := by
  have := hn.out
  subst this
  exact ssum_any b 0 cap xs w hr.out hb
set_option maxHeartbeats 2000000 in
theorem tr_no {p b a o : Option Addr} {n m r q c d e f : Nat} {ps cs ws os : List Int} {w : World} (HR : Hid (ps.length = r)) (HM : Hid (cs.length = m)) (HN : Hid (ws.length = n)) (HQ : Hid (os.length = q)) (hq : q ≤ 1048576) (HP : Hid (ARow w p ps)) (HB : Hid (ARow w b cs)) (HA : Hid (ARow w a ws)) (HO : Hid (ARow w o os)) (HD : Hid (Hs.trB ps cs ws os = false)) :
    Calls Try.prog 15 #[.slice p r f, .slice b m d, .slice a n c, .slice o q e] w fun e w' => e = .returned (fb (0, 0) false) ∧ Below w.heap.size w w' := by
  have hb0 := below_new w (.cells #[.int .i64 0, .int .i64 0] 30)
  have hb1 := below_new (w.alloc (.cells #[.int .i64 0, .int .i64 0] 30)) (.cells #[.slice a n c, .slice b m d, .slice o q e, .slice p r f] 50)
  have HX := hide (DyBox.new (w.alloc (.cells #[.int .i64 0, .int .i64 0] 30)) (.slice a n c) (.slice b m d) (.slice o q e) (.slice p r f) 50)
  have HA1 := hide ((HA.out.below hb0).below hb1)
  have HB1 := hide ((HB.out.below hb0).below hb1)
  have HP1 := hide ((HP.out.below hb0).below hb1)
  have HO1 := hide ((HO.out.below hb0).below hb1)
  have hz : (w.alloc (.cells #[.int .i64 0, .int .i64 0] 30)).heap.size = w.heap.size + 1 := by simp
  rw [hz] at HX
  have HE : Hid (Hs.trB ps cs ws os = (((Sh.flowB ps && decide (ps.length = cs.length)) && Hs.slotsB cs ws) && Hs.fitB cs os)) := hide rfl
  clear hb0 hb1 hz
  cases h1 : (Sh.flowB ps && decide (ps.length = cs.length))
  · have H1 := hide h1
    clear h1
    go_enter Try.func15, Try.ntmps15
    go_wp2_with fail
    refine (ip17_eq HM HR HP1 H1).mono ?_
    rintro _ w1 ⟨rfl, hb1⟩
    obtain ⟨c0, c1, g0, g1⟩ := res17 hb1
    go_wp2_with fail
    exact bodyPost_ret (v := fb (0, 0) false) (by simp [results, Try.results15, go_sem, c0, c1, fb]) rfl ⟨rfl, below_res17 hb1 _ _⟩
  · have H1 := hide h1
    cases h2 : Hs.slotsB cs ws
    · have H2 := hide h2
      clear h1 h2
      go_enter Try.func15, Try.ntmps15
      go_wp2_with fail
      refine (ip17_eq HM HR HP1 H1).mono ?_
      rintro _ w1 ⟨rfl, hb1⟩
      obtain ⟨x0, x1, x2, x3, _⟩ := HX.out.below hb1
      have HA2 := hide (HA1.out.below hb1)
      have HB2 := hide (HB1.out.below hb1)
      go_wp2_with fail
      refine (hs_eq HN HM HA2 HB2 H2).mono ?_
      rintro _ w2 ⟨rfl, hb2⟩
      have hb3 := hb1.trans (hb2.mono hb1.size)
      obtain ⟨c0, c1, g0, g1⟩ := res17 hb3
      go_wp2_with fail
      exact bodyPost_ret (v := fb (0, 0) false) (by simp [results, Try.results15, go_sem, c0, c1, fb]) rfl ⟨rfl, below_res17 hb3 _ _⟩
    · have H2 := hide h2
      have H3 : Hid (Hs.fitB cs os = false) := hide (by have := HD.out; rw [HE.out, h1, h2, Bool.true_and, Bool.true_and] at this; exact this)
      obtain ⟨m1, m8, _⟩ := cnt_few HM (Hs.slotsB_yes h2).1
      clear h1 h2
      go_enter Try.func15, Try.ntmps15
      go_wp2_with fail
      refine (ip17_eq HM HR HP1 H1).mono ?_
      rintro _ w1 ⟨rfl, hb1⟩
      have HX1 := hide (HX.out.below hb1)
      obtain ⟨x0, x1, x2, x3, _⟩ := HX1.out
      have HA2 := hide (HA1.out.below hb1)
      have HB2 := hide (HB1.out.below hb1)
      have HO2 := hide (HO1.out.below hb1)
      go_wp2_with fail
      refine (hs_eq HN HM HA2 HB2 H2).mono ?_
      rintro _ w2 ⟨rfl, hb2⟩
      clear x0 x1 x2 x3
      obtain ⟨x0, x1, x2, x3, _⟩ := HX1.out.below hb2
      have hb3 := hb1.trans (hb2.mono hb1.size)
      go_wp2_with fail
      refine (ho_eq HM m1 m8 HQ hq (hide (HB2.out.below hb2)) (hide (HO2.out.below hb2)) H3).mono ?_
      rintro _ w3 ⟨rfl, hb4⟩
      have hb5 := hb3.trans (hb4.mono hb3.size)
      obtain ⟨c0, c1, g0, g1⟩ := res17 hb5
      go_wp2_with fail
      exact bodyPost_ret (v := fb (0, 0) false) (by simp [results, Try.results15, go_sem, c0, c1, fb]) rfl ⟨rfl, below_res17 hb5 _ _⟩
set_option maxHeartbeats 2000000 in
theorem tr_go {p b a o : Option Addr} {n m c d e f : Nat} {ps cs ws os : List Int} {w : World} (HR : Hid (ps.length = m)) (HM : Hid (cs.length = m)) (HN : Hid (ws.length = n)) (HQ : Hid (os.length = n)) (HP : Hid (ARow w p ps)) (HB : Hid (ARow w b cs)) (HA : Hid (ARow w a ws)) (HO : Hid (ARow w o os)) (HD : Hid (Hs.trB ps cs ws os = true)) :
    Calls Try.prog 15 #[.slice p m f, .slice b m d, .slice a n c, .slice o n e] w fun e w' => e = .returned (fb (Fr.sumN (Hs.farL ps cs ws os), Fr.sumD (Hs.farL ps cs ws os)) (Fr.sumB (Hs.farL ps cs ws os))) ∧ Below w.heap.size w w' := by
  obtain ⟨_, _, n10, m8, t1, t2, t3, t4⟩ := Hs.tr_yes HM.out HN.out HD.out
  have T1 := hide t1
  have T2 := hide t2
  have T3 := hide t3
  have T4 := hide t4
  have hd := HD.out
  rw [Hs.trB, Bool.and_eq_true] at hd
  obtain ⟨f1, f2, f3⟩ := Hs.day_yes hd.1
  have H1 : Hid ((Sh.flowB ps && decide (ps.length = cs.length)) = true) := hide (by rw [f1, Bool.true_and, decide_eq_true_eq]; exact f2)
  have H2 := hide f3
  have H3 := hide hd.2
  have m1 : 1 ≤ m := (cnt_few HM (Hs.slotsB_yes f3).1).1
  have hb0 := below_new w (.cells #[.int .i64 0, .int .i64 0] 30)
  have hb1 := below_new (w.alloc (.cells #[.int .i64 0, .int .i64 0] 30)) (.cells #[.slice a n c, .slice b m d, .slice o n e, .slice p m f] 50)
  have HX := hide (DyBox.new (w.alloc (.cells #[.int .i64 0, .int .i64 0] 30)) (.slice a n c) (.slice b m d) (.slice o n e) (.slice p m f) 50)
  have HA1 := hide ((HA.out.below hb0).below hb1)
  have HB1 := hide ((HB.out.below hb0).below hb1)
  have HP1 := hide ((HP.out.below hb0).below hb1)
  have HO1 := hide ((HO.out.below hb0).below hb1)
  have hz : (w.alloc (.cells #[.int .i64 0, .int .i64 0] 30)).heap.size = w.heap.size + 1 := by simp
  rw [hz] at HX
  have HL : Hid ((Hs.farL ps cs ws os).length = n) := hide ((Hs.farL_len ps cs ws os).trans HQ.out)
  have hsum := hide (fun b cap (w' : World) hr hb => sumF17 (b := b) (cap := cap) (w := w') (xs := Hs.farL ps cs ws os) hr HL hb)
  generalize hl : Hs.farL ps cs ws os = L at *
  have HLE := hide hl
  generalize Fr.sumN L = q1 at *
  generalize Fr.sumD L = q2 at *
  generalize Fr.sumB L = qb at *
  rw [fb_eq] at hsum
  clear hb0 hb1 hz hd f1 f2 f3 t1 t2 t3 t4 hl
  go_enter Try.func15, Try.ntmps15
  go_wp2_with fail
  refine (ip17_eq HM HR HP1 H1).mono ?_
  rintro _ w1 ⟨rfl, hb1⟩
  have HX1 := hide (HX.out.below hb1)
  obtain ⟨x0, x1, x2, x3, _⟩ := HX1.out
  have HA2 := hide (HA1.out.below hb1)
  have HB2 := hide (HB1.out.below hb1)
  have HO2 := hide (HO1.out.below hb1)
  have HP2 := hide (HP1.out.below hb1)
  go_wp2_with fail
  refine (hs_eq HN HM HA2 HB2 H2).mono ?_
  rintro _ w2 ⟨rfl, hb2⟩
  clear x0 x1 x2 x3
  have HX2 := hide (HX1.out.below hb2)
  obtain ⟨x0, x1, x2, x3, _⟩ := HX2.out
  have hb3 := hb1.trans (hb2.mono hb1.size)
  have HA3 := hide (HA2.out.below hb2)
  have HB3 := hide (HB2.out.below hb2)
  have HO3 := hide (HO2.out.below hb2)
  have HP3 := hide (HP2.out.below hb2)
  go_wp2_with fail
  refine (ho_eq HM m1 m8 HQ (by omega) HB3 HO3 H3).mono ?_
  rintro _ w3 ⟨rfl, hb4⟩
  clear x0 x1 x2 x3
  obtain ⟨x0, x1, x2, x3, _⟩ := HX2.out.below hb4
  have hb5 := hb3.trans (hb4.mono hb3.size)
  have HA4 := hide (HA3.out.below hb4)
  have HB4 := hide (HB3.out.below hb4)
  have HO4 := hide (HO3.out.below hb4)
  have HP4 := hide (HP3.out.below hb4)
  clear hb2 hb3 hb4
  go_wp2_with fail
  refine (ca_any HN HM HR HQ n10 T1 T2 T3 T4 HA4 HB4 HO4 HP4).mono ?_
  rintro _ w4 ⟨g, rfl, hb6, hg, hrow⟩
  have hb7 := hb5.trans (hb6.mono hb5.size)
  have HROW : Hid (RowAt w4 g 0 L) := hide (by rw [← HLE.out]; exact hrow)
  clear hrow x0 x1 x2 x3
  go_wp2_with fail
  refine (hsum.out _ _ _ HROW hg).mono ?_
  rintro _ w5 ⟨rfl, hb8⟩
  have hb9 := hb7.trans (hb8.mono hb7.size)
  obtain ⟨c0, c1, g0, g1⟩ := res17 hb9
  clear hb7 hb8 hb6 hb5 hb1
  go_wp2_with fail
  exact bodyPost_ret (v := fb (q1, q2) qb) (by simp [results, Try.results15, go_sem, c0, c1, fb]) rfl ⟨rfl, below_res17 hb9 _ _⟩
theorem tr_any {p b a o : Option Addr} {n m r q c d e f : Nat} {ps cs ws os : List Int} {w : World} (HR : Hid (ps.length = r)) (HM : Hid (cs.length = m)) (HN : Hid (ws.length = n)) (HQ : Hid (os.length = q)) (hq : q ≤ 1048576) (HP : Hid (ARow w p ps)) (HB : Hid (ARow w b cs)) (HA : Hid (ARow w a ws)) (HO : Hid (ARow w o os)) :
    Calls Try.prog 15 #[.slice p r f, .slice b m d, .slice a n c, .slice o q e] w fun e w' => e = .returned (fb (Hs.trF ps cs ws os) (Hs.trG ps cs ws os)) ∧ Below w.heap.size w w' := by
  unfold Hs.trF Hs.trG
  cases h : Hs.trB ps cs ws os
  · exact tr_no HR HM HN HQ hq HP HB HA HO (hide h)
  · obtain ⟨h1, h2, _⟩ := Hs.tr_yes HM.out HN.out h
    obtain rfl : r = m := HR.out.symm.trans h1
    obtain rfl : q = n := HQ.out.symm.trans h2
    exact tr_go HR HM HN HQ HP HB HA HO (hide h)
/-- The answer's variable of the model, behind whatever was laid since. -/
theorem sres17 {w W1 : World} {t : TypeId} (h : Below (w.alloc (.cells #[.int .i64 0, .int .i64 0] t)).heap.size (w.alloc (.cells #[.int .i64 0, .int .i64 0] t)) W1) (u v : Value) :
    Below w.heap.size w ((W1.setCell ⟨w.heap.size, 0, none⟩ u).setCell ⟨w.heap.size, 1, none⟩ v) := by
  have b1 := below_new w (.cells #[.int .i64 0, .int .i64 0] t)
  exact ((b1.trans (h.mono b1.size)).setCell (p := ⟨w.heap.size, 0, none⟩) (Nat.le_refl _) u).setCell (p := ⟨w.heap.size, 1, none⟩) (Nat.le_refl _) v
set_option maxHeartbeats 2000000 in
theorem str_no {p b a o : Option Addr} {n m r q c d e f : Nat} {ps cs ws os : List Int} {w : World} (HR : Hid (ps.length = r)) (HM : Hid (cs.length = m)) (HN : Hid (ws.length = n)) (hn : n ≤ 1048576) (HQ : Hid (os.length = q)) (hq : q ≤ 1048576) (HP : Hid (ARow w p ps)) (HB : Hid (ARow w b cs)) (HA : Hid (ARow w a ws)) (HO : Hid (ARow w o os)) (HD : Hid (Hs.trB ps cs ws os = false)) :
    Calls Try.prog 14 #[.slice p r f, .slice b m d, .slice a n c, .slice o q e] w fun e w' => e = .returned (fb (0, 0) false) ∧ Below w.heap.size w w' := by
  have hb0 := below_new w (.cells #[.int .i64 0, .int .i64 0] 30)
  have HA1 := hide (HA.out.below hb0)
  have HB1 := hide (HB.out.below hb0)
  have HP1 := hide (HP.out.below hb0)
  have HO1 := hide (HO.out.below hb0)
  clear hb0
  cases h1 : Hs.dayB ps cs ws
  · have H1 := hide h1
    clear h1
    go_enter Try.func14, Try.ntmps14
    go_wp2_with fail
    refine (sall17_eq HR HM HN hn HP1 HB1 HA1 H1).mono ?_
    rintro _ w1 ⟨rfl, hw⟩
    subst hw
    go_wp2_with fail
    exact bodyPost_ret (v := fb (0, 0) false) (by simp [results, Try.results14, go_sem, fb]) rfl ⟨rfl, below_new _ _⟩
  · have H1 := hide h1
    obtain ⟨_, _, f3⟩ := Hs.day_yes h1
    obtain ⟨m1, m8, _⟩ := cnt_few HM (Hs.slotsB_yes f3).1
    by_cases hqn : q = n
    · subst hqn
      have he : ((q : Int) != (q : Int)) = false := by simp
      have H3 : Hid (Hs.fitB cs os = false) := hide (by have := HD.out; rw [Hs.trB, h1, Bool.true_and] at this; exact this)
      clear h1 f3
      go_enter Try.func14, Try.ntmps14
      go_wp2_with fail
      refine (sall17_eq HR HM HN hn HP1 HB1 HA1 H1).mono ?_
      rintro _ w1 ⟨rfl, hw⟩
      subst hw
      go_wp2_with fail
      refine (sfit_eq HM m1 m8 HQ hq HB1 HO1 H3).mono ?_
      rintro _ w2 ⟨rfl, hb2⟩
      obtain ⟨c0, c1, g0, g1⟩ := res_new' hb2
      go_wp2_with fail
      exact bodyPost_ret (v := fb (0, 0) false) (by simp [results, Try.results14, go_sem, c0, c1, fb]) rfl ⟨rfl, sres17 hb2 _ _⟩
    · have he : ((q : Int) != (n : Int)) = true := by simp; omega
      clear h1 f3
      go_enter Try.func14, Try.ntmps14
      go_wp2_with fail
      refine (sall17_eq HR HM HN hn HP1 HB1 HA1 H1).mono ?_
      rintro _ w1 ⟨rfl, hw⟩
      subst hw
      go_wp2_with fail
      exact bodyPost_ret (v := fb (0, 0) false) (by simp [results, Try.results14, go_sem, fb]) rfl ⟨rfl, below_new _ _⟩
end Go.Proofs.Ytlbagigghpiifaa
