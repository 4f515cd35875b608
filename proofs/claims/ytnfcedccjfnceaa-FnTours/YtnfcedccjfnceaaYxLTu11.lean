/-
  FnTours: the law's own walk.
-/
import Derived.Test.YtnfcedccjfnceaaY1
import Derived.Test.YtnfcedccjfnceaaY2
import Derived.Test.YtnfcedccjfnceaaY3
import Derived.Test.YtnfcedccjfnceaaY4
namespace Go.Proofs.Ytnfcedccjfnceaa
open Go.RowKit

/-- What the law asks where stops are good, in numbers: the best, the tree's round, the tree. -/
theorem tu_facts {L : List (Int × Int)} {os : List Int} {n : Nat} (hn : L.length = n) (h : Rt.stopsB L = true) :
    ((Rt.btL L).length = n ∧ (Rt.ttL L).length = n) ∧ (Rt.tcI L (Rt.btL L) = Rt.btI L ∧ Rt.tcB L (Rt.btL L) = true) ∧ (Rt.tcI L (Rt.ttL L) = Rt.ttI L ∧ Rt.tcB L (Rt.ttL L) = true) ∧ (Rt.tcB L os = true → Rt.btI L ≤ Rt.tcI L os) ∧ Rt.ttI L ≤ 2 * Rt.toI L ∧ Rt.toI L ≤ Rt.btI L ∧ 0 ≤ Rt.toI L ∧ Rt.toI L ≤ 1000 ∧ (Rt.btL L).getD 0 0 = 0 ∧ (Rt.ttL L).getD 0 0 = 0 ∧ 1 ≤ n := by
  obtain ⟨h1, h2, h3, h4, h5, h6, h7, h8, h9⟩ := Rt.tours_facts hn h
  obtain ⟨t1, t2, t3, t4, _⟩ := Rt.tree_facts hn h
  have hb := Rt.ups_bd hn (Rt.stops_all h) t3 t2 n (Nat.le_refl _)
  have hl := Rt.stops_len h
  rw [t4] at hb
  rw [hn] at hl
  have e1 : Rt.tcB L (Rt.btL L) = true := by simp [Rt.tcB, h, hn, h1]
  have e2 : Rt.tcB L (Rt.ttL L) = true := by simp [Rt.tcB, h, hn, h2]
  refine ⟨⟨Od.ordB_len h1, Od.ordB_len h2⟩, ⟨by rw [h3]; simp [Rt.tcI, e1], e1⟩, ⟨by rw [h4]; simp [Rt.tcI, e2], e2⟩, fun ho => ?_, h6, h7, hb.1, by omega, h8, h9, hl.1⟩
  have ho' : Od.ordB os n = true := by
    simp only [Rt.tcB, Bool.and_eq_true, hn] at ho; exact ho.2
  have := h5 os ho'
  simpa [Rt.tcI, ho] using this
set_option maxRecDepth 100000 in
set_option maxHeartbeats 1000000 in
theorem lTu11_long {a1 a2 : Option Addr} {len1 cap1 len2 cap2 : Nat} {w : World} (h1 : (1048576 : Int) < wrap64 ((len1 : Int) + (len2 : Int))) :
    Calls Try.prog 3 #[.slice a1 len1 cap1, .slice a2 len2 cap2] w fun e w' => e = .returned (.bool true) ∧ Below w.heap.size w w' := by
  go_enter Try.func3, Try.ntmps3
  go_wp2_with fail
  go_ret
  exact ⟨rfl, Below.refl _ _⟩
set_option maxRecDepth 100000 in
set_option maxHeartbeats 8000000 in
theorem lTu11_main {a1 a2 : Option Addr} {len1 cap1 len2 cap2 : Nat} {w : World} (hs1 : Hid (Src w a1 len1)) (h1 : ¬ (1048576 : Int) < wrap64 ((len1 : Int) + (len2 : Int))) :
    Calls Try.prog 3 #[.slice a1 len1 cap1, .slice a2 len2 cap2] w fun e w' => e = .returned (.bool true) ∧ Below w.heap.size w w' := by
  have hl2 : ((len2 : Int) < 0) = False := by simp
  have hl3 : (0 : Int) ≤ (len2 : Int) := by omega
  go_enter Try.func3, Try.ntmps3
  go_wp2_with fail
  refine (drawTC_any hs1).mono ?_
  rintro e w1 ⟨al, cl, L, ao, co, os, n, rfl, hl, ho, hn, rl, ro, hc, hb1⟩
  have HB1 := hide hb1
  have HL := hide hl
  have HO := hide ho
  have HRL := hide fun (W : World) (h : Below w1.heap.size w1 W) => rl.below h
  have HTC := hide (tc_w (w := w1) (c := cl) (d := co) hl ho rl ro)
  have HST := hide fun (W : World) (h : Below w1.heap.size w1 W) => stc_w (w := W) (c := cl) (d := co) hl (by omega) ho hc (rl.below h) (ro.below h)
  obtain ⟨X, hX⟩ : ∃ X, Rt.tcI L os = X := ⟨_, rfl⟩
  obtain ⟨G, hG⟩ : ∃ G, Rt.tcB L os = G := ⟨_, rfl⟩
  obtain ⟨T, hT⟩ : ∃ T, Rt.stopsB L = T := ⟨_, rfl⟩
  rw [hX, hG] at HTC HST
  have HFA := hide fun (h : T = true) => tu_facts (os := os) hl (hT.trans h)
  have HT := hide hT
  have HGS := hide fun (W : World) (h : Below w1.heap.size w1 W) => gst_eq (w := W) (c := cl) HL (hide (rl.below h)) HT
  have HSG := hide fun (W : World) (h : Below w1.heap.size w1 W) => sgst_eq (w := W) (c := cl) HL (by omega) (hide (rl.below h)) HT
  have HBT := hide fun (W : World) (h : Below w1.heap.size w1 W) => bt_v (w := W) (c := cl) hl (by omega) (rl.below h)
  have HSB := hide fun (W : World) (h : Below w1.heap.size w1 W) => sbt_v (w := W) (c := cl) hl (by omega) (rl.below h)
  have HTT := hide fun (W : World) (h : Below w1.heap.size w1 W) => tt_v (w := W) (c := cl) hl (rl.below h)
  have HSS := hide fun (W : World) (h : Below w1.heap.size w1 W) => stt_v (w := W) (c := cl) hl (by omega) (rl.below h)
  have HTO := hide fun (W : World) (h : Below w1.heap.size w1 W) => to_v (w := W) (c := cl) hl (rl.below h)
  rw [hX, hG] at HFA
  rw [hT] at HBT HSB HTT HSS HTO
  have hbl := bt_le L
  have htl := tt_le L
  generalize hB : Rt.btL L = B at *
  generalize hQ : Rt.ttL L = Q at *
  generalize Rt.btI L = M at *
  generalize Rt.ttI L = K at *
  generalize Rt.toI L = S at *
  generalize hnb : B.length = nb at *
  generalize hnq : Q.length = nq at *
  have HNB := hide hnb
  have HNQ := hide hnq
  have hXX : (X != X) = false := by simp
  have hGG : (G != G) = false := by simp
  have hTT : (T != T) = false := by simp
  have hMM : (M != M) = false := by simp
  have hKK : (K != K) = false := by simp
  clear hX hG hT hl ho hb1 rl ro hB hQ hnb hnq
  go_wp2_with fail
  refine HTC.out.mono ?_
  rintro e w2 ⟨rfl, hb2⟩
  have B2 := hide hb2
  clear hb2 HTC
  go_wp2_with fail
  refine (HST.out _ B2.out).mono ?_
  rintro e w3 ⟨rfl, hb3⟩
  have B3 := hide (B2.out.trans (hb3.mono B2.out.size))
  clear hb3 B2 HST
  go_wp2_with fail
  refine (HGS.out _ B3.out).mono ?_
  rintro e w4 ⟨rfl, hb4⟩
  have B4 := hide (B3.out.trans (hb4.mono B3.out.size))
  clear hb4 B3 HGS
  go_wp2_with fail
  refine (HSG.out _ B4.out).mono ?_
  rintro e w5 ⟨rfl, hb5⟩
  have B5 := hide (B4.out.trans (hb5.mono B4.out.size))
  clear hb5 B4 HSG
  go_wp2_with fail
  refine (HBT.out _ B5.out).mono ?_
  rintro e w6 ⟨r1, rfl, hb6, av1⟩
  have B6 := hide (B5.out.trans (hb6.mono B5.out.size))
  obtain ⟨ab, cb, rfl, rb⟩ := av1.row HNB.out
  have RB := hide fun (W : World) (h : Below w6.heap.size w6 W) => rb.below h
  clear hb6 av1 rb B5 HBT
  go_wp2_with fail
  refine (HSB.out _ B6.out).mono ?_
  rintro e w7 ⟨r2, rfl, hb7, av2⟩
  have B7 := hide (B6.out.trans (hb7.mono B6.out.size))
  have C7 := hide hb7
  obtain ⟨ab2, cb2, rfl, rb2⟩ := av2.row HNB.out
  have RB2 := hide fun (W : World) (h : Below w7.heap.size w7 W) => rb2.below h
  clear hb7 av2 rb2 B6 HSB
  go_wp2_with fail
  refine (HTT.out _ B7.out).mono ?_
  rintro e w8 ⟨r3, rfl, hb8, av3⟩
  have B8 := hide (B7.out.trans (hb8.mono B7.out.size))
  have C8 := hide (C7.out.trans (hb8.mono C7.out.size))
  have D8 := hide hb8
  obtain ⟨at', ct, rfl, rt⟩ := av3.row HNQ.out
  have RT := hide fun (W : World) (h : Below w8.heap.size w8 W) => rt.below h
  clear hb8 av3 rt B7 C7 HTT
  go_wp2_with fail
  refine (HSS.out _ B8.out).mono ?_
  rintro e w9 ⟨r4, rfl, hb9, av4⟩
  have B9 := hide (B8.out.trans (hb9.mono B8.out.size))
  have C9 := hide (C8.out.trans (hb9.mono C8.out.size))
  have D9 := hide (D8.out.trans (hb9.mono D8.out.size))
  have E9 := hide hb9
  obtain ⟨at2, ct2, rfl, rt2⟩ := av4.row HNQ.out
  have RT2 := hide fun (W : World) (h : Below w9.heap.size w9 W) => rt2.below h
  clear hb9 av4 rt2 B8 C8 D8 HSS
  have HSI := hide (si_same (c := cb) (d := cb2) HNB hbl (RB.out _ C9.out) (RB2.out _ D9.out))
  clear RB2 D9
  go_wp2_with fail
  refine HSI.out.mono ?_
  rintro e w10 ⟨rfl, hb10⟩
  have B10 := hide (B9.out.trans (hb10.mono B9.out.size))
  have C10 := hide (C9.out.trans (hb10.mono C9.out.size))
  have E10 := hide (E9.out.trans (hb10.mono E9.out.size))
  have HSI2 := hide (si_same (c := ct) (d := ct2) HNQ htl (RT.out _ E10.out) (RT2.out _ hb10))
  clear hb10 B9 C9 E9 RT2 HSI
  go_wp2_with fail
  refine HSI2.out.mono ?_
  rintro e w11 ⟨rfl, hb11⟩
  have B11 := hide (B10.out.trans (hb11.mono B10.out.size))
  have C11 := hide (C10.out.trans (hb11.mono C10.out.size))
  have E11 := hide (E10.out.trans (hb11.mono E10.out.size))
  clear hb11 B10 C10 E10 HSI2
  cases T
  · go_wp2_with fail
    go_ret
    exact ⟨rfl, HB1.out.trans (B11.out.mono HB1.out.size)⟩
  · obtain ⟨⟨f1, f2⟩, ⟨f3, f4⟩, ⟨f5, f6⟩, f7, f8, f9, f10, f11, f12, f13, f14⟩ := HFA.out rfl
    obtain rfl : nb = n := f1
    obtain rfl : nq = nb := f2
    have HT1 := hide fun (W : World) (h : Below w6.heap.size w6 W) (h' : Below w1.heap.size w1 W) => tc_w (w := W) (c := cl) (d := cb) HL.out HNB.out (HRL.out _ h') (RB.out _ h)
    have HT2 := hide fun (W : World) (h : Below w8.heap.size w8 W) (h' : Below w1.heap.size w1 W) => tc_w (w := W) (c := cl) (d := ct) HL.out HNQ.out (HRL.out _ h') (RT.out _ h)
    rw [f3, f4] at HT1
    rw [f5, f6] at HT2
    clear f3 f4 f5 f6 HFA
    go_wp2_with fail
    refine (HT1.out _ C11.out B11.out).mono ?_
    rintro e w12 ⟨rfl, hb12⟩
    have B12 := hide (B11.out.trans (hb12.mono B11.out.size))
    have C12 := hide (C11.out.trans (hb12.mono C11.out.size))
    have E12 := hide (E11.out.trans (hb12.mono E11.out.size))
    clear hb12 B11 C11 E11 HT1
    go_wp2_with fail
    refine (HT2.out _ E12.out B12.out).mono ?_
    rintro e w13 ⟨rfl, hb13⟩
    have B13 := hide (B12.out.trans (hb13.mono B12.out.size))
    have C13 := hide (C12.out.trans (hb13.mono C12.out.size))
    have E13 := hide (E12.out.trans (hb13.mono E12.out.size))
    clear hb13 B12 C12 E12 HT2
    go_wp2_with fail
    refine (HTO.out _ B13.out).mono ?_
    rintro e w14 ⟨r5, rfl, hb14, av5⟩
    have B14 := hide (B13.out.trans (hb14.mono B13.out.size))
    have C14 := hide (C13.out.trans (hb14.mono C13.out.size))
    have E14 := hide (E13.out.trans (hb14.mono E13.out.size))
    obtain ⟨x1, o1, ea, c1⟩ := (RB.out _ C14.out).at (i := 0) (by rw [HNB.out]; exact f14)
    obtain ⟨x2, o2, eb, c2⟩ := (RT.out _ E14.out).at (i := 0) (by rw [HNQ.out]; exact f14)
    subst ea eb
    rw [f12, Nat.add_zero] at c1
    rw [f13, Nat.add_zero] at c2
    have hwr : wrap64 (2 * S) = 2 * S := by unfold wrap64; omega
    have g1 : ¬ 2 * S < K := by omega
    have g2 : ¬ M < S := by omega
    have g3 : (0 : Int) < (nq : Int) := by omega
    clear hb14 av5 B13 C13 E13 HTO f8 f9 f10 f11 f12 f13
    cases G
    · go_wp2_with fail
      go_ret
      exact ⟨rfl, HB1.out.trans (B14.out.mono HB1.out.size)⟩
    · have g4 : ¬ X < M := by have := f7 rfl; omega
      go_wp2_with fail
      go_ret
      exact ⟨rfl, HB1.out.trans (B14.out.mono HB1.out.size)⟩
theorem lTu11_walk {a1 a2 : Option Addr} {len1 cap1 len2 cap2 : Nat} {w : World} (hs1 : Src w a1 len1) (_hs2 : Src w a2 len2) (_m1 : len1 ≤ 140737488351232) (_m2 : len2 ≤ 140737488351232) :
    Calls Try.prog 3 #[.slice a1 len1 cap1, .slice a2 len2 cap2] w fun e w' => e = .returned (.bool true) ∧ Below w.heap.size w w' := by
  by_cases h1 : (1048576 : Int) < wrap64 ((len1 : Int) + (len2 : Int))
  · exact lTu11_long h1
  · exact lTu11_main (hide hs1) h1
end Go.Proofs.Ytnfcedccjfnceaa
