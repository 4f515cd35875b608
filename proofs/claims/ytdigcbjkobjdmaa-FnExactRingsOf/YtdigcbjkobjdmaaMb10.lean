/-
  What GoodSpots answers, the program's and the model's.
-/
import Derived.Test.YtdigcbjkobjdmaaMa10
import Derived.Test.YtdigcbjkobjdmaaJd
namespace Go.Proofs.Ytdigcbjkobjdmaa
open Go.RowKit

theorem all_10 {a : Option Addr} {n c : Nat} {xs : List Int} {lo hi : Int} {w : World} {r : Bool} (h : Hid (ARow w a xs)) (hn : Hid (xs.length = n)) (hl : n ≤ 1000) (hr : Hid (Pf.allB xs lo hi = r)) :
    Calls Try.prog 33 #[.slice a n c, .int .i64 lo, .int .i64 hi] w fun e w' => e = .returned (.bool r) ∧ w' = w := by
  have := hn.out
  subst this
  exact all_eq h.out (by omega) hr.out
set_option maxHeartbeats 2000000 in
theorem tw_any {a : Option Addr} {n c : Nat} {xs : List Int} {w : World} (hx : xs.length = n) (hn : n ≤ 1000) (hc : n ≤ c) (ha : ARow w a xs) :
    Calls Try.prog 37 #[.slice a n c] w fun e w' => e = .returned (.bool (Mx.twiceB xs)) ∧ w' = w := by
  have HA := hide ha
  have HX := hide hx
  clear ha hx
  go_enter Try.func37, Try.ntmps37
  go_wp2_with fail
  go_loop [2, 3, 4, 7] (fun s2 _ _ s => ∃ (k : Nat), s2 = .bool false ∧ s = .int .i64 k ∧ k ≤ n ∧ Hid (∀ i, i < k → Mx.twiceAt xs i = false)) (fun _ _ _ s => n - (intOf s).toNat)
  case atStart => exact ⟨0, rfl, rfl, Nat.zero_le _, hide fun i hi => absurd hi (Nat.not_lt_zero _)⟩
  case round =>
    obtain ⟨k, rfl, rfl, hk, HK⟩ := hrel
    by_cases hlt : k < n
    · obtain ⟨b, off, rfl, r1⟩ := HA.out.at (i := k) (by rw [HX.out]; exact hlt)
      have i0 : (0 : Int) ≤ (k : Int) := by omega
      have i1 : (k : Int) < (n : Int) := by omega
      have i2 : (k : Int) ≤ (c : Int) := by omega
      have HTL := hide (show (xs.take k).length = k by rw [List.length_take, HX.out]; omega)
      have HTR := hide (HA.out.take k)
      have HNX : Hid (Mx.twiceAt xs k = false → ∀ i, i < k + 1 → Mx.twiceAt xs i = false) := hide fun h i hi => by
        by_cases e : i = k
        · subst e; exact h
        · exact HK.out i (by omega)
      generalize hx : xs.getD k 0 = x at r1
      have HT : Hid (Mx.twiceAt xs k = ((x != 0) && (xs.take k).contains x)) := hide (by unfold Mx.twiceAt; rw [hx])
      have HY := hide fun (h : Mx.twiceAt xs k = true) => Mx.twice_yes (show k < xs.length by rw [HX.out]; exact hlt) h
      clear hx
      cases hb : (x != 0)
      · have H1 := hide (HNX.out (by rw [HT.out, hb]; rfl))
        go_wp2_with fail
        go_round
        case rel => exact ⟨k + 1, rfl, by go_num, by omega, H1⟩
        case measure => simp only [intOf]; omega
      · cases hs : (xs.take k).contains x
        · have H1 := hide (HNX.out (by rw [HT.out, hb, hs]; rfl))
          have HS := hide hs
          clear hs
          go_wp2_with fail
          refine (con_eq HTL (by omega) HTR HS).mono ?_
          rintro e w1 ⟨rfl, rfl⟩
          go_wp2_with fail
          go_round
          case rel => exact ⟨k + 1, rfl, by go_num, by omega, H1⟩
          case measure => simp only [intOf]; omega
        · have H1 := hide (HY.out (by rw [HT.out, hb, hs]; rfl))
          have HS := hide hs
          clear hs
          go_wp2_with fail
          refine (con_eq HTL (by omega) HTR HS).mono ?_
          rintro e w1 ⟨rfl, rfl⟩
          go_wp2_with fail
          go_ret
          exact ⟨ret_bool H1.out.symm, rfl⟩
    · have hke : k = n := by omega
      subst hke
      have H1 := hide (Mx.twice_no (xs := xs) (by rw [HX.out]; exact HK.out))
      go_wp2_with fail
      go_ret
      exact ⟨ret_bool H1.out.symm, rfl⟩
theorem tw_eq {a : Option Addr} {n c : Nat} {xs : List Int} {w : World} {r : Bool} (hx : Hid (xs.length = n)) (hn : n ≤ 1000) (hc : n ≤ c) (ha : Hid (ARow w a xs)) (h : Hid (Mx.twiceB xs = r)) :
    Calls Try.prog 37 #[.slice a n c] w fun e w' => e = .returned (.bool r) ∧ w' = w := h.out ▸ tw_any hx.out hn hc ha.out
theorem goodS_eq {xs : List Int} {n : Nat} (hx : xs.length = n) : Mx.goodB xs = ((decide (2 ≤ n) && decide (n ≤ 9)) && (Pf.allB xs 0 20 && (xs.contains 0 && !Mx.twiceB xs))) := by subst hx; rfl
set_option maxHeartbeats 2000000 in
theorem gs_any {a : Option Addr} {n c : Nat} {xs : List Int} {w : World} (hx : xs.length = n) (hc : n ≤ c) (ha : ARow w a xs) :
    Calls Try.prog 11 #[.slice a n c] w fun e w' => e = .returned (.bool (Mx.goodB xs)) ∧ w' = w := by
  have HA := hide ha
  have HX := hide hx
  have HE := hide (goodS_eq hx)
  generalize Mx.goodB xs = R at *
  clear ha hx
  by_cases hl : 2 ≤ n ∧ n ≤ 9
  · have hb : Pf.inB (n : Int) 2 9 = true := Pf.inB_of (by omega) (by omega)
    have e0 : (decide (2 ≤ n) && decide (n ≤ 9)) = true := by simp [hl.1, hl.2]
    cases h1 : Pf.allB xs 0 20
    · have HR : Hid (R = false) := hide (by rw [HE.out, e0, h1]; rfl)
      have H1 := hide h1
      clear h1 HE
      go_enter Try.func11, Try.ntmps11
      go_wp2_with fail
      refine (between_eq hb).mono ?_
      rintro e w1 ⟨rfl, rfl⟩
      go_wp2_with fail
      refine (areb_eqn HA HX (by omega) H1).mono ?_
      rintro e w1 ⟨rfl, rfl⟩
      go_wp2_with fail
      go_ret
      exact ⟨ret_bool HR.out.symm, rfl⟩
    · cases h2 : xs.contains 0
      · have HR : Hid (R = false) := hide (by rw [HE.out, e0, h1, h2]; rfl)
        have H1 := hide h1
        have H2 := hide h2
        clear h1 h2 HE
        go_enter Try.func11, Try.ntmps11
        go_wp2_with fail
        refine (between_eq hb).mono ?_
        rintro e w1 ⟨rfl, rfl⟩
        go_wp2_with fail
        refine (areb_eqn HA HX (by omega) H1).mono ?_
        rintro e w1 ⟨rfl, rfl⟩
        go_wp2_with fail
        refine (con_eq HX (by omega) HA H2).mono ?_
        rintro e w1 ⟨rfl, rfl⟩
        go_wp2_with fail
        go_ret
        exact ⟨ret_bool HR.out.symm, rfl⟩
      · have HR : Hid (R = !Mx.twiceB xs) := hide (by rw [HE.out, e0, h1, h2]; rfl)
        have H1 := hide h1
        have H2 := hide h2
        have H3 : Hid (Mx.twiceB xs = !R) := hide (by rw [HR.out]; simp)
        clear h1 h2 HE HR
        go_enter Try.func11, Try.ntmps11
        go_wp2_with fail
        refine (between_eq hb).mono ?_
        rintro e w1 ⟨rfl, rfl⟩
        go_wp2_with fail
        refine (areb_eqn HA HX (by omega) H1).mono ?_
        rintro e w1 ⟨rfl, rfl⟩
        go_wp2_with fail
        refine (con_eq HX (by omega) HA H2).mono ?_
        rintro e w1 ⟨rfl, rfl⟩
        cases R
        · go_wp2_with fail
          refine (tw_eq HX (by omega) hc HA H3).mono ?_
          rintro e w1 ⟨rfl, rfl⟩
          go_wp2_with fail
          go_ret
          exact ⟨rfl, rfl⟩
        · go_wp2_with fail
          refine (tw_eq HX (by omega) hc HA H3).mono ?_
          rintro e w1 ⟨rfl, rfl⟩
          go_wp2_with fail
          go_ret
          exact ⟨rfl, rfl⟩
  · have hb : Pf.inB (n : Int) 2 9 = false := by
      cases e : Pf.inB (n : Int) 2 9
      · rfl
      · have := Pf.inB_yes e; omega
    have e0 : (decide (2 ≤ n) && decide (n ≤ 9)) = false := by
      cases e : (decide (2 ≤ n) && decide (n ≤ 9))
      · rfl
      · simp only [Bool.and_eq_true, decide_eq_true_eq] at e; exact absurd e hl
    have HR : Hid (R = false) := hide (by rw [HE.out, e0]; rfl)
    clear HE e0
    go_enter Try.func11, Try.ntmps11
    go_wp2_with fail
    refine (between_eq hb).mono ?_
    rintro e w1 ⟨rfl, rfl⟩
    go_wp2_with fail
    go_ret
    exact ⟨ret_bool HR.out.symm, rfl⟩
theorem gs_eq {a : Option Addr} {n c : Nat} {xs : List Int} {w : World} {r : Bool} (hx : Hid (xs.length = n)) (hc : n ≤ c) (ha : Hid (ARow w a xs)) (h : Hid (Mx.goodB xs = r)) :
    Calls Try.prog 11 #[.slice a n c] w fun e w' => e = .returned (.bool r) ∧ w' = w := h.out ▸ gs_any hx.out hc ha.out
set_option maxHeartbeats 2000000 in
theorem sgs_yes {a : Option Addr} {n c : Nat} {xs : List Int} {w : World} (hx : xs.length = n) (hl : 2 ≤ n ∧ n ≤ 9) (hc : n ≤ c) (h1 : Pf.allB xs 0 20 = true) (h2 : xs.contains 0 = true) (ha : ARow w a xs) :
    Calls Try.prog 9 #[.slice a n c] w fun e w' => e = .returned (.bool (!Mx.twiceB xs)) ∧ w' = w := by
  have hb : Pf.inB (n : Int) 2 9 = true := Pf.inB_of (by omega) (by omega)
  have HA := hide ha
  have HX := hide hx
  have H1 := hide h1
  have H2 := hide h2
  have n9 := hl.2
  clear ha hx h1 h2 hl
  go_enter Try.func9, Try.ntmps9
  go_wp2_with fail
  refine (in_eq hb).mono ?_
  rintro e w1 ⟨rfl, rfl⟩
  go_wp2_with fail
  refine (has7_eq HX (by omega) HA H2).mono ?_
  rintro e w1 ⟨rfl, rfl⟩
  go_wp2_with fail
  refine (all_10 HA HX (by omega) H1).mono ?_
  rintro e w1 ⟨rfl, rfl⟩
  go_wp2_with fail
  go_loop [2, 3, 4, 21] (fun s2 _ _ s => ∃ (k : Nat), s2 = .bool false ∧ s = .int .i64 k ∧ k ≤ n ∧ Hid (∀ i, i < k → Mx.twiceAt xs i = false)) (fun _ _ _ s => n - (intOf s).toNat)
  case atStart => exact ⟨0, rfl, rfl, Nat.zero_le _, hide fun i hi => absurd hi (Nat.not_lt_zero _)⟩
  case round =>
    obtain ⟨k, rfl, rfl, hk, HK⟩ := hrel
    by_cases hlt : k < n
    · obtain ⟨b, off, rfl, r1⟩ := HA.out.at (i := k) (by rw [HX.out]; exact hlt)
      have i0 : (0 : Int) ≤ (k : Int) := by omega
      have i1 : (k : Int) < (n : Int) := by omega
      have i2 : (k : Int) ≤ (c : Int) := by omega
      have HTL := hide (show (xs.take k).length = k by rw [List.length_take, HX.out]; omega)
      have HTR := hide (HA.out.take k)
      have HNX : Hid (Mx.twiceAt xs k = false → ∀ i, i < k + 1 → Mx.twiceAt xs i = false) := hide fun h i hi => by
        by_cases e : i = k
        · subst e; exact h
        · exact HK.out i (by omega)
      have bx := Pf.inB_yes (Pf.allB_get H1.out (show k < xs.length by rw [HX.out]; exact hlt))
      generalize hx : xs.getD k 0 = x at r1 bx
      have HT : Hid (Mx.twiceAt xs k = ((x != 0) && (xs.take k).contains x)) := hide (by unfold Mx.twiceAt; rw [hx])
      have HY := hide fun (h : Mx.twiceAt xs k = true) => Mx.twice_yes (show k < xs.length by rw [HX.out]; exact hlt) h
      clear hx
      by_cases hg : 0 < x
      · have hb : (x != 0) = true := by simp; omega
        cases hs : (xs.take k).contains x
        · have H3 := hide (HNX.out (by rw [HT.out, hb, hs]; rfl))
          have HS := hide hs
          clear hs hb
          go_wp2_with fail
          refine (has7_eq HTL (by omega) HTR HS).mono ?_
          rintro e w1 ⟨rfl, rfl⟩
          go_wp2_with fail
          go_round
          case rel => exact ⟨k + 1, rfl, by go_num, by omega, H3⟩
          case measure => simp only [intOf]; omega
        · have H3 := hide (HY.out (by rw [HT.out, hb, hs]; rfl))
          have HS := hide hs
          clear hs hb
          go_wp2_with fail
          refine (has7_eq HTL (by omega) HTR HS).mono ?_
          rintro e w1 ⟨rfl, rfl⟩
          go_wp2_with fail
          go_ret
          exact ⟨ret_bool (by rw [H3.out]; rfl), rfl⟩
      · have hb : (x != 0) = false := by simp; omega
        have H3 := hide (HNX.out (by rw [HT.out, hb]; rfl))
        clear hb
        go_wp2_with fail
        go_round
        case rel => exact ⟨k + 1, rfl, by go_num, by omega, H3⟩
        case measure => simp only [intOf]; omega
    · have hke : k = n := by omega
      subst hke
      have H3 := hide (Mx.twice_no (xs := xs) (by rw [HX.out]; exact HK.out))
      go_wp2_with fail
      go_ret
      exact ⟨ret_bool (by rw [H3.out]; rfl), rfl⟩
set_option maxHeartbeats 2000000 in
theorem sgs_any {a : Option Addr} {n c : Nat} {xs : List Int} {w : World} (hx : xs.length = n) (hc : n ≤ c) (ha : ARow w a xs) :
    Calls Try.prog 9 #[.slice a n c] w fun e w' => e = .returned (.bool (Mx.goodB xs)) ∧ w' = w := by
  by_cases hl : 2 ≤ n ∧ n ≤ 9
  · have hb : Pf.inB (n : Int) 2 9 = true := Pf.inB_of (by omega) (by omega)
    have e0 : (decide (2 ≤ n) && decide (n ≤ 9)) = true := by simp [hl.1, hl.2]
    have HE := goodS_eq hx
    have HA := hide ha
    have HX := hide hx
    have n9 := hl.2
    cases h2 : xs.contains 0
    · have HR : Hid (Mx.goodB xs = false) := hide (by rw [HE, e0, h2]; simp)
      have H2 := hide h2
      generalize Mx.goodB xs = R at *
      clear h2 HE ha hx hl e0
      go_enter Try.func9, Try.ntmps9
      go_wp2_with fail
      refine (in_eq hb).mono ?_
      rintro e w1 ⟨rfl, rfl⟩
      go_wp2_with fail
      refine (has7_eq HX (by omega) HA H2).mono ?_
      rintro e w1 ⟨rfl, rfl⟩
      go_wp2_with fail
      go_ret
      exact ⟨ret_bool HR.out.symm, rfl⟩
    · cases h1 : Pf.allB xs 0 20
      · have HR : Hid (Mx.goodB xs = false) := hide (by rw [HE, e0, h1]; rfl)
        have H2 := hide h2
        have H1 := hide h1
        generalize Mx.goodB xs = R at *
        clear h1 h2 HE ha hx hl e0
        go_enter Try.func9, Try.ntmps9
        go_wp2_with fail
        refine (in_eq hb).mono ?_
        rintro e w1 ⟨rfl, rfl⟩
        go_wp2_with fail
        refine (has7_eq HX (by omega) HA H2).mono ?_
        rintro e w1 ⟨rfl, rfl⟩
        go_wp2_with fail
        refine (all_10 HA HX (by omega) H1).mono ?_
        rintro e w1 ⟨rfl, rfl⟩
        go_wp2_with fail
        go_ret
        exact ⟨ret_bool HR.out.symm, rfl⟩
      · have e1 : Mx.goodB xs = !Mx.twiceB xs := by rw [HE, e0, h1, h2]; rfl
        rw [e1]
        exact sgs_yes hx hl hc h1 h2 ha
  · have hb : Pf.inB (n : Int) 2 9 = false := by
      cases e : Pf.inB (n : Int) 2 9
      · rfl
      · have := Pf.inB_yes e; omega
    have HR : Hid (Mx.goodB xs = false) := hide (Mx.good_few (by rw [hx]; exact hl))
    generalize Mx.goodB xs = R at *
    clear ha hx hl
    go_enter Try.func9, Try.ntmps9
    go_wp2_with fail
    refine (in_eq hb).mono ?_
    rintro e w1 ⟨rfl, rfl⟩
    go_wp2_with fail
    go_ret
    exact ⟨ret_bool HR.out.symm, rfl⟩
theorem sgs_eq {a : Option Addr} {n c : Nat} {xs : List Int} {w : World} {r : Bool} (hx : Hid (xs.length = n)) (hc : n ≤ c) (ha : Hid (ARow w a xs)) (h : Hid (Mx.goodB xs = r)) :
    Calls Try.prog 9 #[.slice a n c] w fun e w' => e = .returned (.bool r) ∧ w' = w := h.out ▸ sgs_any hx.out hc ha.out
end Go.Proofs.Ytdigcbjkobjdmaa
