/-
  What l10Both and l10Spot of the model answer.
-/
import Derived.Test.YtdigcbjkobjdmaaMi10
namespace Go.Proofs.Ytdigcbjkobjdmaa
open Go.RowKit

theorem inB2_not {xs ys : List Int} {i : Nat} (hi : i < xs.length) (h : ys.contains (xs.getD i 0) = false) : Mx.inB2 xs ys = false := by
  cases e : Mx.inB2 xs ys
  · rfl
  · simp only [Mx.inB2, List.all_eq_true] at e
    have := e (xs.getD i 0) (by rw [List.getD_eq_getElem?_getD, List.getElem?_eq_getElem hi]; exact List.getElem_mem hi)
    rw [h] at this; cases this
theorem inB2_of {xs ys : List Int} {n : Nat} (hx : xs.length = n) (h : ∀ i, i < n → ys.contains (xs.getD i 0) = true) : Mx.inB2 xs ys = true := by
  simp only [Mx.inB2, List.all_eq_true]
  intro x hm
  obtain ⟨i, hi, rfl⟩ := List.getElem_of_mem hm
  have := h i (by omega)
  rwa [List.getD_eq_getElem?_getD, List.getElem?_eq_getElem hi] at this
set_option maxHeartbeats 4000000 in
theorem lb_yes {a b : Option Addr} {n c d : Nat} {xs ys : List Int} {w : World} (HX : Hid (xs.length = n)) (HY : Hid (ys.length = n)) (hn : n ≤ 9) (hc : n ≤ c) (hd : n ≤ d) (HA : Hid (ARow w a xs)) (HB : Hid (ARow w b ys)) (H1 : Hid (Mx.goodB xs = true)) (H2 : Hid (Mx.goodB ys = true)) :
    Calls Try.prog 43 #[.slice a n c, .slice b n d] w fun e w' => e = .returned (.bool (Mx.inB2 xs ys && Mx.inB2 ys xs)) ∧ w' = w := by
  have hnn : ((n : Int) != (n : Int)) = false := by simp
  have HN1 := hide fun (h : Mx.inB2 xs ys = false) => show (Mx.inB2 xs ys && Mx.inB2 ys xs) = false by rw [h]; rfl
  have HN2 := hide fun (h : Mx.inB2 ys xs = false) => show (Mx.inB2 xs ys && Mx.inB2 ys xs) = false by rw [h]; simp
  have HYS := hide fun (h : Mx.inB2 xs ys = true) (h' : Mx.inB2 ys xs = true) => show (Mx.inB2 xs ys && Mx.inB2 ys xs) = true by rw [h, h']; rfl
  generalize (Mx.inB2 xs ys && Mx.inB2 ys xs) = R at *
  go_enter Try.func43, Try.ntmps43
  go_wp2_with fail
  refine (sgs_eq HX hc HA H1).mono ?_
  rintro e w1 ⟨rfl, hw1⟩
  obtain rfl : w = w1 := hw1.symm
  go_wp2_with fail
  refine (sgs_eq HY hd HB H2).mono ?_
  rintro e w1 ⟨rfl, hw1⟩
  obtain rfl : w = w1 := hw1.symm
  go_wp2_with fail
  go_loop [4, 6, 26] (fun s4 _ s => ∃ i : Nat, s4 = .bool false ∧ s = .int .i64 i ∧ i ≤ n ∧ Hid (∀ j, j < i → ys.contains (xs.getD j 0) = true)) (fun _ _ s => n - (intOf s).toNat)
  case atStart => exact ⟨0, rfl, rfl, Nat.zero_le _, hide fun j hj => absurd hj (Nat.not_lt_zero _)⟩
  case round =>
    obtain ⟨i, rfl, rfl, hi, HI⟩ := hrel
    by_cases hlt : i < n
    · obtain ⟨b1, o1, rfl, r1⟩ := HA.out.at (i := i) (by rw [HX.out]; exact hlt)
      have i0 : (0 : Int) ≤ (i : Int) := by omega
      have i1 : (i : Int) < (n : Int) := by omega
      have HNX := hide fun (h : ys.contains (xs.getD i 0) = true) => show ∀ j, j < i + 1 → ys.contains (xs.getD j 0) = true from fun j hj => by
        by_cases e : j = i
        · subst e; exact h
        · exact HI.out j (by omega)
      have HNO := hide fun (h : ys.contains (xs.getD i 0) = false) => HN1.out (inB2_not (show i < xs.length by rw [HX.out]; exact hlt) h)
      generalize xs.getD i 0 = x at *
      cases hs : ys.contains x
      · obtain rfl := HNO.out hs
        have HS := hide hs
        clear hs
        go_wp2_with fail
        refine (has7_eq HY (by omega) HB HS).mono ?_
        rintro e w1 ⟨rfl, hw1⟩
        obtain rfl : w = w1 := hw1.symm
        go_wp2_with fail
        go_ret
        exact ⟨rfl, rfl⟩
      · have H3 := hide (HNX.out hs)
        have HS := hide hs
        clear hs
        go_wp2_with fail
        refine (has7_eq HY (by omega) HB HS).mono ?_
        rintro e w1 ⟨rfl, hw1⟩
        obtain rfl : w = w1 := hw1.symm
        go_wp2_with fail
        go_round
        case rel => exact ⟨i + 1, rfl, by go_num, by omega, H3⟩
        case measure => simp only [intOf]; omega
    · have hie : i = n := by omega
      subst hie
      have HF1 := hide (inB2_of HX.out HI.out)
      clear HI
      go_wp2_with fail
      go_loop [4, 8, 37] (fun s4 _ s => ∃ k : Nat, s4 = .bool false ∧ s = .int .i64 k ∧ k ≤ i ∧ Hid (∀ j, j < k → xs.contains (ys.getD j 0) = true)) (fun _ _ s => i - (intOf s).toNat)
      case atStart => exact ⟨0, rfl, rfl, Nat.zero_le _, hide fun j hj => absurd hj (Nat.not_lt_zero _)⟩
      case round =>
        obtain ⟨k, rfl, rfl, hk, HK⟩ := hrel
        by_cases hlk : k < i
        · obtain ⟨b1, o1, rfl, r1⟩ := HB.out.at (i := k) (by rw [HY.out]; exact hlk)
          have i0 : (0 : Int) ≤ (k : Int) := by omega
          have i1 : (k : Int) < (i : Int) := by omega
          have HNX := hide fun (h : xs.contains (ys.getD k 0) = true) => show ∀ j, j < k + 1 → xs.contains (ys.getD j 0) = true from fun j hj => by
            by_cases e : j = k
            · subst e; exact h
            · exact HK.out j (by omega)
          have HNO := hide fun (h : xs.contains (ys.getD k 0) = false) => HN2.out (inB2_not (show k < ys.length by rw [HY.out]; exact hlk) h)
          generalize ys.getD k 0 = x at *
          cases hs : xs.contains x
          · obtain rfl := HNO.out hs
            have HS := hide hs
            clear hs
            go_wp2_with fail
            refine (has7_eq HX (by omega) HA HS).mono ?_
            rintro e w1 ⟨rfl, hw1⟩
            obtain rfl : w = w1 := hw1.symm
            go_wp2_with fail
            go_ret
            exact ⟨rfl, rfl⟩
          · have H3 := hide (HNX.out hs)
            have HS := hide hs
            clear hs
            go_wp2_with fail
            refine (has7_eq HX (by omega) HA HS).mono ?_
            rintro e w1 ⟨rfl, hw1⟩
            obtain rfl : w = w1 := hw1.symm
            go_wp2_with fail
            go_round
            case rel => exact ⟨k + 1, rfl, by go_num, by omega, H3⟩
            case measure => simp only [intOf]; omega
        · have hke : k = i := by omega
          subst hke
          obtain rfl := HYS.out HF1.out (inB2_of HY.out HK.out)
          go_wp2_with fail
          go_ret
          exact ⟨rfl, rfl⟩
set_option maxHeartbeats 2000000 in
theorem lb_any {a b : Option Addr} {n m c d : Nat} {xs ys : List Int} {w : World} (hx : xs.length = n) (hy : ys.length = m) (hc : n ≤ c) (hd : m ≤ d) (ha : ARow w a xs) (hb : ARow w b ys) :
    Calls Try.prog 43 #[.slice a n c, .slice b m d] w fun e w' => e = .returned (.bool (Mx.sameB xs ys)) ∧ w' = w := by
  have HX := hide hx
  have HY := hide hy
  have HA := hide ha
  have HB := hide hb
  cases h1 : Mx.goodB xs
  · have hR : Mx.sameB xs ys = false := by unfold Mx.sameB; rw [h1]; rfl
    rw [hR]
    have H1 := hide h1
    clear h1 hR ha hb hx hy
    go_enter Try.func43, Try.ntmps43
    go_wp2_with fail
    refine (sgs_eq HX hc HA H1).mono ?_
    rintro e w1 ⟨rfl, hw1⟩
    obtain rfl : w = w1 := hw1.symm
    go_wp2_with fail
    go_ret
    exact ⟨rfl, rfl⟩
  · cases h2 : Mx.goodB ys
    · have hR : Mx.sameB xs ys = false := by unfold Mx.sameB; rw [h1, h2]; rfl
      rw [hR]
      have H1 := hide h1
      have H2 := hide h2
      clear h1 h2 hR ha hb hx hy
      go_enter Try.func43, Try.ntmps43
      go_wp2_with fail
      refine (sgs_eq HX hc HA H1).mono ?_
      rintro e w1 ⟨rfl, hw1⟩
      obtain rfl : w = w1 := hw1.symm
      go_wp2_with fail
      refine (sgs_eq HY hd HB H2).mono ?_
      rintro e w1 ⟨rfl, hw1⟩
      obtain rfl : w = w1 := hw1.symm
      go_wp2_with fail
      go_ret
      exact ⟨rfl, rfl⟩
    · have hR : Mx.sameB xs ys = (decide (xs.length = ys.length) && (Mx.inB2 xs ys && Mx.inB2 ys xs)) := by unfold Mx.sameB; rw [h1, h2, Mx.same_eq h1 h2]; rfl
      by_cases hnm : n = m
      · subst hnm
        rw [hR, show decide (xs.length = ys.length) = true by simp [hx, hy]]
        have := Mx.good_len h1
        exact lb_yes HX HY (by omega) hc hd HA HB (hide h1) (hide h2)
      · rw [hR, show decide (xs.length = ys.length) = false by simp [hx, hy, hnm]]
        have H1 := hide h1
        have H2 := hide h2
        have hne : ((n : Int) != (m : Int)) = true := by simp; omega
        clear h1 h2 hR ha hb hx hy hnm
        go_enter Try.func43, Try.ntmps43
        go_wp2_with fail
        refine (sgs_eq HX hc HA H1).mono ?_
        rintro e w1 ⟨rfl, hw1⟩
        obtain rfl : w = w1 := hw1.symm
        go_wp2_with fail
        refine (sgs_eq HY hd HB H2).mono ?_
        rintro e w1 ⟨rfl, hw1⟩
        obtain rfl : w = w1 := hw1.symm
        go_wp2_with fail
        go_ret
        exact ⟨rfl, rfl⟩
theorem lb_eq {a b : Option Addr} {n m c d : Nat} {xs ys : List Int} {w : World} {r : Bool} (hx : Hid (xs.length = n)) (hy : Hid (ys.length = m)) (hc : n ≤ c) (hd : m ≤ d) (ha : Hid (ARow w a xs)) (hb : Hid (ARow w b ys)) (h : Hid (Mx.sameB xs ys = r)) :
    Calls Try.prog 43 #[.slice a n c, .slice b m d] w fun e w' => e = .returned (.bool r) ∧ w' = w := h.out ▸ lb_any hx.out hy.out hc hd ha.out hb.out
theorem asg_eq {a b : Option Addr} {n m c d : Nat} {xs ys : List Int} {w : World} {r : Bool} (hx : Hid (xs.length = n)) (hy : Hid (ys.length = m)) (hc : n ≤ c) (hd : m ≤ d) (ha : Hid (ARow w a xs)) (hb : Hid (ARow w b ys)) (h : Hid (Mx.sameB xs ys = r)) :
    Calls Try.prog 45 #[.slice a n c, .slice b m d] w fun e w' => e = .returned (.bool r) ∧ Below w.heap.size w w' := h.out ▸ asg_any hx.out hy.out hc hd ha.out hb.out
set_option maxHeartbeats 1000000 in
theorem sp_any {a : Option Addr} {n c : Nat} {xs : List Int} {x : Int} {w : World} (hx : xs.length = n) (hn : n ≤ 1048576) (ha : ARow w a xs) :
    Calls Try.prog 51 #[.slice a n c, .int .i64 x] w fun e w' => e = .returned (.int .i64 (Ma.idx xs x)) ∧ w' = w := by
  have HA := hide ha
  have HX := hide hx
  clear ha hx
  go_enter Try.func51, Try.ntmps51
  go_wp2_with fail
  go_loop [4, 5, 6, 9] (fun s4 _ _ s => ∃ (k : Nat), s4 = .int .i64 0 ∧ s = .int .i64 k ∧ k ≤ n ∧ Hid (∀ j, j < k → (xs.getD j 0 == x) = false)) (fun _ _ _ s => n - (intOf s).toNat)
  case atStart => exact ⟨0, rfl, rfl, Nat.zero_le _, hide fun i hi => absurd hi (Nat.not_lt_zero _)⟩
  case round =>
    obtain ⟨k, rfl, rfl, hk, HK⟩ := hrel
    by_cases hlt : k < n
    · obtain ⟨b, off, rfl, r1⟩ := HA.out.at (i := k) (by rw [HX.out]; exact hlt)
      have i0 : (0 : Int) ≤ (k : Int) := by omega
      have i1 : (k : Int) < (n : Int) := by omega
      have HY := hide fun (h : (xs.getD k 0 == x) = true) => Ma.idx_at (show k < xs.length by rw [HX.out]; exact hlt) h HK.out
      generalize hy : xs.getD k 0 = y at *
      cases hb : (y == x)
      · have H1 : Hid (∀ j, j < k + 1 → (xs.getD j 0 == x) = false) := hide fun j hj => by
          by_cases e : j = k
          · subst e; rw [hy]; exact hb
          · exact HK.out j (by omega)
        clear hy
        go_wp2_with fail
        go_round
        case rel => exact ⟨k + 1, rfl, by go_num, by omega, H1⟩
        case measure => simp only [intOf]; omega
      · have H1 := hide (HY.out hb)
        clear hy
        go_wp2_with fail
        go_ret
        exact ⟨ret_int H1.out.symm, rfl⟩
    · have hke : k = n := by omega
      subst hke
      have H1 := hide (Ma.idx_none (xs := xs) (x := x) (by rw [HX.out]; exact HK.out))
      go_wp2_with fail
      go_ret
      exact ⟨ret_int H1.out.symm, rfl⟩
end Go.Proofs.Ytdigcbjkobjdmaa
