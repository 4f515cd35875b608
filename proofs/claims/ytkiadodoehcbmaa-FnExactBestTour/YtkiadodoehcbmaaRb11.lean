/-
  Stops: what areSpots, GoodStops, farApart, wayTo, WayBetween, OnWay of the program and l11Spot, GoodStops, l11Way, WayBetween, OnWay of the model answer.
-/
import Derived.Test.YtkiadodoehcbmaaRa11
import Derived.Test.YtkiadodoehcbmaaHl11
import Derived.Test.YtkiadodoehcbmaaPb
import Derived.Test.YtkiadodoehcbmaaHc
namespace Go.Proofs.Ytkiadodoehcbmaa
open Go.RowKit

set_option maxHeartbeats 2000000 in
theorem as_any {a : Option Addr} {n c : Nat} {L : List (Int × Int)} {w : World} (hx : L.length = n) (hn : n ≤ 1048576) (ha : FRow w a L) :
    Calls Try.prog 33 #[.slice a n c] w fun e w' => e = .returned (.bool (Rt.allS L)) ∧ Below w.heap.size w w' := by
  have HA := hide ha
  have HX := hide hx
  clear ha hx
  go_enter Try.func33, Try.ntmps33
  go_wp2_with fail
  go_loopw [2, 4, 7] (fun s2 _ s wr => ∃ (k : Nat), s2 = .bool false ∧ s = .int .i64 k ∧ k ≤ n ∧ Hid (∀ i, i < k → Rt.spotB (L.getD i (0, 0)) = true) ∧ Below w.heap.size w wr) (fun _ _ s _ => n - (intOf s).toNat)
  case atStart => exact ⟨0, rfl, rfl, Nat.zero_le _, hide fun i hi => absurd hi (Nat.not_lt_zero _), Below.refl _ _⟩
  case round =>
    obtain ⟨k, rfl, rfl, hk, HK, hB⟩ := hrel
    by_cases hlt : k < n
    · obtain ⟨b, off, rfl, hbl, r1, r2⟩ := (HA.out.below hB).at (i := k) (by rw [HX.out]; exact hlt)
      have i0 : (0 : Int) ≤ (k : Int) := by omega
      have i1 : (k : Int) < (n : Int) := by omega
      have HNO := hide fun (h : Rt.spotB (L.getD k (0, 0)) = false) => Rt.allS_not (L := L) (by rw [HX.out]; exact hlt) h
      have HYES := hide fun (h : Rt.spotB (L.getD k (0, 0)) = true) (i : Nat) (hi : i < k + 1) => show Rt.spotB (L.getD i (0, 0)) = true by
        by_cases e : i = k
        · subst e; exact h
        · exact HK.out i (by omega)
      generalize L.getD k (0, 0) = f at *
      obtain ⟨x, y⟩ := f
      have HBA := hide (hB.alloc hB.size (.cells #[.int .i64 x, .int .i64 y] 33))
      cases e1 : Pf.inB x 0 9
      · have HN := hide (HNO.out (by simp [Rt.spotB, e1]))
        go_wp2_with fail
        refine (between_eq e1).mono ?_
        rintro e w1 ⟨rfl, rfl⟩
        go_wp2_with fail
        go_ret
        exact ⟨ret_bool HN.out.symm, HBA.out⟩
      · cases e2 : Pf.inB y 0 20
        · have HN := hide (HNO.out (by simp [Rt.spotB, e2]))
          go_wp2_with fail
          refine (between_eq e1).mono ?_
          rintro e w1 ⟨rfl, hw1⟩
          have hw1' := hw1.symm
          clear hw1
          subst hw1'
          go_wp2_with fail
          refine (between_eq e2).mono ?_
          rintro e w1 ⟨rfl, rfl⟩
          go_wp2_with fail
          go_ret
          exact ⟨ret_bool HN.out.symm, HBA.out⟩
        · have HY := hide (HYES.out (by simp [Rt.spotB, e1, e2]))
          go_wp2_with fail
          refine (between_eq e1).mono ?_
          rintro e w1 ⟨rfl, hw1⟩
          have hw1' := hw1.symm
          clear hw1
          subst hw1'
          go_wp2_with fail
          refine (between_eq e2).mono ?_
          rintro e w1 ⟨rfl, hw1⟩
          have hw1' := hw1.symm
          clear hw1
          subst hw1'
          go_wp2_with fail
          go_roundw
          case rel => exact ⟨k + 1, rfl, by go_num, by omega, HY, HBA.out⟩
          case measure => simp only [intOf]; omega
    · have hke : k = n := by omega
      subst hke
      have HY := hide (Rt.allS_of (L := L) (by rw [HX.out]; exact HK.out))
      go_wp2_with fail
      go_ret
      exact ⟨ret_bool HY.out.symm, hB⟩
theorem as_eq {a : Option Addr} {n c : Nat} {L : List (Int × Int)} {w : World} {r : Bool} (hx : Hid (L.length = n)) (hn : n ≤ 1048576) (ha : Hid (FRow w a L)) (h : Hid (Rt.allS L = r)) :
    Calls Try.prog 33 #[.slice a n c] w fun e w' => e = .returned (.bool r) ∧ Below w.heap.size w w' := h.out ▸ as_any hx.out hn ha.out
set_option maxHeartbeats 400000 in
theorem gst_any {a : Option Addr} {n c : Nat} {L : List (Int × Int)} {w : World} (hx : L.length = n) (ha : FRow w a L) :
    Calls Try.prog 12 #[.slice a n c] w fun e w' => e = .returned (.bool (Rt.stopsB L)) ∧ Below w.heap.size w w' := by
  have HA := hide ha
  have HX := hide hx
  have HE : Hid (Rt.stopsB L = (Pf.inB (n : Int) 1 7 && Rt.allS L)) := hide (by unfold Rt.stopsB; rw [hx])
  generalize Rt.stopsB L = R at *
  clear ha hx
  cases e1 : Pf.inB (n : Int) 1 7
  · have HR : Hid (R = false) := hide (by rw [HE.out, e1]; rfl)
    go_enter Try.func12, Try.ntmps12
    go_wp2_with fail
    refine (between_eq e1).mono ?_
    rintro e w1 ⟨rfl, rfl⟩
    go_wp2_with fail
    go_ret
    exact ⟨ret_bool HR.out.symm, Below.refl _ _⟩
  · have hn := Pf.inB_yes e1
    obtain ⟨G, hG⟩ : ∃ G, Rt.allS L = G := ⟨_, rfl⟩
    have HG := hide hG
    have HR : Hid (R = G) := hide (by rw [HE.out, e1, hG]; rfl)
    have HAS := hide (as_eq (c := c) HX (by omega) HA HG)
    clear HE hG hn
    go_enter Try.func12, Try.ntmps12
    go_wp2_with fail
    refine (between_eq e1).mono ?_
    rintro e w1 ⟨rfl, hw1⟩
    obtain rfl : w = w1 := hw1.symm
    go_wp2_with fail
    refine HAS.out.mono ?_
    rintro e w2 ⟨rfl, hb2⟩
    go_wp2_with fail
    go_ret
    exact ⟨ret_bool HR.out.symm, hb2⟩
theorem gst_eq {a : Option Addr} {n c : Nat} {L : List (Int × Int)} {w : World} {r : Bool} (hx : Hid (L.length = n)) (ha : Hid (FRow w a L)) (h : Hid (Rt.stopsB L = r)) :
    Calls Try.prog 12 #[.slice a n c] w fun e w' => e = .returned (.bool r) ∧ Below w.heap.size w w' := h.out ▸ gst_any hx.out ha.out
set_option maxHeartbeats 400000 in
theorem ls_any (x y : Int) (w : World) :
    Calls Try.prog 30 #[.agg #[.int .i64 x, .int .i64 y]] w fun e w' => e = .returned (.bool (Rt.spotB (x, y))) ∧ Below w.heap.size w w' := by
  have HB := hide (below_new w (.cells #[.int .i64 x, .int .i64 y] 33))
  cases e1 : Pf.inB x 0 9
  · go_enter Try.func30, Try.ntmps30
    go_wp2_with fail
    refine (in_eq e1).mono ?_
    rintro e w1 ⟨rfl, rfl⟩
    go_wp2_with fail
    go_ret
    exact ⟨ret_bool (by simp [Rt.spotB, e1]), HB.out⟩
  · cases e2 : Pf.inB y 0 20
    all_goals
      go_enter Try.func30, Try.ntmps30
      go_wp2_with fail
      refine (in_eq e1).mono ?_
      rintro e w1 ⟨rfl, hw1⟩
      have hw1' := hw1.symm
      clear hw1
      subst hw1'
      go_wp2_with fail
      refine (in_eq e2).mono ?_
      rintro e w1 ⟨rfl, rfl⟩
      go_wp2_with fail
      go_ret
      exact ⟨ret_bool (by simp [Rt.spotB, e1, e2]), HB.out⟩
theorem ls_eq {x y : Int} {w : World} {r : Bool} (h : Hid (Rt.spotB (x, y) = r)) :
    Calls Try.prog 30 #[.agg #[.int .i64 x, .int .i64 y]] w fun e w' => e = .returned (.bool r) ∧ Below w.heap.size w w' := h.out ▸ ls_any x y w
set_option maxHeartbeats 2000000 in
theorem sgst_any {a : Option Addr} {n c : Nat} {L : List (Int × Int)} {w : World} (hx : L.length = n) (hn : n ≤ 1048576) (ha : FRow w a L) :
    Calls Try.prog 10 #[.slice a n c] w fun e w' => e = .returned (.bool (Rt.stopsB L)) ∧ Below w.heap.size w w' := by
  have HA := hide ha
  have HX := hide hx
  have HE : Hid (Rt.stopsB L = (Pf.inB (n : Int) 1 7 && Rt.allS L)) := hide (by unfold Rt.stopsB; rw [hx])
  generalize Rt.stopsB L = R at *
  clear ha hx
  go_enter Try.func10, Try.ntmps10
  go_wp2_with fail
  go_loopw [2, 4, 7] (fun s2 _ s wr => ∃ (k : Nat), s2 = .bool false ∧ s = .int .i64 k ∧ k ≤ n ∧ Hid (∀ i, i < k → Rt.spotB (L.getD i (0, 0)) = true) ∧ Below w.heap.size w wr) (fun _ _ s _ => n - (intOf s).toNat)
  case atStart => exact ⟨0, rfl, rfl, Nat.zero_le _, hide fun i hi => absurd hi (Nat.not_lt_zero _), Below.refl _ _⟩
  case round =>
    obtain ⟨k, rfl, rfl, hk, HK, hB⟩ := hrel
    by_cases hlt : k < n
    · obtain ⟨b, off, rfl, hbl, r1, r2⟩ := (HA.out.below hB).at (i := k) (by rw [HX.out]; exact hlt)
      have i0 : (0 : Int) ≤ (k : Int) := by omega
      have i1 : (k : Int) < (n : Int) := by omega
      have HNO := hide fun (h : Rt.spotB (L.getD k (0, 0)) = false) => Rt.allS_not (L := L) (by rw [HX.out]; exact hlt) h
      have HYES := hide fun (h : Rt.spotB (L.getD k (0, 0)) = true) (i : Nat) (hi : i < k + 1) => show Rt.spotB (L.getD i (0, 0)) = true by
        by_cases e : i = k
        · subst e; exact h
        · exact HK.out i (by omega)
      generalize L.getD k (0, 0) = f at *
      obtain ⟨x, y⟩ := f
      have HBA := hide (hB.alloc hB.size (.cells #[.int .i64 x, .int .i64 y] 33))
      cases e1 : Rt.spotB (x, y)
      · have HN : Hid (R = false) := hide (by rw [HE.out, HNO.out e1]; simp)
        have H1 := hide e1
        clear e1
        go_wp2_with fail
        refine (ls_eq H1).mono ?_
        rintro e w1 ⟨rfl, hb1⟩
        have HB1 := hide (HBA.out.trans (hb1.mono HBA.out.size))
        clear hb1
        go_wp2_with fail
        go_ret
        exact ⟨ret_bool HN.out.symm, HB1.out⟩
      · have HY := hide (HYES.out e1)
        have H1 := hide e1
        clear e1
        go_wp2_with fail
        refine (ls_eq H1).mono ?_
        rintro e w1 ⟨rfl, hb1⟩
        have HB1 := hide (HBA.out.trans (hb1.mono HBA.out.size))
        clear hb1
        go_wp2_with fail
        go_roundw
        case rel => exact ⟨k + 1, rfl, by go_num, by omega, HY, HB1.out⟩
        case measure => simp only [intOf]; omega
    · have hke : k = n := by omega
      subst hke
      obtain ⟨G, hG⟩ : ∃ G, Pf.inB (k : Int) 1 7 = G := ⟨_, rfl⟩
      have HY : Hid (R = G) := hide (by rw [HE.out, Rt.allS_of (L := L) (by rw [HX.out]; exact HK.out), hG]; simp)
      go_wp2_with fail
      refine (in_eq hG).mono ?_
      rintro e w1 ⟨rfl, rfl⟩
      go_wp2_with fail
      go_ret
      exact ⟨ret_bool HY.out.symm, hB⟩
theorem sgst_eq {a : Option Addr} {n c : Nat} {L : List (Int × Int)} {w : World} {r : Bool} (hx : Hid (L.length = n)) (hn : n ≤ 1048576) (ha : Hid (FRow w a L)) (h : Hid (Rt.stopsB L = r)) :
    Calls Try.prog 10 #[.slice a n c] w fun e w' => e = .returned (.bool r) ∧ Below w.heap.size w w' := h.out ▸ sgst_any hx.out hn ha.out
end Go.Proofs.Ytkiadodoehcbmaa
