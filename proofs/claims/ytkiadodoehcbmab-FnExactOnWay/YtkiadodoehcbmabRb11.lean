/-
  Stops: what areSpots, GoodStops, farApart, wayTo, WayBetween, OnWay of the program and l11Spot, GoodStops, l11Way, WayBetween, OnWay of the model answer.
-/
import Derived.Test.YtkiadodoehcbmabRa11
import Derived.Test.YtkiadodoehcbmabHl11
import Derived.Test.YtkiadodoehcbmabPb
import Derived.Test.YtkiadodoehcbmabHc
namespace Go.Proofs.Ytkiadodoehcbmab
open Go.RowKit

set_option maxHeartbeats 2000000 in
theorem as_any {a : Option Addr} {n c : Nat} {L : List (Int × Int)} {w : World} (hx : L.length = n) (hn : n ≤ 1048576) (ha : FRow w a L) :
    Calls Try.prog 9 #[.slice a n c] w fun e w' => e = .returned (.bool (Rt.allS L)) ∧ Below w.heap.size w w' := by
  have HA := hide ha
  have HX := hide hx
  clear ha hx
  go_enter Try.func9, Try.ntmps9
  go_wp2_with fail
  go_loopw [2, 4, 7] (fun s2 _ s wr => ∃ (k : Nat), s2 = .bool false ∧ s = .int .i64 k ∧ k ≤ n ∧ Hid (∀ i, i < k → Rt.spotB (L.getD i (0, 0)) = true) ∧ Below w.heap.size w wr) (fun _ _ s _ => n - (intOf s).toNat)
  case atStart => exact ⟨0, rfl, rfl, Nat.zero_le _, hide fun i hi => absurd hi (Nat.not_lt_zero _), Below.refl _ _⟩
  case round =>
    obtain ⟨k, rfl, rfl, hk, HK, hB⟩ := hrel
    by_cases hlt : k < n
    · obtain ⟨b, off, rfl, hbl, r1, r2⟩ := (HA.out.below hB).at (i := k) (by rw [HX.out]; exact hlt)
      have i0 : (0 : Int) ≤ (k : Int) := by omega
      have i1 : (k : Int) < (n : Int) := by omega
      have HNO := hide fun (h : Rt.spotB (L.getD k (0, 0)) = false) => Rt.allS_not (L := L) (by rw [HX.out]; exact hlt) h
      have HYES := hide fun (h : Rt.spotB (L.getD k (0, 0)) = true) (i : Nat) (hi : i < k + 1) => show Rt.spotB (L.getD i (0, 0)) = true by
        by_cases e : i = k
        · subst e; exact h
        · exact HK.out i (by omega)
      generalize L.getD k (0, 0) = f at *
      obtain ⟨x, y⟩ := f
      have HBA := hide (hB.alloc hB.size (.cells #[.int .i64 x, .int .i64 y] 26))
      cases e1 : Pf.inB x 0 9
      · have HN := hide (HNO.out (by simp [Rt.spotB, e1]))
        go_wp2_with fail
        refine (between_eq e1).mono ?_
        rintro e w1 ⟨rfl, rfl⟩
        go_wp2_with fail
        go_ret
        exact ⟨ret_bool HN.out.symm, HBA.out⟩
      · cases e2 : Pf.inB y 0 20
        · have HN := hide (HNO.out (by simp [Rt.spotB, e2]))
          go_wp2_with fail
          refine (between_eq e1).mono ?_
          rintro e w1 ⟨rfl, hw1⟩
          have hw1' := hw1.symm
          clear hw1
          subst hw1'
          go_wp2_with fail
          refine (between_eq e2).mono ?_
          rintro e w1 ⟨rfl, rfl⟩
          go_wp2_with fail
          go_ret
          exact ⟨ret_bool HN.out.symm, HBA.out⟩
        · have HY := hide (HYES.out (by simp [Rt.spotB, e1, e2]))
          go_wp2_with fail
          refine (between_eq e1).mono ?_
          rintro e w1 ⟨rfl, hw1⟩
          have hw1' := hw1.symm
          clear hw1
          subst hw1'
          go_wp2_with fail
          refine (between_eq e2).mono ?_
          rintro e w1 ⟨rfl, hw1⟩
          have hw1' := hw1.symm
          clear hw1
          subst hw1'
          go_wp2_with fail
          go_roundw
          case rel => exact ⟨k + 1, rfl, by go_num, by omega, HY, HBA.out⟩
          case measure => simp only [intOf]; omega
    · have hke : k = n := by omega
      subst hke
      have HY := hide (Rt.allS_of (L := L) (by rw [HX.out]; exact HK.out))
      go_wp2_with fail
      go_ret
      exact ⟨ret_bool HY.out.symm, hB⟩
theorem as_eq {a : Option Addr} {n c : Nat} {L : List (Int × Int)} {w : World} {r : Bool} (hx : Hid (L.length = n)) (hn : n ≤ 1048576) (ha : Hid (FRow w a L)) (h : Hid (Rt.allS L = r)) :
    Calls Try.prog 9 #[.slice a n c] w fun e w' => e = .returned (.bool r) ∧ Below w.heap.size w w' := h.out ▸ as_any hx.out hn ha.out
set_option maxHeartbeats 400000 in
theorem ls_any (x y : Int) (w : World) :
    Calls Try.prog 7 #[.agg #[.int .i64 x, .int .i64 y]] w fun e w' => e = .returned (.bool (Rt.spotB (x, y))) ∧ Below w.heap.size w w' := by
  have HB := hide (below_new w (.cells #[.int .i64 x, .int .i64 y] 26))
  cases e1 : Pf.inB x 0 9
  · go_enter Try.func7, Try.ntmps7
    go_wp2_with fail
    refine (in_eq e1).mono ?_
    rintro e w1 ⟨rfl, rfl⟩
    go_wp2_with fail
    go_ret
    exact ⟨ret_bool (by simp [Rt.spotB, e1]), HB.out⟩
  · cases e2 : Pf.inB y 0 20
    all_goals
      go_enter Try.func7, Try.ntmps7
      go_wp2_with fail
      refine (in_eq e1).mono ?_
      rintro e w1 ⟨rfl, hw1⟩
      have hw1' := hw1.symm
      clear hw1
      subst hw1'
      go_wp2_with fail
      refine (in_eq e2).mono ?_
      rintro e w1 ⟨rfl, rfl⟩
      go_wp2_with fail
      go_ret
      exact ⟨ret_bool (by simp [Rt.spotB, e1, e2]), HB.out⟩
theorem ls_eq {x y : Int} {w : World} {r : Bool} (h : Hid (Rt.spotB (x, y) = r)) :
    Calls Try.prog 7 #[.agg #[.int .i64 x, .int .i64 y]] w fun e w' => e = .returned (.bool r) ∧ Below w.heap.size w w' := h.out ▸ ls_any x y w
end Go.Proofs.Ytkiadodoehcbmab
