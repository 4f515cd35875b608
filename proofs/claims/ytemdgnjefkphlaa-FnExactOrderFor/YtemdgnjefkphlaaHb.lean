/-
  What the program's tests and sums of chapter 7 answer: areUsesAndWays, hasEachOnce, sumOfPairs, costOfOrder.
-/
import Derived.Test.YtemdgnjefkphlaaPg
import Derived.Test.YtemdgnjefkphlaaHa
namespace Go.Proofs.Ytemdgnjefkphlaa
open Go.RowKit

def bls (bs : List Bool) : List Value := bs.map fun b => .bool b
theorem bls_len (bs : List Bool) : (bls bs).length = bs.length := by simp [bls]
theorem bls_get (bs : List Bool) (j : Nat) (h : j < bs.length) (d : Bool) : (bls bs)[j]? = some (.bool (bs.getD j d)) := by simp [bls, h]
theorem bls_set (bs : List Bool) (j : Nat) (x : Bool) : (bls bs).set j (.bool x) = bls (bs.set j x) := by simp [bls, List.map_set]
theorem madeB_own (w : World) (n : Nat) (hn : n ≤ 1048576) : (w.alloc (.cells (madeCells #[.bool false] n) 4)).ownsRow w.heap.size 4 1 (.slice (some ⟨w.heap.size, 0, none⟩) n n) n (bls (List.replicate n false)) := by
  have h := World.ownsRow_lit (base := w.heap.size) (e := 4) (size := 1) w (madeCells #[.bool false] n) n (Nat.le_refl _) (by unfold maxLen; omega) (by simp [madeCells])
  rw [toList_madeCells_one] at h
  simpa [bls] using h

set_option maxHeartbeats 1000000 in
theorem uw_ne {a b : Option Addr} {n m c d : Nat} {w : World} (h : n ≠ m) :
    Calls Try.prog 41 #[.slice a n c, .slice b m d] w fun e w' => e = .returned (.bool false) ∧ w' = w := by
  have h1 : ((n : Int) == (m : Int)) = false := by simp; omega
  go_enter Try.func41, Try.ntmps41
  go_wp2_with fail
  go_ret
  exact ⟨rfl, rfl⟩
set_option maxHeartbeats 1000000 in
theorem uw_many {a b : Option Addr} {n c d : Nat} {w : World} (h : 10 < n) :
    Calls Try.prog 41 #[.slice a n c, .slice b n d] w fun e w' => e = .returned (.bool false) ∧ w' = w := by
  have h1 : ((n : Int) == (n : Int)) = true := by simp
  have h2 : ¬ (n : Int) ≤ 10 := by omega
  go_enter Try.func41, Try.ntmps41
  go_wp2_with fail
  go_ret
  exact ⟨rfl, rfl⟩
set_option maxHeartbeats 1000000 in
theorem uw_same {a b : Option Addr} {n c d : Nat} {us ws : List Int} {w : World} (hu : us.length = n) (hw : ws.length = n) (h : n ≤ 10) (ha : ARow w a us) (hb : ARow w b ws) :
    Calls Try.prog 41 #[.slice a n c, .slice b n d] w fun e w' => e = .returned (.bool (Od.waysB us ws)) ∧ w' = w := by
  have h1 : ((n : Int) == (n : Int)) = true := by simp
  have h2 : (n : Int) ≤ 10 := by omega
  have e : Od.waysB us ws = (Pf.allB us 0 1000 && Pf.allB ws 0 1000) := by simp [Od.waysB, hu, hw, h]
  rw [e]
  have HA := hide ha
  have HB := hide hb
  have HU := hide hu
  have HW := hide hw
  clear ha hb hu hw e
  cases e1 : Pf.allB us 0 1000
  · have H1 := hide e1
    clear e1
    go_enter Try.func41, Try.ntmps41
    go_wp2_with (go_at_call 57; refine (areb_eqn HA HU (by omega) H1).mono ?_; rintro e w1 ⟨rfl, rfl⟩)
    go_ret
    exact ⟨rfl, rfl⟩
  · cases e2 : Pf.allB ws 0 1000
    all_goals
      have H1 := hide e1
      have H2 := hide e2
      clear e1 e2
      go_enter Try.func41, Try.ntmps41
      go_wp2_with fail
      refine (areb_eqn HA HU (by omega) H1).mono ?_
      rintro e w1 ⟨rfl, rfl⟩
      go_wp2_with fail
      refine (areb_eqn HB HW (by omega) H2).mono ?_
      rintro e w1 ⟨rfl, rfl⟩
      go_wp2_with fail
      go_ret
      exact ⟨rfl, rfl⟩
theorem uw_any {a b : Option Addr} {n m c d : Nat} {us ws : List Int} {w : World} (hu : us.length = n) (hw : ws.length = m) (ha : ARow w a us) (hb : ARow w b ws) :
    Calls Try.prog 41 #[.slice a n c, .slice b m d] w fun e w' => e = .returned (.bool (Od.waysB us ws)) ∧ w' = w := by
  by_cases h : n = m
  · subst h
    by_cases h2 : n ≤ 10
    · exact uw_same hu hw h2 ha hb
    · rw [Od.waysB_many (by omega)]; exact uw_many (by omega)
  · rw [Od.waysB_ne (by omega)]; exact uw_ne h
theorem uw_eq {a b : Option Addr} {n m c d : Nat} {us ws : List Int} {w : World} {r : Bool} (hu : Hid (us.length = n)) (hw : Hid (ws.length = m)) (ha : Hid (ARow w a us)) (hb : Hid (ARow w b ws)) (h : Hid (Od.waysB us ws = r)) :
    Calls Try.prog 41 #[.slice a n c, .slice b m d] w fun e w' => e = .returned (.bool r) ∧ w' = w := h.out ▸ uw_any hu.out hw.out ha.out hb.out
end Go.Proofs.Ytemdgnjefkphlaa
