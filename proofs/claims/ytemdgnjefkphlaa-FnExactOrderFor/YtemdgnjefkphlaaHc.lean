/-
  What the model's tests and sums of chapter 7 answer: l7Ways, l1Has, l7Order, l7Cost.
-/
import Derived.Test.YtemdgnjefkphlaaHb
import Derived.Test.YtemdgnjefkphlaaPb
namespace Go.Proofs.Ytemdgnjefkphlaa
open Go.RowKit

theorem all7_eqn {a : Option Addr} {n c : Nat} {xs : List Int} {lo hi : Int} {w : World} {r : Bool} (h : Hid (ARow w a xs)) (hn : Hid (xs.length = n)) (hl : n ≤ 1000) (hr : Hid (Pf.allB xs lo hi = r)) :
    Calls Try.prog 45 #[.slice a n c, .int .i64 lo, .int .i64 hi] w fun e w' => e = .returned (.bool r) ∧ w' = w := by
  have := hn.out
  subst this
  exact all_eq h.out (by omega) hr.out
set_option maxHeartbeats 1000000 in
theorem suw_ne {a b : Option Addr} {n m c d : Nat} {w : World} (h : n ≠ m) :
    Calls Try.prog 39 #[.slice a n c, .slice b m d] w fun e w' => e = .returned (.bool false) ∧ w' = w := by
  have h1 : ((n : Int) == (m : Int)) = false := by simp; omega
  go_enter Try.func39, Try.ntmps39
  go_wp2_with fail
  go_ret
  exact ⟨rfl, rfl⟩
set_option maxHeartbeats 1000000 in
theorem suw_many {a b : Option Addr} {n c d : Nat} {w : World} (h : 10 < n) :
    Calls Try.prog 39 #[.slice a n c, .slice b n d] w fun e w' => e = .returned (.bool false) ∧ w' = w := by
  have h1 : ((n : Int) == (n : Int)) = true := by simp
  have h2 : ¬ (n : Int) ≤ 10 := by omega
  go_enter Try.func39, Try.ntmps39
  go_wp2_with fail
  go_ret
  exact ⟨rfl, rfl⟩
set_option maxHeartbeats 1000000 in
theorem suw_same {a b : Option Addr} {n c d : Nat} {us ws : List Int} {w : World} (hu : us.length = n) (hw : ws.length = n) (h : n ≤ 10) (ha : ARow w a us) (hb : ARow w b ws) :
    Calls Try.prog 39 #[.slice a n c, .slice b n d] w fun e w' => e = .returned (.bool (Od.waysB us ws)) ∧ w' = w := by
  have h1 : ((n : Int) == (n : Int)) = true := by simp
  have h2 : (n : Int) ≤ 10 := by omega
  have e : Od.waysB us ws = (Pf.allB us 0 1000 && Pf.allB ws 0 1000) := by simp [Od.waysB, hu, hw, h]
  rw [e]
  have HA := hide ha
  have HB := hide hb
  have HU := hide hu
  have HW := hide hw
  clear ha hb hu hw e
  cases e1 : Pf.allB us 0 1000
  · have H1 := hide e1
    clear e1
    go_enter Try.func39, Try.ntmps39
    go_wp2_with (go_at_call 45; refine (all7_eqn HA HU (by omega) H1).mono ?_; rintro e w1 ⟨rfl, rfl⟩)
    go_ret
    exact ⟨rfl, rfl⟩
  · cases e2 : Pf.allB ws 0 1000
    all_goals
      have H1 := hide e1
      have H2 := hide e2
      clear e1 e2
      go_enter Try.func39, Try.ntmps39
      go_wp2_with fail
      refine (all7_eqn HA HU (by omega) H1).mono ?_
      rintro e w1 ⟨rfl, rfl⟩
      go_wp2_with fail
      refine (all7_eqn HB HW (by omega) H2).mono ?_
      rintro e w1 ⟨rfl, rfl⟩
      go_wp2_with fail
      go_ret
      exact ⟨rfl, rfl⟩
theorem suw_any {a b : Option Addr} {n m c d : Nat} {us ws : List Int} {w : World} (hu : us.length = n) (hw : ws.length = m) (ha : ARow w a us) (hb : ARow w b ws) :
    Calls Try.prog 39 #[.slice a n c, .slice b m d] w fun e w' => e = .returned (.bool (Od.waysB us ws)) ∧ w' = w := by
  by_cases h : n = m
  · subst h
    by_cases h2 : n ≤ 10
    · exact suw_same hu hw h2 ha hb
    · rw [Od.waysB_many (by omega)]; exact suw_many (by omega)
  · rw [Od.waysB_ne (by omega)]; exact suw_ne h
theorem suw_eq {a b : Option Addr} {n m c d : Nat} {us ws : List Int} {w : World} {r : Bool} (hu : Hid (us.length = n)) (hw : Hid (ws.length = m)) (ha : Hid (ARow w a us)) (hb : Hid (ARow w b ws)) (h : Hid (Od.waysB us ws = r)) :
    Calls Try.prog 39 #[.slice a n c, .slice b m d] w fun e w' => e = .returned (.bool r) ∧ w' = w := h.out ▸ suw_any hu.out hw.out ha.out hb.out
theorem ARow.take {w : World} {a : Option Addr} {xs : List Int} (h : ARow w a xs) (k : Nat) : ARow w a (xs.take k) := by
  rcases h with h | ⟨b, off, ha, hb, hc⟩
  · exact Or.inl (by rw [h]; simp)
  · refine Or.inr ⟨b, off, ha, hb, fun i hi => ?_⟩
    rw [List.length_take] at hi
    rw [hc i (by omega)]
    simp [show i < k by omega]
end Go.Proofs.Ytemdgnjefkphlaa
