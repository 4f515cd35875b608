/-
  What the model's tests and sums of chapter 7 answer: l7Ways, l1Has, l7Order, l7Cost.
-/
import Derived.Test.YtljccbnkibfimaaHb
import Derived.Test.YtljccbnkibfimaaPb
namespace Go.Proofs.Ytljccbnkibfimaa
open Go.RowKit

theorem all7_eqn {a : Option Addr} {n c : Nat} {xs : List Int} {lo hi : Int} {w : World} {r : Bool} (h : Hid (ARow w a xs)) (hn : Hid (xs.length = n)) (hl : n ≤ 1000) (hr : Hid (Pf.allB xs lo hi = r)) :
    Calls Try.prog 91 #[.slice a n c, .int .i64 lo, .int .i64 hi] w fun e w' => e = .returned (.bool r) ∧ w' = w := by
  have := hn.out
  subst this
  exact all_eq h.out (by omega) hr.out
set_option maxRecDepth 100000 in
set_option maxHeartbeats 1000000 in
theorem suw_ne {a b : Option Addr} {n m c d : Nat} {w : World} (h : n ≠ m) :
    Calls Try.prog 73 #[.slice a n c, .slice b m d] w fun e w' => e = .returned (.bool false) ∧ w' = w := by
  have h1 : ((n : Int) == (m : Int)) = false := by simp; omega
  go_enter Try.func73, Try.ntmps73
  go_wp2_with fail
  go_ret
  exact ⟨rfl, rfl⟩
set_option maxRecDepth 100000 in
set_option maxHeartbeats 1000000 in
theorem suw_many {a b : Option Addr} {n c d : Nat} {w : World} (h : 10 < n) :
    Calls Try.prog 73 #[.slice a n c, .slice b n d] w fun e w' => e = .returned (.bool false) ∧ w' = w := by
  have h1 : ((n : Int) == (n : Int)) = true := by simp
  have h2 : ¬ (n : Int) ≤ 10 := by omega
  go_enter Try.func73, Try.ntmps73
  go_wp2_with fail
  go_ret
  exact ⟨rfl, rfl⟩
set_option maxRecDepth 100000 in
set_option maxHeartbeats 1000000 in
theorem suw_same {a b : Option Addr} {n c d : Nat} {us ws : List Int} {w : World} (hu : us.length = n) (hw : ws.length = n) (h : n ≤ 10) (ha : ARow w a us) (hb : ARow w b ws) :
    Calls Try.prog 73 #[.slice a n c, .slice b n d] w fun e w' => e = .returned (.bool (Od.waysB us ws)) ∧ w' = w := by
  have h1 : ((n : Int) == (n : Int)) = true := by simp
  have h2 : (n : Int) ≤ 10 := by omega
  have e : Od.waysB us ws = (Pf.allB us 0 1000 && Pf.allB ws 0 1000) := by simp [Od.waysB, hu, hw, h]
  rw [e]
  have HA := hide ha
  have HB := hide hb
  have HU := hide hu
  have HW := hide hw
  clear ha hb hu hw e
  cases e1 : Pf.allB us 0 1000
  · have H1 := hide e1
    clear e1
    go_enter Try.func73, Try.ntmps73
    go_wp2_with (go_at_call 91; refine (all7_eqn HA HU (by omega) H1).mono ?_; rintro e w1 ⟨rfl, rfl⟩)
    go_ret
    exact ⟨rfl, rfl⟩
  · cases e2 : Pf.allB ws 0 1000
    all_goals
      have H1 := hide e1
      have H2 := hide e2
      clear e1 e2
      go_enter Try.func73, Try.ntmps73
      go_wp2_with fail
      refine (all7_eqn HA HU (by omega) H1).mono ?_
      rintro e w1 ⟨rfl, rfl⟩
      go_wp2_with fail
      refine (all7_eqn HB HW (by omega) H2).mono ?_
      rintro e w1 ⟨rfl, rfl⟩
      go_wp2_with fail
      go_ret
      exact ⟨rfl, rfl⟩
theorem suw_any {a b : Option Addr} {n m c d : Nat} {us ws : List Int} {w : World} (hu : us.length = n) (hw : ws.length = m) (ha : ARow w a us) (hb : ARow w b ws) :
    Calls Try.prog 73 #[.slice a n c, .slice b m d] w fun e w' => e = .returned (.bool (Od.waysB us ws)) ∧ w' = w := by
  by_cases h : n = m
  · subst h
    by_cases h2 : n ≤ 10
    · exact suw_same hu hw h2 ha hb
    · rw [Od.waysB_many (by omega)]; exact suw_many (by omega)
  · rw [Od.waysB_ne (by omega)]; exact suw_ne h
theorem suw_eq {a b : Option Addr} {n m c d : Nat} {us ws : List Int} {w : World} {r : Bool} (hu : Hid (us.length = n)) (hw : Hid (ws.length = m)) (ha : Hid (ARow w a us)) (hb : Hid (ARow w b ws)) (h : Hid (Od.waysB us ws = r)) :
    Calls Try.prog 73 #[.slice a n c, .slice b m d] w fun e w' => e = .returned (.bool r) ∧ w' = w := h.out ▸ suw_any hu.out hw.out ha.out hb.out

theorem has_step {xs : List Int} {k : Nat} {x : Int} (hk : k < xs.length) (h : (xs.take k).contains x = false) (hne : (xs.getD k 0 == x) = false) : (xs.take (k + 1)).contains x = false := by
  rw [List.take_add_one]
  have e : xs[k]? = some (xs.getD k 0) := by simp [hk]
  simp only [e, Option.toList_some, List.contains_eq_mem, List.mem_append, List.mem_singleton, decide_eq_false_iff_not] at h ⊢
  simp only [beq_eq_false_iff_ne] at hne
  exact fun c => c.elim h (fun c => hne c.symm)
theorem has_yes {xs : List Int} {k : Nat} {x : Int} (hk : k < xs.length) (h : (xs.getD k 0 == x) = true) : xs.contains x = true := by
  have : xs.getD k 0 = x := by simpa using h
  rw [← this, Pf.getD_lt xs 0 hk]
  simp
set_option maxRecDepth 100000 in
set_option maxHeartbeats 1000000 in
theorem has7_any {a : Option Addr} {n c : Nat} {xs : List Int} {x : Int} {w : World} (hx : xs.length = n) (hn : n ≤ 1000) (ha : ARow w a xs) :
    Calls Try.prog 99 #[.slice a n c, .int .i64 x] w fun e w' => e = .returned (.bool (xs.contains x)) ∧ w' = w := by
  have HA := hide ha
  have HX := hide hx
  clear ha hx
  go_enter Try.func99, Try.ntmps99
  go_wp2_with fail
  go_loop [4, 6, 9] (fun s4 _ s => ∃ (k : Nat), s4 = .bool false ∧ s = .int .i64 k ∧ k ≤ n ∧ Hid ((xs.take k).contains x = false)) (fun _ _ s => n - (intOf s).toNat)
  case atStart => exact ⟨0, rfl, rfl, Nat.zero_le _, hide (by simp)⟩
  case round =>
    obtain ⟨k, rfl, rfl, hk, HK⟩ := hrel
    by_cases hlt : k < n
    · obtain ⟨b, off, rfl, r1⟩ := HA.out.at (i := k) (by rw [HX.out]; exact hlt)
      have i0 : (0 : Int) ≤ (k : Int) := by omega
      have i1 : (k : Int) < (n : Int) := by omega
      have HS := hide (has_step (x := x) (by rw [HX.out]; exact hlt) HK.out)
      have HY := hide (has_yes (x := x) (k := k) (xs := xs) (by rw [HX.out]; exact hlt))
      generalize xs.getD k 0 = y at *
      cases hb : (y == x)
      · have H1 := hide (HS.out hb)
        go_wp2_with fail
        go_round
        case rel => exact ⟨k + 1, rfl, by go_num, by omega, H1⟩
        case measure => simp only [intOf]; omega
      · have H1 := hide (HY.out hb)
        go_wp2_with fail
        go_ret
        exact ⟨ret_bool (H1.out.symm.trans (List.contains_eq_mem ..)), rfl⟩
    · have hke : k = n := by omega
      subst hke
      have H1 := hide (show xs.contains x = false by have := HK.out; rwa [← HX.out, List.take_length] at this)
      go_wp2_with fail
      go_ret
      exact ⟨ret_bool (H1.out.symm.trans (List.contains_eq_mem ..)), rfl⟩
theorem has7_eq {a : Option Addr} {n c : Nat} {xs : List Int} {x : Int} {w : World} {r : Bool} (hx : Hid (xs.length = n)) (hn : n ≤ 1000) (ha : Hid (ARow w a xs)) (h : Hid (xs.contains x = r)) :
    Calls Try.prog 99 #[.slice a n c, .int .i64 x] w fun e w' => e = .returned (.bool r) ∧ w' = w := h.out ▸ has7_any hx.out hn ha.out
theorem ARow.take {w : World} {a : Option Addr} {xs : List Int} (h : ARow w a xs) (k : Nat) : ARow w a (xs.take k) := by
  rcases h with h | ⟨b, off, ha, hb, hc⟩
  · exact Or.inl (by rw [h]; simp)
  · refine Or.inr ⟨b, off, ha, hb, fun i hi => ?_⟩
    rw [List.length_take] at hi
    rw [hc i (by omega)]
    simp [show i < k by omega]

set_option maxRecDepth 100000 in
set_option maxHeartbeats 1000000 in
theorem seo_ne {a : Option Addr} {n m c : Nat} {w : World} (h : m ≠ n) :
    Calls Try.prog 74 #[.slice a m c, .int .i64 n] w fun e w' => e = .returned (.bool false) ∧ w' = w := by
  have h1 : ((m : Int) != (n : Int)) = true := by simp; omega
  go_enter Try.func74, Try.ntmps74
  go_wp2_with fail
  go_ret
  exact ⟨rfl, rfl⟩
set_option maxRecDepth 100000 in
set_option maxHeartbeats 2000000 in
theorem seo_same {a : Option Addr} {n c : Nat} {xs : List Int} {w : World} (hx : xs.length = n) (hn : n ≤ 10) (hc : n ≤ c) (ha : ARow w a xs) :
    Calls Try.prog 74 #[.slice a n c, .int .i64 n] w fun e w' => e = .returned (.bool (Od.ordB xs n)) ∧ w' = w := by
  have h1 : ((n : Int) != (n : Int)) = false := by simp
  have HA := hide ha
  have HX := hide hx
  clear ha hx
  go_enter Try.func74, Try.ntmps74
  go_wp2_with fail
  go_loop [4, 5, 6, 13] (fun s4 _ _ s => ∃ (k : Nat), s4 = .bool false ∧ s = .int .i64 k ∧ k ≤ n ∧ Hid (∀ i, i < k → Od.okAt xs n i = true)) (fun _ _ _ s => n - (intOf s).toNat)
  case atStart => exact ⟨0, rfl, rfl, Nat.zero_le _, hide fun i hi => absurd hi (Nat.not_lt_zero _)⟩
  case round =>
    obtain ⟨k, rfl, rfl, hk, HK⟩ := hrel
    by_cases hlt : k < n
    · obtain ⟨b, off, rfl, r1⟩ := HA.out.at (i := k) (by rw [HX.out]; exact hlt)
      have i0 : (0 : Int) ≤ (k : Int) := by omega
      have i1 : (k : Int) < (n : Int) := by omega
      have i2 : (k : Int) ≤ (c : Int) := by omega
      have HTL := hide (show (xs.take k).length = k by rw [List.length_take, HX.out]; omega)
      have HTR := hide (HA.out.take k)
      generalize hx : xs.getD k 0 = x at r1
      cases hb : Pf.inB x 0 ((n : Int) - 1)
      · have HN := hide (Od.ordB_not hlt (show Od.okAt xs n k = false by simp only [Od.okAt]; rw [hx, hb]; rfl))
        clear hx
        go_wp2_with fail
        refine (in_eq hb).mono ?_
        rintro e w1 ⟨rfl, rfl⟩
        go_wp2_with fail
        go_ret
        exact ⟨ret_bool HN.out.symm, rfl⟩
      · cases hs : (xs.take k).contains x
        · have H1 := hide hs
          have HT : Hid (Od.okAt xs n k = true) := hide (show Od.okAt xs n k = true by simp only [Od.okAt]; rw [hx, hs, hb]; rfl)
          clear hs hx
          go_wp2_with fail
          refine (in_eq hb).mono ?_
          rintro e w1 ⟨rfl, rfl⟩
          go_wp2_with fail
          refine (has7_eq HTL (by omega) HTR H1).mono ?_
          rintro e w1 ⟨rfl, rfl⟩
          go_wp2_with fail
          go_round
          case rel =>
            refine ⟨k + 1, rfl, by go_num, by omega, hide fun i hi => ?_⟩
            by_cases e : i = k
            · subst e; exact HT.out
            · exact HK.out i (by omega)
          case measure => simp only [intOf]; omega
        · have H1 := hide hs
          have HN := hide (Od.ordB_not hlt (show Od.okAt xs n k = false by simp only [Od.okAt]; rw [hx, hs]; simp))
          clear hs hx
          go_wp2_with fail
          refine (in_eq hb).mono ?_
          rintro e w1 ⟨rfl, rfl⟩
          go_wp2_with fail
          refine (has7_eq HTL (by omega) HTR H1).mono ?_
          rintro e w1 ⟨rfl, rfl⟩
          go_wp2_with fail
          go_ret
          exact ⟨ret_bool HN.out.symm, rfl⟩
    · have hke : k = n := by omega
      subst hke
      have HY := hide (Od.ordB_of HX.out HK.out)
      go_wp2_with fail
      go_ret
      exact ⟨ret_bool HY.out.symm, rfl⟩
theorem seo_any {a : Option Addr} {n m c : Nat} {xs : List Int} {w : World} (hx : xs.length = m) (hn : n ≤ 10) (hc : m ≤ c) (ha : ARow w a xs) :
    Calls Try.prog 74 #[.slice a m c, .int .i64 n] w fun e w' => e = .returned (.bool (Od.ordB xs n)) ∧ w' = w := by
  by_cases h : m = n
  · subst h; exact seo_same hx hn hc ha
  · rw [Od.ordB_ne (by omega)]; exact seo_ne h
theorem seo_eq {a : Option Addr} {n m c : Nat} {xs : List Int} {w : World} {r : Bool} (hx : Hid (xs.length = m)) (hn : n ≤ 10) (hc : m ≤ c) (ha : Hid (ARow w a xs)) (h : Hid (Od.ordB xs n = r)) :
    Calls Try.prog 74 #[.slice a m c, .int .i64 n] w fun e w' => e = .returned (.bool r) ∧ w' = w := h.out ▸ seo_any hx.out hn hc ha.out

set_option maxRecDepth 100000 in
set_option maxHeartbeats 2000000 in
theorem sco7_any {a b o : Option Addr} {n c d e' : Nat} {us ws os : List Int} {w : World} (hu : us.length = n) (hw : ws.length = n) (hn : n ≤ 10) (ha : ARow w a us) (hb : ARow w b ws) (ho : ARow w o os) (gu : Pf.allB us 0 1000 = true) (gw : Pf.allB ws 0 1000 = true) (go : Od.ordB os n = true) :
    Calls Try.prog 75 #[.slice a n c, .slice b n d, .slice o n e'] w fun e w' => e = .returned (.int .i64 (Od.cost us ws os)) ∧ Below w.heap.size w w' := by
  have HA := hide ha
  have HB := hide hb
  have HO := hide ho
  have HU := hide hu
  have HW := hide hw
  have HG := hide go
  have HN := hide (Od.ordB_len go)
  have HBD := hide (Od.costTo_bd gu gw (hu.trans hw.symm) (by rw [hu]; exact go))
  have HGU := hide gu
  have HGW := hide gw
  clear ha hb ho hu hw go gu gw
  go_enter Try.func75, Try.ntmps75
  go_wp2_with fail
  go_loopw [7, 8, 9, 12] (fun s7 _ _ s wr => ∃ (k : Nat) (t : Int), s7 = .int .i64 t ∧ s = .int .i64 k ∧ k ≤ n ∧ Hid (t = Od.costTo us ws os k) ∧ ∃ q, wr = w.drewN q) (fun _ _ _ s _ => n - (intOf s).toNat)
  case atStart => exact ⟨0, 0, rfl, rfl, Nat.zero_le _, hide rfl, 0, rfl⟩
  case round =>
    obtain ⟨k, t, rfl, rfl, hk, HT, q, rfl⟩ := hrel
    by_cases hlt : k < n
    · obtain ⟨bo, oo, rfl, r0⟩ := HO.out.at (i := k) (by rw [HN.out]; exact hlt)
      rw [Od.nth_cast HG.out hlt] at r0
      have hj := Od.nth_lt HG.out hlt
      obtain ⟨ba, oa, rfl, r1⟩ := HA.out.at (i := Od.nth os k) (by rw [HU.out]; exact hj)
      obtain ⟨bb, ob, rfl, r2⟩ := HB.out.at (i := k) (by rw [HW.out]; omega)
      have i0 : (0 : Int) ≤ (k : Int) := by omega
      have i1 : (k : Int) < (n : Int) := by omega
      have hs : Od.costTo us ws os (k + 1) = Od.costTo us ws os k + us.getD (Od.nth os k) 0 * ws.getD k 0 := rfl
      have hbd := HBD.out (k + 1) (by rw [HU.out]; omega)
      have tb := Od.term_bd (Pf.inB_yes (Pf.allB_get HGU.out (show Od.nth os k < us.length by rw [HU.out]; exact hj))) (Pf.inB_yes (Pf.allB_get HGW.out (show k < ws.length by rw [HW.out]; omega)))
      rw [hs, ← HT.out] at hbd
      rw [← HT.out] at hs
      generalize us.getD (Od.nth os k) 0 = x at *
      generalize ws.getD k 0 = y at *
      generalize Od.nth os k = j at *
      have j0 : (0 : Int) ≤ (j : Int) := by omega
      have j1 : (j : Int) < (n : Int) := by omega
      have HS := hide hs
      have p0 : IntKind.i64.wrap (x * y) = x * y := by rw [IntKind.wrap_i64]; omega
      have p1 : IntKind.i64.wrap (t + x * y) = t + x * y := by rw [IntKind.wrap_i64]; omega
      clear hs hbd tb
      go_wp2_with fail
      go_region
      go_wp2_with fail
      go_roundw
      case rel => exact ⟨k + 1, t + x * y, rfl, by go_num, by omega, hide HS.out.symm, q + 1, rfl⟩
      case measure => simp only [intOf]; omega
    · have hke : k = n := by omega
      subst hke
      have HE := hide (show t = Od.cost us ws os by rw [Od.cost, HN.out]; exact HT.out)
      go_wp2_with fail
      go_ret
      exact ⟨ret_int HE.out, below_drewN (Below.refl _ _) q⟩
end Go.Proofs.Ytljccbnkibfimaa
