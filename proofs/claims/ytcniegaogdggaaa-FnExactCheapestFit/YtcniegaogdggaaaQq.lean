/-
  What arePrices, PriceSum and arePriced of the program answer, and l9Prices, PriceSum and l9Both of the model.
-/
import Derived.Test.YtcniegaogdggaaaQb
import Derived.Test.YtcniegaogdggaaaQp
import Derived.BigQuiet
namespace Go.Proofs.Ytcniegaogdggaaa
open Go.RowKit

theorem prB_ne {us vs : List Int} (h : us.length ≠ vs.length) : Hu.prB us vs = false := by simp [Hu.prB, h]
theorem prB_many {us vs : List Int} (h : ¬ us.length ≤ 10) : Hu.prB us vs = false := by simp [Hu.prB, h]
theorem prB_a {us vs : List Int} (h : Pf.allB us (-100000) 100000 = false) : Hu.prB us vs = false := by simp [Hu.prB, h]
theorem prB_b {us vs : List Int} (h : Pf.allB vs (-100000) 100000 = false) : Hu.prB us vs = false := by simp [Hu.prB, h]
theorem prB_of {us vs : List Int} (h1 : us.length = vs.length) (h2 : us.length ≤ 10) (h3 : Pf.allB us (-100000) 100000 = true) (h4 : Pf.allB vs (-100000) 100000 = true) : Hu.prB us vs = true := by simp [Hu.prB, h1 ▸ h2, h1, h3, h4]
theorem allB_wider {xs : List Int} (h : Pf.allB xs (-100000) 100000 = true) : Pf.allB xs (-10000000) 10000000 = true := Pf.allB_of fun i hi => by
  have := Pf.inB_yes (Pf.allB_get h hi); exact Pf.inB_of (by omega) (by omega)
theorem sum9_bd {xs : List Int} (h : Pf.allB xs (-100000) 100000 = true) (hl : xs.length ≤ 10) : -1000000 ≤ xs.sum ∧ xs.sum ≤ 1000000 := by
  have : ∀ k, k ≤ xs.length → -100000 * (k : Int) ≤ Hu.sumTo (fun i => xs.getD i 0) k ∧ Hu.sumTo (fun i => xs.getD i 0) k ≤ 100000 * (k : Int) := by
    intro k
    induction k with
    | zero => intro _; simp [Hu.sumTo]
    | succ k ih =>
      intro hk
      have h1 := ih (by omega)
      have h2 := Pf.inB_yes (Pf.allB_get h (show k < xs.length by omega))
      simp only [Hu.sumTo]
      omega
  have h1 := this xs.length (Nat.le_refl _)
  rw [← Hu.sum_self] at h1
  omega
set_option maxHeartbeats 4000000 in
theorem arp_any {a b : Option Addr} {n m c d : Nat} {us vs : List Int} {w : World} (hn : us.length = n) (hm : vs.length = m) (ha : ARow w a us) (hb : ARow w b vs) :
    Calls Try.prog 54 #[.agg #[.slice a n c, .slice b m d]] w fun e w' => e = .returned (.bool (Hu.prB us vs)) ∧ Below w.heap.size w w' := by
  have HA := hide (ha.alloc (.cells #[.slice a n c, .slice b m d] 29))
  have HB := hide (hb.alloc (.cells #[.slice a n c, .slice b m d] 29))
  have HN := hide hn
  have HM := hide hm
  by_cases hnm : n = m
  · subst hnm
    have he : ((n : Int) == (n : Int)) = true := by simp
    by_cases h10 : n ≤ 10
    · have i10 : (n : Int) ≤ 10 := by omega
      cases hp : Pf.allB us (-100000) 100000
      · have HP := hide hp
        rw [prB_a hp]
        clear ha hb hn hm hp
        go_enter Try.func54, Try.ntmps54
        go_wp2_with fail
        refine (areb9_eqn HA HN (by omega) HP).mono ?_
        rintro e w1 ⟨rfl, hw1⟩
        obtain rfl := hw1
        go_wp2_with fail
        go_ret
        exact ⟨rfl, below_new _ _⟩
      · cases hq : Pf.allB vs (-100000) 100000
        · have HP := hide hp
          have HQ := hide hq
          rw [prB_b hq]
          clear ha hb hn hm hp hq
          go_enter Try.func54, Try.ntmps54
          go_wp2_with fail
          refine (areb9_eqn HA HN (by omega) HP).mono ?_
          rintro e w1 ⟨rfl, hw1⟩
          obtain rfl := hw1
          go_wp2_with fail
          refine (areb9_eqn HB HM (by omega) HQ).mono ?_
          rintro e w1 ⟨rfl, hw1⟩
          obtain rfl := hw1
          go_wp2_with fail
          go_ret
          exact ⟨rfl, below_new _ _⟩
        · have HP := hide hp
          have HQ := hide hq
          rw [prB_of (hn.trans hm.symm) (by rw [hn]; exact h10) hp hq]
          clear ha hb hn hm hp hq
          go_enter Try.func54, Try.ntmps54
          go_wp2_with fail
          refine (areb9_eqn HA HN (by omega) HP).mono ?_
          rintro e w1 ⟨rfl, hw1⟩
          obtain rfl := hw1
          go_wp2_with fail
          refine (areb9_eqn HB HM (by omega) HQ).mono ?_
          rintro e w1 ⟨rfl, hw1⟩
          obtain rfl := hw1
          go_wp2_with fail
          go_ret
          exact ⟨rfl, below_new _ _⟩
    · have i10 : ¬ (n : Int) ≤ 10 := by omega
      rw [prB_many (by rw [hn]; exact h10)]
      clear ha hb hn hm
      go_enter Try.func54, Try.ntmps54
      go_wp2_with fail
      go_ret
      exact ⟨rfl, below_new _ _⟩
  · have he : ((n : Int) == (m : Int)) = false := by simp; omega
    rw [prB_ne (by rw [hn, hm]; exact hnm)]
    clear ha hb hn hm hnm
    go_enter Try.func54, Try.ntmps54
    go_wp2_with fail
    go_ret
    exact ⟨rfl, below_new _ _⟩
theorem arp_eq {a b : Option Addr} {n m c d : Nat} {us vs : List Int} {w : World} {r : Bool} (hn : Hid (us.length = n)) (hm : Hid (vs.length = m)) (ha : Hid (ARow w a us)) (hb : Hid (ARow w b vs)) (hr : Hid (Hu.prB us vs = r)) :
    Calls Try.prog 54 #[.agg #[.slice a n c, .slice b m d]] w fun e w' => e = .returned (.bool r) ∧ Below w.heap.size w w' := hr.out ▸ arp_any hn.out hm.out ha.out hb.out
set_option maxHeartbeats 4000000 in
theorem ps_w {a b : Option Addr} {n m c d : Nat} {us vs : List Int} {w : World} (hn : us.length = n) (hm : vs.length = m) (ha : ARow w a us) (hb : ARow w b vs) :
    Calls Try.prog 31 #[.agg #[.slice a n c, .slice b m d]] w fun e w' => e = .returned (.tuple #[.int .i64 (Hu.psI us vs), .bool (Hu.prB us vs)]) ∧ Below w.heap.size w w' := by
  have HA := hide (ha.alloc (.cells #[.slice a n c, .slice b m d] 29))
  have HB := hide (hb.alloc (.cells #[.slice a n c, .slice b m d] 29))
  have HN := hide hn
  have HM := hide hm
  cases hg : Hu.prB us vs
  · have HG := hide hg
    rw [show Hu.psI us vs = 0 by simp [Hu.psI, hg]]
    clear ha hb hn hm hg
    go_enter Try.func31, Try.ntmps31
    go_wp2_with fail
    refine (arp_eq HN HM HA HB HG).mono ?_
    rintro e w1 ⟨rfl, hb1⟩
    go_wp2_with fail
    go_ret2
    exact ⟨rfl, (below_new _ _).trans (hb1.mono (by simp))⟩
  · have HG := hide hg
    obtain ⟨g1, g2, g3, g4⟩ := Hu.prB_yes hg
    have s1 := sum9_bd g3 g2
    have s2 := sum9_bd g4 (by omega)
    have HS1 := hide fun (W : World) (r : ARow W a us) => isum_any (c := c) r (by omega) (allB_wider g3)
    have HS2 := hide fun (W : World) (r : ARow W b vs) => isum_any (c := d) r (by omega) (allB_wider g4)
    rw [show Hu.psI us vs = us.sum + vs.sum by simp [Hu.psI, hg]]
    rw [hn] at HS1
    rw [hm] at HS2
    generalize us.sum = X at *
    generalize vs.sum = Y at *
    have w1 : IntKind.i64.wrap (X + Y) = X + Y := by rw [IntKind.wrap_i64]; omega
    clear ha hb hg g1 g2 g3 g4 hn hm
    go_enter Try.func31, Try.ntmps31
    go_wp2_with fail
    refine (arp_eq HN HM HA HB HG).mono ?_
    rintro e w1 ⟨rfl, hb1⟩
    have c0 : w1.cell? ⟨w.heap.size, 0, none⟩ = some (.slice a n c) := (hb1.cell (p := ⟨w.heap.size, 0, none⟩) (by simp)).trans (by simp [go_sem])
    have c1 : w1.cell? ⟨w.heap.size, 1, none⟩ = some (.slice b m d) := (hb1.cell (p := ⟨w.heap.size, 1, none⟩) (by simp)).trans (by simp [go_sem])
    have HA1 := hide (HA.out.below hb1)
    have HB1 := hide (HB.out.below hb1)
    have hB := (below_new w (.cells #[.slice a n c, .slice b m d] 29)).trans (hb1.mono (by simp))
    clear hb1 HA HB
    go_wp2_with fail
    go_quiet (first
      | (go_at_call_of 55 (Value.slice a n c); exact Calls.quiet_of_same (HS1.out _ HA1.out))
      | (go_at_call_of 55 (Value.slice b m d); exact Calls.quiet_of_same (HS2.out _ HB1.out)))
    go_wp2_with fail
    go_ret2
    exact ⟨rfl, below_drewN hB _⟩
set_option maxHeartbeats 4000000 in
theorem bo_any {e a b : Option Addr} {l n m f c d : Nat} {C : List (List Int)} {us vs : List Int} {w : World} (hl : C.length = l) (hn : us.length = n) (hm : vs.length = m) (hc : CRow w e C) (ha : ARow w a us) (hb : ARow w b vs) :
    Calls Try.prog 48 #[.slice e l f, .agg #[.slice a n c, .slice b m d]] w fun e w' => e = .returned (.bool (Hu.bothB C us vs)) ∧ Below w.heap.size w w' := by
  have HC := hide (hc.below (below_new w (.cells #[.slice a n c, .slice b m d] 29)))
  have HA := hide (ha.alloc (.cells #[.slice a n c, .slice b m d] 29))
  have HB := hide (hb.alloc (.cells #[.slice a n c, .slice b m d] 29))
  have HL := hide hl
  have HN := hide hn
  have HM := hide hm
  cases hg : Hu.costB C
  · have HG := hide hg
    rw [show Hu.bothB C us vs = false by simp [Hu.bothB, hg]]
    clear hc ha hb hn hm hl hg
    go_enter Try.func48, Try.ntmps48
    go_wp2_with fail
    refine (gc_eq HL HC HG).mono ?_
    rintro e w1 ⟨rfl, hw1⟩
    obtain rfl := hw1
    go_wp2_with fail
    go_ret
    exact ⟨rfl, below_new _ _⟩
  · have HG := hide hg
    cases hp : Hu.prB us vs
    · have HP := hide hp
      rw [show Hu.bothB C us vs = false by simp [Hu.bothB, hp]]
      clear hc ha hb hn hm hl hg hp
      go_enter Try.func48, Try.ntmps48
      go_wp2_with fail
      refine (gc_eq HL HC HG).mono ?_
      rintro e w1 ⟨rfl, hw1⟩
      obtain rfl := hw1
      go_wp2_with fail
      refine (arp_eq HN HM HA HB HP).mono ?_
      rintro e w1 ⟨rfl, hb1⟩
      have hB := (below_new w (.cells #[.slice a n c, .slice b m d] 29)).trans (hb1.mono (by simp))
      clear hb1
      go_wp2_with fail
      go_ret
      exact ⟨rfl, hB⟩
    · have HP := hide hp
      by_cases hnl : n = l
      · subst hnl
        have he : ((n : Int) == (n : Int)) = true := by simp
        rw [show Hu.bothB C us vs = true by simp [Hu.bothB, hg, hp, hn, hl]]
        clear hc ha hb hn hm hl hg hp
        go_enter Try.func48, Try.ntmps48
        go_wp2_with fail
        refine (gc_eq HL HC HG).mono ?_
        rintro e w1 ⟨rfl, hw1⟩
        obtain rfl := hw1
        go_wp2_with fail
        refine (arp_eq HN HM HA HB HP).mono ?_
        rintro e w1 ⟨rfl, hb1⟩
        have hB := (below_new w (.cells #[.slice a n c, .slice b m d] 29)).trans (hb1.mono (by simp))
        have c0 : w1.cell? ⟨w.heap.size, 0, none⟩ = some (.slice a n c) := (hb1.cell (p := ⟨w.heap.size, 0, none⟩) (by simp)).trans (by simp [go_sem])
        clear hb1
        go_wp2_with fail
        go_ret
        exact ⟨rfl, hB⟩
      · have he : ((n : Int) == (l : Int)) = false := by simp; omega
        rw [show Hu.bothB C us vs = false by simp [Hu.bothB, hg, hp, hn, hl, hnl]]
        clear hc ha hb hn hm hl hg hp hnl
        go_enter Try.func48, Try.ntmps48
        go_wp2_with fail
        refine (gc_eq HL HC HG).mono ?_
        rintro e w1 ⟨rfl, hw1⟩
        obtain rfl := hw1
        go_wp2_with fail
        refine (arp_eq HN HM HA HB HP).mono ?_
        rintro e w1 ⟨rfl, hb1⟩
        have hB := (below_new w (.cells #[.slice a n c, .slice b m d] 29)).trans (hb1.mono (by simp))
        have c0 : w1.cell? ⟨w.heap.size, 0, none⟩ = some (.slice a n c) := (hb1.cell (p := ⟨w.heap.size, 0, none⟩) (by simp)).trans (by simp [go_sem])
        clear hb1
        go_wp2_with fail
        go_ret
        exact ⟨rfl, hB⟩
theorem bo_eq {e a b : Option Addr} {l n m f c d : Nat} {C : List (List Int)} {us vs : List Int} {w : World} {r : Bool} (hl : Hid (C.length = l)) (hn : Hid (us.length = n)) (hm : Hid (vs.length = m)) (hc : Hid (CRow w e C)) (ha : Hid (ARow w a us)) (hb : Hid (ARow w b vs)) (hr : Hid (Hu.bothB C us vs = r)) :
    Calls Try.prog 48 #[.slice e l f, .agg #[.slice a n c, .slice b m d]] w fun e w' => e = .returned (.bool r) ∧ Below w.heap.size w w' := hr.out ▸ bo_any hl.out hn.out hm.out hc.out ha.out hb.out
set_option maxHeartbeats 4000000 in
theorem sarp_any {a b : Option Addr} {n m c d : Nat} {us vs : List Int} {w : World} (hn : us.length = n) (hm : vs.length = m) (ha : ARow w a us) (hb : ARow w b vs) :
    Calls Try.prog 52 #[.agg #[.slice a n c, .slice b m d]] w fun e w' => e = .returned (.bool (Hu.prB us vs)) ∧ Below w.heap.size w w' := by
  have HA := hide (ha.alloc (.cells #[.slice a n c, .slice b m d] 29))
  have HB := hide (hb.alloc (.cells #[.slice a n c, .slice b m d] 29))
  have HN := hide hn
  have HM := hide hm
  by_cases hnm : n = m
  · subst hnm
    have he : ((n : Int) == (n : Int)) = true := by simp
    by_cases h10 : n ≤ 10
    · have i10 : (n : Int) ≤ 10 := by omega
      cases hp : Pf.allB us (-100000) 100000
      · have HP := hide hp
        rw [prB_a hp]
        clear ha hb hn hm hp
        go_enter Try.func52, Try.ntmps52
        go_wp2_with fail
        refine (all9_eqn HA HN (by omega) HP).mono ?_
        rintro e w1 ⟨rfl, hw1⟩
        obtain rfl := hw1
        go_wp2_with fail
        go_ret
        exact ⟨rfl, below_new _ _⟩
      · cases hq : Pf.allB vs (-100000) 100000
        · have HP := hide hp
          have HQ := hide hq
          rw [prB_b hq]
          clear ha hb hn hm hp hq
          go_enter Try.func52, Try.ntmps52
          go_wp2_with fail
          refine (all9_eqn HA HN (by omega) HP).mono ?_
          rintro e w1 ⟨rfl, hw1⟩
          obtain rfl := hw1
          go_wp2_with fail
          refine (all9_eqn HB HM (by omega) HQ).mono ?_
          rintro e w1 ⟨rfl, hw1⟩
          obtain rfl := hw1
          go_wp2_with fail
          go_ret
          exact ⟨rfl, below_new _ _⟩
        · have HP := hide hp
          have HQ := hide hq
          rw [prB_of (hn.trans hm.symm) (by rw [hn]; exact h10) hp hq]
          clear ha hb hn hm hp hq
          go_enter Try.func52, Try.ntmps52
          go_wp2_with fail
          refine (all9_eqn HA HN (by omega) HP).mono ?_
          rintro e w1 ⟨rfl, hw1⟩
          obtain rfl := hw1
          go_wp2_with fail
          refine (all9_eqn HB HM (by omega) HQ).mono ?_
          rintro e w1 ⟨rfl, hw1⟩
          obtain rfl := hw1
          go_wp2_with fail
          go_ret
          exact ⟨rfl, below_new _ _⟩
    · have i10 : ¬ (n : Int) ≤ 10 := by omega
      rw [prB_many (by rw [hn]; exact h10)]
      clear ha hb hn hm
      go_enter Try.func52, Try.ntmps52
      go_wp2_with fail
      go_ret
      exact ⟨rfl, below_new _ _⟩
  · have he : ((n : Int) == (m : Int)) = false := by simp; omega
    rw [prB_ne (by rw [hn, hm]; exact hnm)]
    clear ha hb hn hm hnm
    go_enter Try.func52, Try.ntmps52
    go_wp2_with fail
    go_ret
    exact ⟨rfl, below_new _ _⟩
theorem sarp_eq {a b : Option Addr} {n m c d : Nat} {us vs : List Int} {w : World} {r : Bool} (hn : Hid (us.length = n)) (hm : Hid (vs.length = m)) (ha : Hid (ARow w a us)) (hb : Hid (ARow w b vs)) (hr : Hid (Hu.prB us vs = r)) :
    Calls Try.prog 52 #[.agg #[.slice a n c, .slice b m d]] w fun e w' => e = .returned (.bool r) ∧ Below w.heap.size w w' := hr.out ▸ sarp_any hn.out hm.out ha.out hb.out
set_option maxHeartbeats 4000000 in
theorem sps_w {a b : Option Addr} {n m c d : Nat} {us vs : List Int} {w : World} (hn : us.length = n) (hm : vs.length = m) (ha : ARow w a us) (hb : ARow w b vs) :
    Calls Try.prog 30 #[.agg #[.slice a n c, .slice b m d]] w fun e w' => e = .returned (.tuple #[.int .i64 (Hu.psI us vs), .bool (Hu.prB us vs)]) ∧ Below w.heap.size w w' := by
  have HA := hide (ha.alloc (.cells #[.slice a n c, .slice b m d] 29))
  have HB := hide (hb.alloc (.cells #[.slice a n c, .slice b m d] 29))
  have HN := hide hn
  have HM := hide hm
  cases hg : Hu.prB us vs
  · have HG := hide hg
    rw [show Hu.psI us vs = 0 by simp [Hu.psI, hg]]
    clear ha hb hn hm hg
    go_enter Try.func30, Try.ntmps30
    go_wp2_with fail
    refine (sarp_eq HN HM HA HB HG).mono ?_
    rintro e w1 ⟨rfl, hb1⟩
    go_wp2_with fail
    go_ret2
    exact ⟨rfl, (below_new _ _).trans (hb1.mono (by simp))⟩
  · have HG := hide hg
    obtain ⟨g1, g2, g3, g4⟩ := Hu.prB_yes hg
    have s1 := sum9_bd g3 g2
    have s2 := sum9_bd g4 (by omega)
    have HS1 := hide fun (W : World) (r : ARow W a us) => sisum_any (c := c) r (by omega) (allB_wider g3)
    have HS2 := hide fun (W : World) (r : ARow W b vs) => sisum_any (c := d) r (by omega) (allB_wider g4)
    rw [show Hu.psI us vs = us.sum + vs.sum by simp [Hu.psI, hg]]
    rw [hn] at HS1
    rw [hm] at HS2
    generalize us.sum = X at *
    generalize vs.sum = Y at *
    have w1 : IntKind.i64.wrap (X + Y) = X + Y := by rw [IntKind.wrap_i64]; omega
    clear ha hb hg g1 g2 g3 g4 hn hm
    go_enter Try.func30, Try.ntmps30
    go_wp2_with fail
    refine (sarp_eq HN HM HA HB HG).mono ?_
    rintro e w1 ⟨rfl, hb1⟩
    have c0 : w1.cell? ⟨w.heap.size, 0, none⟩ = some (.slice a n c) := (hb1.cell (p := ⟨w.heap.size, 0, none⟩) (by simp)).trans (by simp [go_sem])
    have c1 : w1.cell? ⟨w.heap.size, 1, none⟩ = some (.slice b m d) := (hb1.cell (p := ⟨w.heap.size, 1, none⟩) (by simp)).trans (by simp [go_sem])
    have HA1 := hide (HA.out.below hb1)
    have HB1 := hide (HB.out.below hb1)
    have hB := (below_new w (.cells #[.slice a n c, .slice b m d] 29)).trans (hb1.mono (by simp))
    clear hb1 HA HB
    go_wp2_with fail
    go_quiet (first
      | (go_at_call_of 53 (Value.slice a n c); exact Calls.quiet_of_same (HS1.out _ HA1.out))
      | (go_at_call_of 53 (Value.slice b m d); exact Calls.quiet_of_same (HS2.out _ HB1.out)))
    go_wp2_with fail
    go_ret2
    exact ⟨rfl, below_drewN hB _⟩
set_option maxHeartbeats 4000000 in
theorem sbo_any {e a b : Option Addr} {l n m f c d : Nat} {C : List (List Int)} {us vs : List Int} {w : World} (hl : C.length = l) (hn1 : l ≤ 1048576) (hn : us.length = n) (hm : vs.length = m) (hc : CRow w e C) (ha : ARow w a us) (hb : ARow w b vs) :
    Calls Try.prog 47 #[.slice e l f, .agg #[.slice a n c, .slice b m d]] w fun e w' => e = .returned (.bool (Hu.bothB C us vs)) ∧ Below w.heap.size w w' := by
  have HC := hide (hc.below (below_new w (.cells #[.slice a n c, .slice b m d] 29)))
  have HA := hide (ha.alloc (.cells #[.slice a n c, .slice b m d] 29))
  have HB := hide (hb.alloc (.cells #[.slice a n c, .slice b m d] 29))
  have HL := hide hl
  have HN := hide hn
  have HM := hide hm
  cases hg : Hu.costB C
  · have HG := hide hg
    rw [show Hu.bothB C us vs = false by simp [Hu.bothB, hg]]
    clear hc ha hb hn hm hl hg
    go_enter Try.func47, Try.ntmps47
    go_wp2_with fail
    refine (sgc_eq HL hn1 HC HG).mono ?_
    rintro e w1 ⟨rfl, hw1⟩
    obtain rfl := hw1
    go_wp2_with fail
    go_ret
    exact ⟨rfl, below_new _ _⟩
  · have HG := hide hg
    cases hp : Hu.prB us vs
    · have HP := hide hp
      rw [show Hu.bothB C us vs = false by simp [Hu.bothB, hp]]
      clear hc ha hb hn hm hl hg hp
      go_enter Try.func47, Try.ntmps47
      go_wp2_with fail
      refine (sgc_eq HL hn1 HC HG).mono ?_
      rintro e w1 ⟨rfl, hw1⟩
      obtain rfl := hw1
      go_wp2_with fail
      refine (sarp_eq HN HM HA HB HP).mono ?_
      rintro e w1 ⟨rfl, hb1⟩
      have hB := (below_new w (.cells #[.slice a n c, .slice b m d] 29)).trans (hb1.mono (by simp))
      clear hb1
      go_wp2_with fail
      go_ret
      exact ⟨rfl, hB⟩
    · have HP := hide hp
      by_cases hnl : n = l
      · subst hnl
        have he : ((n : Int) == (n : Int)) = true := by simp
        rw [show Hu.bothB C us vs = true by simp [Hu.bothB, hg, hp, hn, hl]]
        clear hc ha hb hn hm hl hg hp
        go_enter Try.func47, Try.ntmps47
        go_wp2_with fail
        refine (sgc_eq HL hn1 HC HG).mono ?_
        rintro e w1 ⟨rfl, hw1⟩
        obtain rfl := hw1
        go_wp2_with fail
        refine (sarp_eq HN HM HA HB HP).mono ?_
        rintro e w1 ⟨rfl, hb1⟩
        have hB := (below_new w (.cells #[.slice a n c, .slice b m d] 29)).trans (hb1.mono (by simp))
        have c0 : w1.cell? ⟨w.heap.size, 0, none⟩ = some (.slice a n c) := (hb1.cell (p := ⟨w.heap.size, 0, none⟩) (by simp)).trans (by simp [go_sem])
        clear hb1
        go_wp2_with fail
        go_ret
        exact ⟨rfl, hB⟩
      · have he : ((n : Int) == (l : Int)) = false := by simp; omega
        rw [show Hu.bothB C us vs = false by simp [Hu.bothB, hg, hp, hn, hl, hnl]]
        clear hc ha hb hn hm hl hg hp hnl
        go_enter Try.func47, Try.ntmps47
        go_wp2_with fail
        refine (sgc_eq HL hn1 HC HG).mono ?_
        rintro e w1 ⟨rfl, hw1⟩
        obtain rfl := hw1
        go_wp2_with fail
        refine (sarp_eq HN HM HA HB HP).mono ?_
        rintro e w1 ⟨rfl, hb1⟩
        have hB := (below_new w (.cells #[.slice a n c, .slice b m d] 29)).trans (hb1.mono (by simp))
        have c0 : w1.cell? ⟨w.heap.size, 0, none⟩ = some (.slice a n c) := (hb1.cell (p := ⟨w.heap.size, 0, none⟩) (by simp)).trans (by simp [go_sem])
        clear hb1
        go_wp2_with fail
        go_ret
        exact ⟨rfl, hB⟩
theorem sbo_eq {e a b : Option Addr} {l n m f c d : Nat} {C : List (List Int)} {us vs : List Int} {w : World} {r : Bool} (hl : Hid (C.length = l)) (hn1 : l ≤ 1048576) (hn : Hid (us.length = n)) (hm : Hid (vs.length = m)) (hc : Hid (CRow w e C)) (ha : Hid (ARow w a us)) (hb : Hid (ARow w b vs)) (hr : Hid (Hu.bothB C us vs = r)) :
    Calls Try.prog 47 #[.slice e l f, .agg #[.slice a n c, .slice b m d]] w fun e w' => e = .returned (.bool r) ∧ Below w.heap.size w w' := hr.out ▸ sbo_any hl.out hn1 hn.out hm.out hc.out ha.out hb.out
end Go.Proofs.Ytcniegaogdggaaa
