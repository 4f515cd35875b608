/-
  In one: Qq, Qu, Wa, Wb, Wc, Wd, We, Wf, Wg, Wh, Wi, Wj, Kn, Wk, Ko.
-/
import Derived.Test.YtkebaklmkidfoaaZ2
import Derived.BigQuiet
import Derived.Shelf.Abstract
import Derived.Test.YtkebaklmkidfoaaZ1
import Derived.Deep.DeepCutAuto
import Derived.Lib.SliceRun
import Derived.Deep.RegionLaw
import Derived.Deep.LoopGhost
namespace Go.Proofs.Ytkebaklmkidfoaa
open Go.RowKit

theorem prB_ne {us vs : List Int} (h : us.length ≠ vs.length) : Hu.prB us vs = false := by simp [Hu.prB, h]
theorem prB_many {us vs : List Int} (h : ¬ us.length ≤ 10) : Hu.prB us vs = false := by simp [Hu.prB, h]
theorem prB_a {us vs : List Int} (h : Pf.allB us (-100000) 100000 = false) : Hu.prB us vs = false := by simp [Hu.prB, h]
theorem prB_b {us vs : List Int} (h : Pf.allB vs (-100000) 100000 = false) : Hu.prB us vs = false := by simp [Hu.prB, h]
theorem prB_of {us vs : List Int} (h1 : us.length = vs.length) (h2 : us.length ≤ 10) (h3 : Pf.allB us (-100000) 100000 = true) (h4 : Pf.allB vs (-100000) 100000 = true) : Hu.prB us vs = true := by simp [Hu.prB, h1 ▸ h2, h1, h3, h4]
theorem allB_wider {xs : List Int} (h : Pf.allB xs (-100000) 100000 = true) : Pf.allB xs (-10000000) 10000000 = true := Pf.allB_of fun i hi => by
  have := Pf.inB_yes (Pf.allB_get h hi); exact Pf.inB_of (by omega) (by omega)
theorem sum9_bd {xs : List Int} (h : Pf.allB xs (-100000) 100000 = true) (hl : xs.length ≤ 10) : -1000000 ≤ xs.sum ∧ xs.sum ≤ 1000000 := by
  have : ∀ k, k ≤ xs.length → -100000 * (k : Int) ≤ Hu.sumTo (fun i => xs.getD i 0) k ∧ Hu.sumTo (fun i => xs.getD i 0) k ≤ 100000 * (k : Int) := by
    intro k
    induction k with
    | zero => intro _; simp [Hu.sumTo]
    | succ k ih =>
      intro hk
      have h1 := ih (by omega)
      have h2 := Pf.inB_yes (Pf.allB_get h (show k < xs.length by omega))
      simp only [Hu.sumTo]
      omega
  have h1 := this xs.length (Nat.le_refl _)
  rw [← Hu.sum_self] at h1
  omega
set_option maxRecDepth 100000 in
set_option maxHeartbeats 4000000 in
theorem arp_any {a b : Option Addr} {n m c d : Nat} {us vs : List Int} {w : World} (hn : us.length = n) (hm : vs.length = m) (ha : ARow w a us) (hb : ARow w b vs) :
    Calls Try.prog 33 #[.agg #[.slice a n c, .slice b m d]] w fun e w' => e = .returned (.bool (Hu.prB us vs)) ∧ Below w.heap.size w w' := by
  have HA := hide (ha.alloc (.cells #[.slice a n c, .slice b m d] 27))
  have HB := hide (hb.alloc (.cells #[.slice a n c, .slice b m d] 27))
  have HN := hide hn
  have HM := hide hm
  by_cases hnm : n = m
  · subst hnm
    have he : ((n : Int) == (n : Int)) = true := by simp
    by_cases h10 : n ≤ 10
    · have i10 : (n : Int) ≤ 10 := by omega
      cases hp : Pf.allB us (-100000) 100000
      · have HP := hide hp
        rw [prB_a hp]
        clear ha hb hn hm hp
        go_enter Try.func33, Try.ntmps33
        go_wp2_with fail
        refine (areb9_eqn HA HN (by omega) HP).mono ?_
        rintro e w1 ⟨rfl, hw1⟩
        obtain rfl := hw1
        go_wp2_with fail
        go_ret
        exact ⟨rfl, below_new _ _⟩
      · cases hq : Pf.allB vs (-100000) 100000
        · have HP := hide hp
          have HQ := hide hq
          rw [prB_b hq]
          clear ha hb hn hm hp hq
          go_enter Try.func33, Try.ntmps33
          go_wp2_with fail
          refine (areb9_eqn HA HN (by omega) HP).mono ?_
          rintro e w1 ⟨rfl, hw1⟩
          obtain rfl := hw1
          go_wp2_with fail
          refine (areb9_eqn HB HM (by omega) HQ).mono ?_
          rintro e w1 ⟨rfl, hw1⟩
          obtain rfl := hw1
          go_wp2_with fail
          go_ret
          exact ⟨rfl, below_new _ _⟩
        · have HP := hide hp
          have HQ := hide hq
          rw [prB_of (hn.trans hm.symm) (by rw [hn]; exact h10) hp hq]
          clear ha hb hn hm hp hq
          go_enter Try.func33, Try.ntmps33
          go_wp2_with fail
          refine (areb9_eqn HA HN (by omega) HP).mono ?_
          rintro e w1 ⟨rfl, hw1⟩
          obtain rfl := hw1
          go_wp2_with fail
          refine (areb9_eqn HB HM (by omega) HQ).mono ?_
          rintro e w1 ⟨rfl, hw1⟩
          obtain rfl := hw1
          go_wp2_with fail
          go_ret
          exact ⟨rfl, below_new _ _⟩
    · have i10 : ¬ (n : Int) ≤ 10 := by omega
      rw [prB_many (by rw [hn]; exact h10)]
      clear ha hb hn hm
      go_enter Try.func33, Try.ntmps33
      go_wp2_with fail
      go_ret
      exact ⟨rfl, below_new _ _⟩
  · have he : ((n : Int) == (m : Int)) = false := by simp; omega
    rw [prB_ne (by rw [hn, hm]; exact hnm)]
    clear ha hb hn hm hnm
    go_enter Try.func33, Try.ntmps33
    go_wp2_with fail
    go_ret
    exact ⟨rfl, below_new _ _⟩
theorem arp_eq {a b : Option Addr} {n m c d : Nat} {us vs : List Int} {w : World} {r : Bool} (hn : Hid (us.length = n)) (hm : Hid (vs.length = m)) (ha : Hid (ARow w a us)) (hb : Hid (ARow w b vs)) (hr : Hid (Hu.prB us vs = r)) :
    Calls Try.prog 33 #[.agg #[.slice a n c, .slice b m d]] w fun e w' => e = .returned (.bool r) ∧ Below w.heap.size w w' := hr.out ▸ arp_any hn.out hm.out ha.out hb.out
set_option maxRecDepth 100000 in
set_option maxHeartbeats 4000000 in
theorem ps_w {a b : Option Addr} {n m c d : Nat} {us vs : List Int} {w : World} (hn : us.length = n) (hm : vs.length = m) (ha : ARow w a us) (hb : ARow w b vs) :
    Calls Try.prog 12 #[.agg #[.slice a n c, .slice b m d]] w fun e w' => e = .returned (.tuple #[.int .i64 (Hu.psI us vs), .bool (Hu.prB us vs)]) ∧ Below w.heap.size w w' := by
  have HA := hide (ha.alloc (.cells #[.slice a n c, .slice b m d] 27))
  have HB := hide (hb.alloc (.cells #[.slice a n c, .slice b m d] 27))
  have HN := hide hn
  have HM := hide hm
  cases hg : Hu.prB us vs
  · have HG := hide hg
    rw [show Hu.psI us vs = 0 by simp [Hu.psI, hg]]
    clear ha hb hn hm hg
    go_enter Try.func12, Try.ntmps12
    go_wp2_with fail
    refine (arp_eq HN HM HA HB HG).mono ?_
    rintro e w1 ⟨rfl, hb1⟩
    go_wp2_with fail
    go_ret2
    exact ⟨rfl, (below_new _ _).trans (hb1.mono (by simp))⟩
  · have HG := hide hg
    obtain ⟨g1, g2, g3, g4⟩ := Hu.prB_yes hg
    have s1 := sum9_bd g3 g2
    have s2 := sum9_bd g4 (by omega)
    have HS1 := hide fun (W : World) (r : ARow W a us) => isum_any (c := c) r (by omega) (allB_wider g3)
    have HS2 := hide fun (W : World) (r : ARow W b vs) => isum_any (c := d) r (by omega) (allB_wider g4)
    rw [show Hu.psI us vs = us.sum + vs.sum by simp [Hu.psI, hg]]
    rw [hn] at HS1
    rw [hm] at HS2
    generalize us.sum = X at *
    generalize vs.sum = Y at *
    have w1 : IntKind.i64.wrap (X + Y) = X + Y := by rw [IntKind.wrap_i64]; omega
    clear ha hb hg g1 g2 g3 g4 hn hm
    go_enter Try.func12, Try.ntmps12
    go_wp2_with fail
    refine (arp_eq HN HM HA HB HG).mono ?_
    rintro e w1 ⟨rfl, hb1⟩
    have c0 : w1.cell? ⟨w.heap.size, 0, none⟩ = some (.slice a n c) := (hb1.cell (p := ⟨w.heap.size, 0, none⟩) (by simp)).trans (by simp [go_sem])
    have c1 : w1.cell? ⟨w.heap.size, 1, none⟩ = some (.slice b m d) := (hb1.cell (p := ⟨w.heap.size, 1, none⟩) (by simp)).trans (by simp [go_sem])
    have HA1 := hide (HA.out.below hb1)
    have HB1 := hide (HB.out.below hb1)
    have hB := (below_new w (.cells #[.slice a n c, .slice b m d] 27)).trans (hb1.mono (by simp))
    clear hb1 HA HB
    go_wp2_with fail
    go_quiet (first
      | (go_at_call_of 34 (Value.slice a n c); exact Calls.quiet_of_same (HS1.out _ HA1.out))
      | (go_at_call_of 34 (Value.slice b m d); exact Calls.quiet_of_same (HS2.out _ HB1.out)))
    go_wp2_with fail
    go_ret2
    exact ⟨rfl, below_drewN hB _⟩
set_option maxRecDepth 100000 in
set_option maxHeartbeats 4000000 in
theorem bo_any {e a b : Option Addr} {l n m f c d : Nat} {C : List (List Int)} {us vs : List Int} {w : World} (hl : C.length = l) (hn : us.length = n) (hm : vs.length = m) (hc : CRow w e C) (ha : ARow w a us) (hb : ARow w b vs) :
    Calls Try.prog 35 #[.slice e l f, .agg #[.slice a n c, .slice b m d]] w fun e w' => e = .returned (.bool (Hu.bothB C us vs)) ∧ Below w.heap.size w w' := by
  have HC := hide (hc.below (below_new w (.cells #[.slice a n c, .slice b m d] 27)))
  have HA := hide (ha.alloc (.cells #[.slice a n c, .slice b m d] 27))
  have HB := hide (hb.alloc (.cells #[.slice a n c, .slice b m d] 27))
  have HL := hide hl
  have HN := hide hn
  have HM := hide hm
  cases hg : Hu.costB C
  · have HG := hide hg
    rw [show Hu.bothB C us vs = false by simp [Hu.bothB, hg]]
    clear hc ha hb hn hm hl hg
    go_enter Try.func35, Try.ntmps35
    go_wp2_with fail
    refine (gc_eq HL HC HG).mono ?_
    rintro e w1 ⟨rfl, hw1⟩
    obtain rfl := hw1
    go_wp2_with fail
    go_ret
    exact ⟨rfl, below_new _ _⟩
  · have HG := hide hg
    cases hp : Hu.prB us vs
    · have HP := hide hp
      rw [show Hu.bothB C us vs = false by simp [Hu.bothB, hp]]
      clear hc ha hb hn hm hl hg hp
      go_enter Try.func35, Try.ntmps35
      go_wp2_with fail
      refine (gc_eq HL HC HG).mono ?_
      rintro e w1 ⟨rfl, hw1⟩
      obtain rfl := hw1
      go_wp2_with fail
      refine (arp_eq HN HM HA HB HP).mono ?_
      rintro e w1 ⟨rfl, hb1⟩
      have hB := (below_new w (.cells #[.slice a n c, .slice b m d] 27)).trans (hb1.mono (by simp))
      clear hb1
      go_wp2_with fail
      go_ret
      exact ⟨rfl, hB⟩
    · have HP := hide hp
      by_cases hnl : n = l
      · subst hnl
        have he : ((n : Int) == (n : Int)) = true := by simp
        rw [show Hu.bothB C us vs = true by simp [Hu.bothB, hg, hp, hn, hl]]
        clear hc ha hb hn hm hl hg hp
        go_enter Try.func35, Try.ntmps35
        go_wp2_with fail
        refine (gc_eq HL HC HG).mono ?_
        rintro e w1 ⟨rfl, hw1⟩
        obtain rfl := hw1
        go_wp2_with fail
        refine (arp_eq HN HM HA HB HP).mono ?_
        rintro e w1 ⟨rfl, hb1⟩
        have hB := (below_new w (.cells #[.slice a n c, .slice b m d] 27)).trans (hb1.mono (by simp))
        have c0 : w1.cell? ⟨w.heap.size, 0, none⟩ = some (.slice a n c) := (hb1.cell (p := ⟨w.heap.size, 0, none⟩) (by simp)).trans (by simp [go_sem])
        clear hb1
        go_wp2_with fail
        go_ret
        exact ⟨rfl, hB⟩
      · have he : ((n : Int) == (l : Int)) = false := by simp; omega
        rw [show Hu.bothB C us vs = false by simp [Hu.bothB, hg, hp, hn, hl, hnl]]
        clear hc ha hb hn hm hl hg hp hnl
        go_enter Try.func35, Try.ntmps35
        go_wp2_with fail
        refine (gc_eq HL HC HG).mono ?_
        rintro e w1 ⟨rfl, hw1⟩
        obtain rfl := hw1
        go_wp2_with fail
        refine (arp_eq HN HM HA HB HP).mono ?_
        rintro e w1 ⟨rfl, hb1⟩
        have hB := (below_new w (.cells #[.slice a n c, .slice b m d] 27)).trans (hb1.mono (by simp))
        have c0 : w1.cell? ⟨w.heap.size, 0, none⟩ = some (.slice a n c) := (hb1.cell (p := ⟨w.heap.size, 0, none⟩) (by simp)).trans (by simp [go_sem])
        clear hb1
        go_wp2_with fail
        go_ret
        exact ⟨rfl, hB⟩
theorem bo_eq {e a b : Option Addr} {l n m f c d : Nat} {C : List (List Int)} {us vs : List Int} {w : World} {r : Bool} (hl : Hid (C.length = l)) (hn : Hid (us.length = n)) (hm : Hid (vs.length = m)) (hc : Hid (CRow w e C)) (ha : Hid (ARow w a us)) (hb : Hid (ARow w b vs)) (hr : Hid (Hu.bothB C us vs = r)) :
    Calls Try.prog 35 #[.slice e l f, .agg #[.slice a n c, .slice b m d]] w fun e w' => e = .returned (.bool r) ∧ Below w.heap.size w w' := hr.out ▸ bo_any hl.out hn.out hm.out hc.out ha.out hb.out
set_option maxRecDepth 100000 in
set_option maxHeartbeats 4000000 in
theorem sarp_any {a b : Option Addr} {n m c d : Nat} {us vs : List Int} {w : World} (hn : us.length = n) (hm : vs.length = m) (ha : ARow w a us) (hb : ARow w b vs) :
    Calls Try.prog 46 #[.agg #[.slice a n c, .slice b m d]] w fun e w' => e = .returned (.bool (Hu.prB us vs)) ∧ Below w.heap.size w w' := by
  have HA := hide (ha.alloc (.cells #[.slice a n c, .slice b m d] 27))
  have HB := hide (hb.alloc (.cells #[.slice a n c, .slice b m d] 27))
  have HN := hide hn
  have HM := hide hm
  by_cases hnm : n = m
  · subst hnm
    have he : ((n : Int) == (n : Int)) = true := by simp
    by_cases h10 : n ≤ 10
    · have i10 : (n : Int) ≤ 10 := by omega
      cases hp : Pf.allB us (-100000) 100000
      · have HP := hide hp
        rw [prB_a hp]
        clear ha hb hn hm hp
        go_enter Try.func46, Try.ntmps46
        go_wp2_with fail
        refine (all9_eqn HA HN (by omega) HP).mono ?_
        rintro e w1 ⟨rfl, hw1⟩
        obtain rfl := hw1
        go_wp2_with fail
        go_ret
        exact ⟨rfl, below_new _ _⟩
      · cases hq : Pf.allB vs (-100000) 100000
        · have HP := hide hp
          have HQ := hide hq
          rw [prB_b hq]
          clear ha hb hn hm hp hq
          go_enter Try.func46, Try.ntmps46
          go_wp2_with fail
          refine (all9_eqn HA HN (by omega) HP).mono ?_
          rintro e w1 ⟨rfl, hw1⟩
          obtain rfl := hw1
          go_wp2_with fail
          refine (all9_eqn HB HM (by omega) HQ).mono ?_
          rintro e w1 ⟨rfl, hw1⟩
          obtain rfl := hw1
          go_wp2_with fail
          go_ret
          exact ⟨rfl, below_new _ _⟩
        · have HP := hide hp
          have HQ := hide hq
          rw [prB_of (hn.trans hm.symm) (by rw [hn]; exact h10) hp hq]
          clear ha hb hn hm hp hq
          go_enter Try.func46, Try.ntmps46
          go_wp2_with fail
          refine (all9_eqn HA HN (by omega) HP).mono ?_
          rintro e w1 ⟨rfl, hw1⟩
          obtain rfl := hw1
          go_wp2_with fail
          refine (all9_eqn HB HM (by omega) HQ).mono ?_
          rintro e w1 ⟨rfl, hw1⟩
          obtain rfl := hw1
          go_wp2_with fail
          go_ret
          exact ⟨rfl, below_new _ _⟩
    · have i10 : ¬ (n : Int) ≤ 10 := by omega
      rw [prB_many (by rw [hn]; exact h10)]
      clear ha hb hn hm
      go_enter Try.func46, Try.ntmps46
      go_wp2_with fail
      go_ret
      exact ⟨rfl, below_new _ _⟩
  · have he : ((n : Int) == (m : Int)) = false := by simp; omega
    rw [prB_ne (by rw [hn, hm]; exact hnm)]
    clear ha hb hn hm hnm
    go_enter Try.func46, Try.ntmps46
    go_wp2_with fail
    go_ret
    exact ⟨rfl, below_new _ _⟩
theorem sarp_eq {a b : Option Addr} {n m c d : Nat} {us vs : List Int} {w : World} {r : Bool} (hn : Hid (us.length = n)) (hm : Hid (vs.length = m)) (ha : Hid (ARow w a us)) (hb : Hid (ARow w b vs)) (hr : Hid (Hu.prB us vs = r)) :
    Calls Try.prog 46 #[.agg #[.slice a n c, .slice b m d]] w fun e w' => e = .returned (.bool r) ∧ Below w.heap.size w w' := hr.out ▸ sarp_any hn.out hm.out ha.out hb.out
set_option maxRecDepth 100000 in
set_option maxHeartbeats 4000000 in
theorem sps_w {a b : Option Addr} {n m c d : Nat} {us vs : List Int} {w : World} (hn : us.length = n) (hm : vs.length = m) (ha : ARow w a us) (hb : ARow w b vs) :
    Calls Try.prog 19 #[.agg #[.slice a n c, .slice b m d]] w fun e w' => e = .returned (.tuple #[.int .i64 (Hu.psI us vs), .bool (Hu.prB us vs)]) ∧ Below w.heap.size w w' := by
  have HA := hide (ha.alloc (.cells #[.slice a n c, .slice b m d] 27))
  have HB := hide (hb.alloc (.cells #[.slice a n c, .slice b m d] 27))
  have HN := hide hn
  have HM := hide hm
  cases hg : Hu.prB us vs
  · have HG := hide hg
    rw [show Hu.psI us vs = 0 by simp [Hu.psI, hg]]
    clear ha hb hn hm hg
    go_enter Try.func19, Try.ntmps19
    go_wp2_with fail
    refine (sarp_eq HN HM HA HB HG).mono ?_
    rintro e w1 ⟨rfl, hb1⟩
    go_wp2_with fail
    go_ret2
    exact ⟨rfl, (below_new _ _).trans (hb1.mono (by simp))⟩
  · have HG := hide hg
    obtain ⟨g1, g2, g3, g4⟩ := Hu.prB_yes hg
    have s1 := sum9_bd g3 g2
    have s2 := sum9_bd g4 (by omega)
    have HS1 := hide fun (W : World) (r : ARow W a us) => sisum_any (c := c) r (by omega) (allB_wider g3)
    have HS2 := hide fun (W : World) (r : ARow W b vs) => sisum_any (c := d) r (by omega) (allB_wider g4)
    rw [show Hu.psI us vs = us.sum + vs.sum by simp [Hu.psI, hg]]
    rw [hn] at HS1
    rw [hm] at HS2
    generalize us.sum = X at *
    generalize vs.sum = Y at *
    have w1 : IntKind.i64.wrap (X + Y) = X + Y := by rw [IntKind.wrap_i64]; omega
    clear ha hb hg g1 g2 g3 g4 hn hm
    go_enter Try.func19, Try.ntmps19
    go_wp2_with fail
    refine (sarp_eq HN HM HA HB HG).mono ?_
    rintro e w1 ⟨rfl, hb1⟩
    have c0 : w1.cell? ⟨w.heap.size, 0, none⟩ = some (.slice a n c) := (hb1.cell (p := ⟨w.heap.size, 0, none⟩) (by simp)).trans (by simp [go_sem])
    have c1 : w1.cell? ⟨w.heap.size, 1, none⟩ = some (.slice b m d) := (hb1.cell (p := ⟨w.heap.size, 1, none⟩) (by simp)).trans (by simp [go_sem])
    have HA1 := hide (HA.out.below hb1)
    have HB1 := hide (HB.out.below hb1)
    have hB := (below_new w (.cells #[.slice a n c, .slice b m d] 27)).trans (hb1.mono (by simp))
    clear hb1 HA HB
    go_wp2_with fail
    go_quiet (first
      | (go_at_call_of 47 (Value.slice a n c); exact Calls.quiet_of_same (HS1.out _ HA1.out))
      | (go_at_call_of 47 (Value.slice b m d); exact Calls.quiet_of_same (HS2.out _ HB1.out)))
    go_wp2_with fail
    go_ret2
    exact ⟨rfl, below_drewN hB _⟩
set_option maxRecDepth 100000 in
set_option maxHeartbeats 4000000 in
theorem sbo_any {e a b : Option Addr} {l n m f c d : Nat} {C : List (List Int)} {us vs : List Int} {w : World} (hl : C.length = l) (hn1 : l ≤ 1048576) (hn : us.length = n) (hm : vs.length = m) (hc : CRow w e C) (ha : ARow w a us) (hb : ARow w b vs) :
    Calls Try.prog 45 #[.slice e l f, .agg #[.slice a n c, .slice b m d]] w fun e w' => e = .returned (.bool (Hu.bothB C us vs)) ∧ Below w.heap.size w w' := by
  have HC := hide (hc.below (below_new w (.cells #[.slice a n c, .slice b m d] 27)))
  have HA := hide (ha.alloc (.cells #[.slice a n c, .slice b m d] 27))
  have HB := hide (hb.alloc (.cells #[.slice a n c, .slice b m d] 27))
  have HL := hide hl
  have HN := hide hn
  have HM := hide hm
  cases hg : Hu.costB C
  · have HG := hide hg
    rw [show Hu.bothB C us vs = false by simp [Hu.bothB, hg]]
    clear hc ha hb hn hm hl hg
    go_enter Try.func45, Try.ntmps45
    go_wp2_with fail
    refine (sgc_eq HL hn1 HC HG).mono ?_
    rintro e w1 ⟨rfl, hw1⟩
    obtain rfl := hw1
    go_wp2_with fail
    go_ret
    exact ⟨rfl, below_new _ _⟩
  · have HG := hide hg
    cases hp : Hu.prB us vs
    · have HP := hide hp
      rw [show Hu.bothB C us vs = false by simp [Hu.bothB, hp]]
      clear hc ha hb hn hm hl hg hp
      go_enter Try.func45, Try.ntmps45
      go_wp2_with fail
      refine (sgc_eq HL hn1 HC HG).mono ?_
      rintro e w1 ⟨rfl, hw1⟩
      obtain rfl := hw1
      go_wp2_with fail
      refine (sarp_eq HN HM HA HB HP).mono ?_
      rintro e w1 ⟨rfl, hb1⟩
      have hB := (below_new w (.cells #[.slice a n c, .slice b m d] 27)).trans (hb1.mono (by simp))
      clear hb1
      go_wp2_with fail
      go_ret
      exact ⟨rfl, hB⟩
    · have HP := hide hp
      by_cases hnl : n = l
      · subst hnl
        have he : ((n : Int) == (n : Int)) = true := by simp
        rw [show Hu.bothB C us vs = true by simp [Hu.bothB, hg, hp, hn, hl]]
        clear hc ha hb hn hm hl hg hp
        go_enter Try.func45, Try.ntmps45
        go_wp2_with fail
        refine (sgc_eq HL hn1 HC HG).mono ?_
        rintro e w1 ⟨rfl, hw1⟩
        obtain rfl := hw1
        go_wp2_with fail
        refine (sarp_eq HN HM HA HB HP).mono ?_
        rintro e w1 ⟨rfl, hb1⟩
        have hB := (below_new w (.cells #[.slice a n c, .slice b m d] 27)).trans (hb1.mono (by simp))
        have c0 : w1.cell? ⟨w.heap.size, 0, none⟩ = some (.slice a n c) := (hb1.cell (p := ⟨w.heap.size, 0, none⟩) (by simp)).trans (by simp [go_sem])
        clear hb1
        go_wp2_with fail
        go_ret
        exact ⟨rfl, hB⟩
      · have he : ((n : Int) == (l : Int)) = false := by simp; omega
        rw [show Hu.bothB C us vs = false by simp [Hu.bothB, hg, hp, hn, hl, hnl]]
        clear hc ha hb hn hm hl hg hp hnl
        go_enter Try.func45, Try.ntmps45
        go_wp2_with fail
        refine (sgc_eq HL hn1 HC HG).mono ?_
        rintro e w1 ⟨rfl, hw1⟩
        obtain rfl := hw1
        go_wp2_with fail
        refine (sarp_eq HN HM HA HB HP).mono ?_
        rintro e w1 ⟨rfl, hb1⟩
        have hB := (below_new w (.cells #[.slice a n c, .slice b m d] 27)).trans (hb1.mono (by simp))
        have c0 : w1.cell? ⟨w.heap.size, 0, none⟩ = some (.slice a n c) := (hb1.cell (p := ⟨w.heap.size, 0, none⟩) (by simp)).trans (by simp [go_sem])
        clear hb1
        go_wp2_with fail
        go_ret
        exact ⟨rfl, hB⟩
theorem sbo_eq {e a b : Option Addr} {l n m f c d : Nat} {C : List (List Int)} {us vs : List Int} {w : World} {r : Bool} (hl : Hid (C.length = l)) (hn1 : l ≤ 1048576) (hn : Hid (us.length = n)) (hm : Hid (vs.length = m)) (hc : Hid (CRow w e C)) (ha : Hid (ARow w a us)) (hb : Hid (ARow w b vs)) (hr : Hid (Hu.bothB C us vs = r)) :
    Calls Try.prog 45 #[.slice e l f, .agg #[.slice a n c, .slice b m d]] w fun e w' => e = .returned (.bool r) ∧ Below w.heap.size w w' := hr.out ▸ sbo_any hl.out hn1 hn.out hm.out hc.out ha.out hb.out
end Go.Proofs.Ytkebaklmkidfoaa
namespace Go.Proofs.Ytkebaklmkidfoaa
open Go.RowKit

theorem q_val {P : Program} {ops : Array Oper} {C : World → Prop} {Q : Act → Prop} {a : Act} {o : Oper} {rest : List Oper} (hgd : o.guard = none) (v : Value) (h : ∀ w, C w → (execOp a.eval o).run P w = .ok (.value v) w) (hk : wpQuiet P ops C Q rest (a.put o.dst v)) : wpQuiet P ops C Q (o :: rest) a :=
  wpQuiet_step fun K hK => by
    rw [if_pos (by simp [Region.wanted, hgd])]
    exact ⟨v, fun w hw => by unfold Oper.quietAt; rw [h w hw]; exact ⟨rfl, rfl⟩, hK _ hk⟩
theorem q_call {P : Program} {ops : Array Oper} {C : World → Prop} {Q : Act → Prop} {a : Act} {o : Oper} {rest : List Oper} (hgd : o.guard = none) (f : FuncId) (args : Array Value) (v : Value) (hr : ∀ w, (execOp a.eval o).run P w = .ok (.enter f args) w)
    (h : ∀ w, C w → Calls P f args w fun e w' => e = .returned v ∧ C w') (hk : wpQuiet P ops C Q rest (a.put o.dst v)) : wpQuiet P ops C Q (o :: rest) a :=
  wpQuiet_step fun K hK => by
    rw [if_pos (by simp [Region.wanted, hgd])]
    exact ⟨v, fun w hw => by unfold Oper.quietAt; rw [hr w]; exact ⟨rfl, h w hw⟩, hK _ hk⟩
theorem q_move {P : Program} {ops : Array Oper} {C : World → Prop} {Q : Act → Prop} {a : Act} {o : Oper} {rest : List Oper} (hgd : o.guard = none) (x : Operand) (ho : o.op = .move x) (v : Value) (hv : a.eval x = v) (hk : wpQuiet P ops C Q rest (a.put o.dst v)) : wpQuiet P ops C Q (o :: rest) a :=
  q_val hgd v (fun w _ => by unfold execOp; simp only [ho, hv]; rfl) hk
theorem q_assign {P : Program} {ops : Array Oper} {C : World → Prop} {Q : Act → Prop} {a : Act} {o : Oper} {rest : List Oper} (hgd : o.guard = none) (x : Operand) (ho : o.op = .assign x) (v : Value) (hv : a.eval x = v) (hk : wpQuiet P ops C Q rest (a.put o.dst v)) : wpQuiet P ops C Q (o :: rest) a :=
  q_val hgd v (fun w _ => by unfold execOp; simp only [ho, hv]; rfl) hk
theorem q_row {ops : Array Oper} {C : World → Prop} {Q : Act → Prop} {a : Act} {o : Oper} {rest : List Oper} {b : Nat} {xs : List Int} (hgd : o.guard = none) (x : Operand) (ho : o.op = .load 63 x) (hx : a.eval x = .pointer (some ⟨b, 0, none⟩)) (h : ∀ w, C w → R10 w b xs)
    (hk : wpQuiet Try.prog ops C Q rest (a.put o.dst (.agg (tv xs)))) : wpQuiet Try.prog ops C Q (o :: rest) a :=
  q_val hgd _ (fun w hw => by
    unfold execOp
    simp only [ho, hx, Sem.run_bind, (h w hw).loads, Result.andThen_ok, Sem.run_pure]) hk
theorem q_neqrow {ops : Array Oper} {C : World → Prop} {Q : Act → Prop} {a : Act} {o : Oper} {rest : List Oper} {xs ys : List Int} {t' : TypeId} {r : Bool} (hgd : o.guard = none) (x y : Operand) (ho : o.op = .binOp .neq 63 x y t') (hx : a.eval x = .agg (tv xs)) (hy : a.eval y = .agg (tv ys)) (h1 : xs.length = 10) (h2 : ys.length = 10)
    (hr : ((List.range 10).all fun i => xs.getD i 0 == ys.getD i 0) = r) (hk : wpQuiet Try.prog ops C Q rest (a.put o.dst (.bool (!r)))) : wpQuiet Try.prog ops C Q (o :: rest) a :=
  q_val hgd _ (fun w _ => by
    unfold execOp
    simp only [ho, hx, hy, Sem.run_bind, neqg_tv, neq_tv xs ys w h1 h2 hr, Result.andThen_ok, Sem.run_pure]) hk
theorem enter_value {P : Program} {a : Act} {o : Oper} (f : FuncId) (xs : Array Operand) (ts : Array TypeId) (ho : o.op = .call { callee := .value (.func f), args := xs, argTypes := ts }) (args : Array Value) (ha : xs.map a.eval = args) (hf : ∀ args w, (callFunc f args).run P w = .ok (.enter f args) w) (w : World) : (execOp a.eval o).run P w = .ok (.enter f args) w := by
  unfold execOp
  simp [ho, resolve, ha, invoke, Deferred.ofValue, Act.eval, hf]
theorem below_in {w w1 w2 : World} (h : Below w.heap.size w w1) (hb : Below w1.heap.size w1 w2) : Below w.heap.size w w2 := h.trans (hb.mono h.size)
set_option maxRecDepth 100000 in
set_option maxHeartbeats 4000000 in
theorem ph_yes {e a b : Option Addr} {l f c d : Nat} {C : List (List Int)} {us vs : List Int} {w : World} (hg : Hu.bothB C us vs = true) (hl : C.length = l) (hn : us.length = l) (hm : vs.length = l) (hc : CRow w e C) (ha : ARow w a us) (hb : ARow w b vs) :
    Calls Try.prog 13 #[.slice e l f, .agg #[.slice a l c, .slice b l d]] w fun e w' => e = .returned (.tuple #[.bool (Hu.holdB C us vs), .bool true]) ∧ Below w.heap.size w w' := by
  obtain ⟨g1, g2, g3⟩ := Hu.bothB_yes hg
  obtain ⟨g4, g5, g6, g7⟩ := Hu.prB_yes g2
  have gl := Hu.costB_len g1
  rw [hl] at gl
  obtain ⟨l1, l10⟩ := gl
  have bn := below_new w (.cells #[.slice a l c, .slice b l d] 27)
  have HC := hide (hc.below bn)
  have HA := hide (ha.below bn)
  have HB := hide (hb.below bn)
  have HL := hide hl
  have HN := hide hn
  have HM := hide hm
  have HG := hide hg
  have HBP := hide fun (W : World) (i : Nat) (hi : i < l) (r1 : ARow W a us) (r2 : ARow W b vs) => bp_any (c := c) (d := d) hn hm l1 l10 hi g6 g7 r1 r2
  have HCL := hide fun (i : Nat) (hi : i < l) => (Hu.costB_row g1 (show i < C.length by rw [hl]; exact hi)).1.trans hl
  have HRS := hide fun (i : Nat) (hi : i < l) => Hu.row_same hg (show i < C.length by rw [hl]; exact hi)
  have HNO : Hid (∀ i, i < l → Hu.rowHold C us vs i = false → Hu.holdB C us vs = false) := hide fun i hi h => by
    cases e : Hu.holdB C us vs
    · rfl
    · rw [Hu.holdB_rows, List.all_eq_true] at e
      rw [e i (List.mem_range.2 (by omega))] at h; cases h
  have HYES : Hid ((∀ i, i < l → Hu.rowHold C us vs i = true) → Hu.holdB C us vs = true) := hide fun h => by
    rw [Hu.holdB_rows, List.all_eq_true]
    intro i hi
    exact h i (by have := List.mem_range.1 hi; omega)
  have eRo : ∀ args w, (callFunc 38 args).run Try.prog w = .ok (.enter 38 args) w := enters_of Try.func38 (by kernel_rfl) rfl
  have eLe : ∀ args w, (callFunc 37 args).run Try.prog w = .ok (.enter 37 args) w := enters_of Try.func37 (by kernel_rfl) rfl
  have ERo := hide eRo
  have ELe := hide eLe
  generalize Hu.holdB C us vs = G at *
  clear hc ha hb hl hn hm hg g1 g2 g3 g4 g5 g6 g7 bn eRo eLe
  go_enter Try.func13, Try.ntmps13
  go_wp2_with fail
  refine (bo_eq HL HN HM HC HA HB HG).mono ?_
  rintro e w1 ⟨rfl, hb1⟩
  have HB1 := hide ((below_new w (.cells #[.slice a l c, .slice b l d] 27)).trans (hb1.mono (by simp)))
  have HP1 := hide ((PBox.new w (.slice a l c) (.slice b l d) 27).below hb1)
  have HC1 := hide (HC.out.below hb1)
  have HA1 := hide (HA.out.below hb1)
  have HV1 := hide (HB.out.below hb1)
  clear hb1 HC HA HB
  go_wp2_with fail
  go_loopw [4, 5, 6, 7, 8, 15] (fun s4 s5 _ _ _ s wr => ∃ (k : Nat), s4 = .bool false ∧ s5 = .bool false ∧ s = .int .i64 k ∧ k ≤ l ∧ Hid (∀ i, i < k → Hu.rowHold C us vs i = true) ∧ Hid (Below w1.heap.size w1 wr)) (fun _ _ _ _ _ s _ => l - (intOf s).toNat)
  case atStart => exact ⟨0, rfl, rfl, rfl, Nat.zero_le _, hide fun i hi => absurd hi (Nat.not_lt_zero _), hide (Below.refl _ _)⟩
  case round =>
    obtain ⟨k, rfl, rfl, rfl, hk, HK, HBr⟩ := hrel
    by_cases hlt : k < l
    · obtain ⟨b1, off, ai, ci, rfl, hb, r1, R1⟩ := (HC1.out.below HBr.out).at (i := k) (by rw [HL.out]; exact hlt)
      have HR := hide R1
      have HCk := hide (HCL.out k hlt)
      rw [HCL.out k hlt] at r1
      obtain ⟨p0, p1, p2⟩ := HP1.out.below HBr.out
      have j0 : (0 : Int) ≤ (k : Int) := by omega
      have j1 : (k : Int) < (l : Int) := by omega
      clear R1
      go_wp2_with fail
      refine (HBP.out _ k hlt (HA1.out.below HBr.out) (HV1.out.below HBr.out)).mono ?_
      rintro e w2 ⟨rfl, hb2⟩
      have HB2 := hide hb2
      clear hb2
      go_wp2_with (refine wr_store rfl _ _ rfl rfl rfl (hide (z10_new _ _)) (Hu.bothR_len _ _ _) ?_; intro w3 A3 T3)
      have hb3 := (below_new w2 _).trans (T3.2.1 _ (Nat.le_refl _))
      have HB3 := hide (below_in HB2.out hb3)
      have HA3 := hide A3
      clear A3 T3 hb3
      have HCR : Hid (∀ w', Below w3.heap.size w3 w' → Calls Try.prog 38 #[.slice ai l ci] w' fun e w'' => e = .returned (.agg (tv (Hu.pad (C.getD k [])))) ∧ Below w3.heap.size w3 w'') := hide fun w' hw' => (ro_any HCk.out l1 l10 (HR.out.below (below_in HB3.out hw'))).mono fun e w'' h => ⟨h.1, below_in hw' h.2⟩
      have HCL2 : Hid (∀ w', Below w3.heap.size w3 w' → Calls Try.prog 37 #[.agg (tv (Hu.bothR us vs k)), .agg (tv (Hu.pad (C.getD k [])))] w' fun e w'' => e = .returned (.agg (tv (Hu.minR (Hu.bothR us vs k) (Hu.pad (C.getD k []))))) ∧ Below w3.heap.size w3 w'') := hide fun w' hw' => (le_any (Hu.bothR_len _ _ _) (Hu.pad_len _)).mono fun e w'' h => ⟨h.1, below_in hw' h.2⟩
      have HCA : Hid (∀ w', Below w3.heap.size w3 w' → R10 w' w2.heap.size (Hu.bothR us vs k)) := hide fun w' hw' => HA3.out.below hw'
      cases hrh : Hu.rowHold C us vs k
      · have HRH := hide ((HRS.out k hlt).trans hrh)
        have HN1 := hide (HNO.out k hlt hrh)
        clear hrh
        refine wp_region_quiet (C := fun w' => Below w3.heap.size w3 w') (by kernel_rfl) (by kernel_rfl) ((Below.refl _ _).drew) ?_
        refine q_row rfl _ rfl (by simp [go_sem]) HCA.out ?_
        refine q_move rfl _ rfl (.slice ai l ci) (by simp [go_sem]) ?_
        refine q_call rfl 38 #[.slice ai l ci] _ (enter_value _ _ _ rfl _ (by simp [go_sem]) ERo.out) HCR.out ?_
        refine q_call rfl 37 #[.agg (tv (Hu.bothR us vs k)), .agg (tv (Hu.pad (C.getD k [])))] _ (enter_value _ _ _ rfl _ (by simp [go_sem]) ELe.out) HCL2.out ?_
        refine q_row rfl _ rfl (by simp [go_sem]) HCA.out ?_
        refine q_neqrow rfl _ _ rfl (by simp [go_sem]) (by simp [go_sem]) (Hu.minR_len _ _) (Hu.bothR_len _ _ _) HRH.out ?_
        refine wpQuiet_nil ?_
        intro w4 hb4
        have HB4 := hide (HB1.out.trans ((below_in HBr.out (below_in HB3.out hb4)).mono HB1.out.size))
        clear hb4
        go_simp
        go_wp2_with fail
        go_ret2
        exact ⟨congrArg (fun z => Ending.returned (.tuple #[.bool z, .bool true])) HN1.out.symm, HB4.out⟩
      · have HRH := hide ((HRS.out k hlt).trans hrh)
        have HK1 : Hid (∀ i, i < k + 1 → Hu.rowHold C us vs i = true) := hide fun i hi => by
          by_cases e : i = k
          · subst e; exact hrh
          · exact HK.out i (by omega)
        clear hrh
        refine wp_region_quiet (C := fun w' => Below w3.heap.size w3 w') (by kernel_rfl) (by kernel_rfl) ((Below.refl _ _).drew) ?_
        refine q_row rfl _ rfl (by simp [go_sem]) HCA.out ?_
        refine q_move rfl _ rfl (.slice ai l ci) (by simp [go_sem]) ?_
        refine q_call rfl 38 #[.slice ai l ci] _ (enter_value _ _ _ rfl _ (by simp [go_sem]) ERo.out) HCR.out ?_
        refine q_call rfl 37 #[.agg (tv (Hu.bothR us vs k)), .agg (tv (Hu.pad (C.getD k [])))] _ (enter_value _ _ _ rfl _ (by simp [go_sem]) ELe.out) HCL2.out ?_
        refine q_row rfl _ rfl (by simp [go_sem]) HCA.out ?_
        refine q_neqrow rfl _ _ rfl (by simp [go_sem]) (by simp [go_sem]) (Hu.minR_len _ _) (Hu.bothR_len _ _ _) HRH.out ?_
        refine wpQuiet_nil ?_
        intro w4 hb4
        have HB4 := hide (below_in HBr.out (below_in HB3.out hb4))
        clear hb4
        go_simp
        go_wp2_with fail
        go_roundw
        case rel => exact ⟨k + 1, rfl, rfl, by go_num, by omega, HK1, HB4⟩
        case measure => simp only [intOf]; omega
    · have hke : k = l := by omega
      subst hke
      have HY := hide (HYES.out HK.out)
      have HB4 := hide (HB1.out.trans (HBr.out.mono HB1.out.size))
      go_wp2_with fail
      go_ret2
      exact ⟨congrArg (fun z => Ending.returned (.tuple #[.bool z, .bool true])) HY.out.symm, HB4.out⟩
set_option maxRecDepth 100000 in
set_option maxHeartbeats 2000000 in
theorem ph_no {e a b : Option Addr} {l n m f c d : Nat} {C : List (List Int)} {us vs : List Int} {w : World} (hg : Hu.bothB C us vs = false) (hl : C.length = l) (hn : us.length = n) (hm : vs.length = m) (hc : CRow w e C) (ha : ARow w a us) (hb : ARow w b vs) :
    Calls Try.prog 13 #[.slice e l f, .agg #[.slice a n c, .slice b m d]] w fun e w' => e = .returned (.tuple #[.bool false, .bool false]) ∧ Below w.heap.size w w' := by
  have bn := below_new w (.cells #[.slice a n c, .slice b m d] 27)
  have HC := hide (hc.below bn)
  have HA := hide (ha.below bn)
  have HB := hide (hb.below bn)
  have HL := hide hl
  have HN := hide hn
  have HM := hide hm
  have HG := hide hg
  clear hc ha hb hl hn hm hg bn
  go_enter Try.func13, Try.ntmps13
  go_wp2_with fail
  refine (bo_eq HL HN HM HC HA HB HG).mono ?_
  rintro e w1 ⟨rfl, hb1⟩
  have HB1 := hide ((below_new w (.cells #[.slice a n c, .slice b m d] 27)).trans (hb1.mono (by simp)))
  clear hb1 HC HA HB
  go_wp2_with fail
  go_ret2
  exact ⟨rfl, HB1.out⟩
theorem ph_w {e a b : Option Addr} {l n m f c d : Nat} {C : List (List Int)} {us vs : List Int} {w : World} (hl : C.length = l) (hn : us.length = n) (hm : vs.length = m) (hc : CRow w e C) (ha : ARow w a us) (hb : ARow w b vs) :
    Calls Try.prog 13 #[.slice e l f, .agg #[.slice a n c, .slice b m d]] w fun e w' => e = .returned (.tuple #[.bool (Hu.phI C us vs), .bool (Hu.bothB C us vs)]) ∧ Below w.heap.size w w' := by
  unfold Hu.phI
  cases hg : Hu.bothB C us vs
  · exact ph_no hg hl hn hm hc ha hb
  · obtain ⟨g1, g2, g3⟩ := Hu.bothB_yes hg
    have g4 := (Hu.prB_yes g2).1
    obtain rfl : n = l := by omega
    obtain rfl : m = n := by omega
    exact ph_yes hg hl hn hm hc ha hb
set_option maxRecDepth 100000 in
set_option maxHeartbeats 4000000 in
theorem sph_yes {e a b : Option Addr} {l f c d : Nat} {C : List (List Int)} {us vs : List Int} {w : World} (hg : Hu.bothB C us vs = true) (hl : C.length = l) (hn : us.length = l) (hm : vs.length = l) (hc : CRow w e C) (ha : ARow w a us) (hb : ARow w b vs) :
    Calls Try.prog 18 #[.slice e l f, .agg #[.slice a l c, .slice b l d]] w fun e w' => e = .returned (.tuple #[.bool (Hu.holdB C us vs), .bool true]) ∧ Below w.heap.size w w' := by
  obtain ⟨g1, g2, g3⟩ := Hu.bothB_yes hg
  obtain ⟨g4, g5, g6, g7⟩ := Hu.prB_yes g2
  have gl := Hu.costB_len g1
  rw [hl] at gl
  obtain ⟨l1, l10⟩ := gl
  have bn := below_new w (.cells #[.slice a l c, .slice b l d] 27)
  have HC := hide (hc.below bn)
  have HA := hide (ha.below bn)
  have HB := hide (hb.below bn)
  have HL := hide hl
  have HN := hide hn
  have HM := hide hm
  have HG := hide hg
  have HBU := hide fun (i : Nat) (hi : i < l) => Pf.inB_yes (Pf.allB_get g6 (show i < us.length by omega))
  have HBV := hide fun (i : Nat) (hi : i < l) => Pf.inB_yes (Pf.allB_get g7 (show i < vs.length by omega))
  have HCL := hide fun (i : Nat) (hi : i < l) => (Hu.costB_row g1 (show i < C.length by rw [hl]; exact hi)).1.trans hl
  have HNO : Hid (∀ i, i < l → ∀ j, j < l → ¬ (us.getD i 0 + vs.getD j 0 ≤ (C.getD i []).getD j 0) → Hu.holdB C us vs = false) := hide fun i hi j hj h => by
    cases e : Hu.holdB C us vs
    · rfl
    · exact absurd (Hu.holdB_iff.1 e i (by omega) j (by omega)) h
  have HYES : Hid ((∀ i, i < l → ∀ j, j < l → us.getD i 0 + vs.getD j 0 ≤ (C.getD i []).getD j 0) → Hu.holdB C us vs = true) := hide fun h => Hu.holdB_iff.2 fun i hi j hj => h i (by omega) j (by omega)
  generalize Hu.holdB C us vs = G at *
  clear hc ha hb hl hn hm hg g1 g2 g3 g4 g5 g6 g7 bn
  go_enter Try.func18, Try.ntmps18
  go_wp2_with fail
  refine (sbo_eq HL (by omega) HN HM HC HA HB HG).mono ?_
  rintro e w1 ⟨rfl, hb1⟩
  have HB1 := hide ((below_new w (.cells #[.slice a l c, .slice b l d] 27)).trans (hb1.mono (by simp)))
  have HP1 := hide ((PBox.new w (.slice a l c) (.slice b l d) 27).below hb1)
  have HC1 := hide (HC.out.below hb1)
  have HA1 := hide (HA.out.below hb1)
  have HV1 := hide (HB.out.below hb1)
  clear hb1 HC HA HB
  go_wp2_with fail
  go_loopw [4, 5, 6, 7, 8, 9, 16] (fun s4 s5 _ _ _ _ s wr => ∃ (k q : Nat), s4 = .bool false ∧ s5 = .bool false ∧ s = .int .i64 k ∧ k ≤ l ∧ Hid (∀ i, i < k → ∀ j, j < l → us.getD i 0 + vs.getD j 0 ≤ (C.getD i []).getD j 0) ∧ wr = w1.drewN q) (fun _ _ _ _ _ _ s _ => l - (intOf s).toNat)
  case atStart => exact ⟨0, 0, rfl, rfl, rfl, Nat.zero_le _, hide fun i hi => absurd hi (Nat.not_lt_zero _), rfl⟩
  case round =>
    obtain ⟨k, q, rfl, rfl, rfl, hk, HK, rfl⟩ := hrel
    by_cases hlt : k < l
    · obtain ⟨b1, off, ai, ci, rfl, hb, r1, R1⟩ := HC1.out.at (i := k) (by rw [HL.out]; exact hlt)
      have HR := hide R1
      have HCk := hide (HCL.out k hlt)
      rw [HCL.out k hlt] at r1
      obtain ⟨p0, p1, p2⟩ := HP1.out
      obtain ⟨bu, ou, rfl, ru⟩ := HA1.out.at (i := k) (by rw [HN.out]; exact hlt)
      have bx := HBU.out k hlt
      have HKN := hide (HNO.out k hlt)
      have j0 : (0 : Int) ≤ (k : Int) := by omega
      have j1 : (k : Int) < (l : Int) := by omega
      generalize hx : us.getD k 0 = x at ru bx HKN
      have HX := hide hx
      clear R1 hx
      go_wp2_with fail
      go_loopw [4, 5, 8, 9, 23] (fun s4 s5 _ _ s wr => ∃ (j q : Nat), s4 = .bool false ∧ s5 = .bool false ∧ s = .int .i64 j ∧ j ≤ l ∧ Hid (∀ i, i < j → x + vs.getD i 0 ≤ (C.getD k []).getD i 0) ∧ wr = w1.drewN q) (fun _ _ _ _ s _ => l - (intOf s).toNat)
      case atStart => exact ⟨0, q, rfl, rfl, rfl, Nat.zero_le _, hide fun i hi => absurd hi (Nat.not_lt_zero _), rfl⟩
      case round =>
        obtain ⟨j, q2, rfl, rfl, rfl, hj, HJ, rfl⟩ := hrel
        by_cases hjl : j < l
        · obtain ⟨b3, o3, rfl, r3⟩ := HR.out.at (i := j) (by rw [HCk.out]; exact hjl)
          obtain ⟨b4, o4, rfl, r4⟩ := HV1.out.at (i := j) (by rw [HM.out]; exact hjl)
          have by1 := HBV.out j hjl
          have HKJ := hide (HKN.out j hjl)
          have HJJ := hide fun (h : x + vs.getD j 0 ≤ (C.getD k []).getD j 0) (i : Nat) (hi : i < j + 1) => (show x + vs.getD i 0 ≤ (C.getD k []).getD i 0 by
            by_cases e : i = j
            · subst e; exact h
            · exact HJ.out i (by omega))
          generalize vs.getD j 0 = y at r4 by1 HKJ HJJ
          generalize (C.getD k []).getD j 0 = z at r3 HKJ HJJ
          have t0 : (0 : Int) ≤ (j : Int) := by omega
          have t1 : (j : Int) < (l : Int) := by omega
          have ww : IntKind.i64.wrap (x + y) = x + y := by rw [IntKind.wrap_i64]; omega
          by_cases hle : x + y ≤ z
          · have hz : ¬ z < x + y := by omega
            have HJ2 := hide (HJJ.out hle)
            go_wp2_with fail
            go_quiet (fail)
            go_wp2_with fail
            go_roundw
            case rel => exact ⟨j + 1, _, rfl, rfl, by go_num, by omega, HJ2, rfl⟩
            case measure => simp only [intOf]; omega
          · have hz : z < x + y := by omega
            have HN2 := hide (HKJ.out hz)
            go_wp2_with fail
            go_quiet (fail)
            go_wp2_with fail
            go_ret2
            exact ⟨congrArg (fun z => Ending.returned (.tuple #[.bool z, .bool true])) HN2.out.symm, below_drewN (below_drewN HB1.out _) _⟩
        · have hje : j = l := by omega
          subst hje
          have HK1 : Hid (∀ i, i < k + 1 → ∀ t, t < j → us.getD i 0 + vs.getD t 0 ≤ (C.getD i []).getD t 0) := hide fun i hi t ht => by
            by_cases e : i = k
            · subst e; rw [HX.out]; exact HJ.out t ht
            · exact HK.out i (by omega) t ht
          go_wp2_with fail
          go_roundw
          case rel => exact ⟨k + 1, _, rfl, rfl, by go_num, by omega, HK1, rfl⟩
          case measure => simp only [intOf]; omega
    · have hke : k = l := by omega
      subst hke
      have HY := hide (HYES.out HK.out)
      go_wp2_with fail
      go_ret2
      exact ⟨congrArg (fun z => Ending.returned (.tuple #[.bool z, .bool true])) HY.out.symm, below_drewN HB1.out _⟩
set_option maxRecDepth 100000 in
set_option maxHeartbeats 2000000 in
theorem sph_no {e a b : Option Addr} {l n m f c d : Nat} {C : List (List Int)} {us vs : List Int} {w : World} (hg : Hu.bothB C us vs = false) (hl : C.length = l) (hl1 : l ≤ 1048576) (hn : us.length = n) (hm : vs.length = m) (hc : CRow w e C) (ha : ARow w a us) (hb : ARow w b vs) :
    Calls Try.prog 18 #[.slice e l f, .agg #[.slice a n c, .slice b m d]] w fun e w' => e = .returned (.tuple #[.bool false, .bool false]) ∧ Below w.heap.size w w' := by
  have bn := below_new w (.cells #[.slice a n c, .slice b m d] 27)
  have HC := hide (hc.below bn)
  have HA := hide (ha.below bn)
  have HB := hide (hb.below bn)
  have HL := hide hl
  have HN := hide hn
  have HM := hide hm
  have HG := hide hg
  clear hc ha hb hl hn hm hg bn
  go_enter Try.func18, Try.ntmps18
  go_wp2_with fail
  refine (sbo_eq HL hl1 HN HM HC HA HB HG).mono ?_
  rintro e w1 ⟨rfl, hb1⟩
  have HB1 := hide ((below_new w (.cells #[.slice a n c, .slice b m d] 27)).trans (hb1.mono (by simp)))
  clear hb1 HC HA HB
  go_wp2_with fail
  go_ret2
  exact ⟨rfl, HB1.out⟩
theorem sph_w {e a b : Option Addr} {l n m f c d : Nat} {C : List (List Int)} {us vs : List Int} {w : World} (hl : C.length = l) (hl1 : l ≤ 1048576) (hn : us.length = n) (hm : vs.length = m) (hc : CRow w e C) (ha : ARow w a us) (hb : ARow w b vs) :
    Calls Try.prog 18 #[.slice e l f, .agg #[.slice a n c, .slice b m d]] w fun e w' => e = .returned (.tuple #[.bool (Hu.phI C us vs), .bool (Hu.bothB C us vs)]) ∧ Below w.heap.size w w' := by
  unfold Hu.phI
  cases hg : Hu.bothB C us vs
  · exact sph_no hg hl hl1 hn hm hc ha hb
  · obtain ⟨g1, g2, g3⟩ := Hu.bothB_yes hg
    have g4 := (Hu.prB_yes g2).1
    obtain rfl : n = l := by omega
    obtain rfl : m = n := by omega
    exact sph_yes hg hl hn hm hc ha hb
end Go.Proofs.Ytkebaklmkidfoaa
namespace Go.Proofs.Ytkebaklmkidfoaa
open Go.RowKit

def sl9 (v0 v1 v2 : Value) (xs ys : List Int) : List Value := [v0, v1, v2] ++ (ints xs ++ ints ys)
theorem sl9_len {v0 v1 v2 : Value} {xs ys : List Int} (hx : xs.length = 10) (hy : ys.length = 10) : (sl9 v0 v1 v2 xs ys).length = 23 := by simp [sl9, ints_len, hx, hy]
theorem sl9_x {v0 v1 v2 : Value} {xs ys : List Int} {i : Nat} (hi : i < xs.length) : (sl9 v0 v1 v2 xs ys)[3 + i]? = some (.int .i64 (xs.getD i 0)) := by
  unfold sl9
  rw [List.getElem?_append_right (by simp), show 3 + i - [v0, v1, v2].length = i by simp, List.getElem?_append_left (by rw [ints_len]; exact hi), ints_get xs i hi]
theorem sl9_y {v0 v1 v2 : Value} {xs ys : List Int} {i : Nat} (hx : xs.length = 10) (hi : i < ys.length) : (sl9 v0 v1 v2 xs ys)[13 + i]? = some (.int .i64 (ys.getD i 0)) := by
  unfold sl9
  rw [List.getElem?_append_right (by simp; omega), List.getElem?_append_right (by rw [ints_len]; simp; omega), ints_len, hx, show 13 + i - [v0, v1, v2].length - 10 = i by simp; omega, ints_get ys i hi]
theorem sl9_setx {v0 v1 v2 : Value} {xs ys : List Int} {k : Nat} (x : Int) (hk : k < xs.length) : (sl9 v0 v1 v2 xs ys).set (3 + k) (.int .i64 x) = sl9 v0 v1 v2 (xs.set k x) ys := by
  unfold sl9
  rw [List.set_append_right _ _ (by simp), show 3 + k - [v0, v1, v2].length = k by simp, List.set_append_left _ _ (by rw [ints_len]; exact hk), ints_set]
theorem sl9_sety {v0 v1 v2 : Value} {xs ys : List Int} {k : Nat} (y : Int) (hx : xs.length = 10) : (sl9 v0 v1 v2 xs ys).set (13 + k) (.int .i64 y) = sl9 v0 v1 v2 xs (ys.set k y) := by
  unfold sl9
  rw [List.set_append_right _ _ (by simp; omega), List.set_append_right _ _ (by rw [ints_len]; simp; omega), ints_len, hx, show 13 + k - [v0, v1, v2].length - 10 = k by simp; omega, ints_set]
theorem infS9 : (Try.prog.info? 79).map (·.size) = some 23 := by kernel_rfl
/-- A search in a variable of its own. -/
structure SV (w : World) (b : Nat) (v0 v1 v2 : Value) (xs ys : List Int) : Prop where
  lx : xs.length = 10
  ly : ys.length = 10
  lt : b < w.heap.size
  cs : ∀ i, i < 23 → w.cell? ⟨b, i, none⟩ = (sl9 v0 v1 v2 xs ys)[i]?
  fz : ∀ i, i < 23 → w.frozen? ⟨b, i, none⟩ = false
  o0 : v0.oneCell' = true
  o1 : v1.oneCell' = true
  o2 : v2.oneCell' = true
theorem SV.new (w : World) {v0 v1 v2 : Value} {xs ys : List Int} (hx : xs.length = 10) (hy : ys.length = 10) (h0 : v0.oneCell' = true) (h1 : v1.oneCell' = true) (h2 : v2.oneCell' = true) (t : TypeId) : SV (w.alloc (.cells (sl9 v0 v1 v2 xs ys).toArray t)) w.heap.size v0 v1 v2 xs ys := by
  have h := heap_alloc_last w (.cells (sl9 v0 v1 v2 xs ys).toArray t)
  refine ⟨hx, hy, by simp, fun i hi => ?_, fun i hi => by unfold World.frozen?; rw [h]; simp, h0, h1, h2⟩
  rw [cell_of_row _ _ _ _ _ _ h]
  simp
theorem SV.keep {w w' : World} {b : Nat} {v0 v1 v2 : Value} {xs ys : List Int} (h : SV w b v0 v1 v2 xs ys) (hs : w.heap.size ≤ w'.heap.size) (hb : w'.heap[b]? = w.heap[b]?) : SV w' b v0 v1 v2 xs ys :=
  ⟨h.lx, h.ly, Nat.lt_of_lt_of_le h.lt hs, fun i hi => (World.cell?_of_block (w := w) (a := ⟨b, i, none⟩) hb).trans (h.cs i hi), fun i hi => (World.frozen?_of_block (w := w) (a := ⟨b, i, none⟩) hb).trans (h.fz i hi), h.o0, h.o1, h.o2⟩
theorem SV.below {w w' : World} {b : Nat} {v0 v1 v2 : Value} {xs ys : List Int} (h : SV w b v0 v1 v2 xs ys) (hb : Below w.heap.size w w') : SV w' b v0 v1 v2 xs ys := h.keep hb.size (hb.block b h.lt)
theorem SV.c0 {w : World} {b : Nat} {v0 v1 v2 : Value} {xs ys : List Int} (h : SV w b v0 v1 v2 xs ys) : w.cell? ⟨b, 0, none⟩ = some v0 := h.cs 0 (by omega)
theorem SV.c1 {w : World} {b : Nat} {v0 v1 v2 : Value} {xs ys : List Int} (h : SV w b v0 v1 v2 xs ys) : w.cell? ⟨b, 1, none⟩ = some v1 := h.cs 1 (by omega)
theorem SV.c2 {w : World} {b : Nat} {v0 v1 v2 : Value} {xs ys : List Int} (h : SV w b v0 v1 v2 xs ys) : w.cell? ⟨b, 2, none⟩ = some v2 := h.cs 2 (by omega)
theorem SV.x {w : World} {b : Nat} {v0 v1 v2 : Value} {xs ys : List Int} (h : SV w b v0 v1 v2 xs ys) {i : Nat} (hi : i < 10) : w.cell? ⟨b, 3 + i, none⟩ = some (.int .i64 (xs.getD i 0)) := by
  rw [h.cs (3 + i) (by omega), sl9_x (by rw [h.lx]; exact hi)]
theorem SV.y {w : World} {b : Nat} {v0 v1 v2 : Value} {xs ys : List Int} (h : SV w b v0 v1 v2 xs ys) {i : Nat} (hi : i < 10) : w.cell? ⟨b, 13 + i, none⟩ = some (.int .i64 (ys.getD i 0)) := by
  rw [h.cs (13 + i) (by omega), sl9_y h.lx (by rw [h.ly]; exact hi)]
theorem set_cells {w : World} {b k : Nat} {l : List Value} (v : Value) (hl : k < l.length) (h : ∀ i, i < l.length → w.cell? ⟨b, i, none⟩ = l[i]?) : ∀ i, i < l.length → (w.setCell ⟨b, k, none⟩ v).cell? ⟨b, i, none⟩ = (l.set k v)[i]? := by
  intro i hi
  by_cases e : i = k
  · subst e
    rw [List.getElem?_set_self hl]
    exact World.cell?_setCell_same _ _ _ ((h i hi).trans (List.getElem?_eq_getElem hi))
  · rw [List.getElem?_set_ne (Ne.symm e), World.cell?_setCell_other _ _ _ _ (by intro h; cases h; exact e rfl)]
    exact h i hi
theorem SV.setx {w : World} {b : Nat} {v0 v1 v2 : Value} {xs ys : List Int} (h : SV w b v0 v1 v2 xs ys) {k : Nat} (hk : k < 10) (x : Int) : SV (w.setCell ⟨b, 3 + k, none⟩ (.int .i64 x)) b v0 v1 v2 (xs.set k x) ys := by
  have hl := sl9_len (v0 := v0) (v1 := v1) (v2 := v2) h.lx h.ly
  have := set_cells (.int .i64 x) (k := 3 + k) (by rw [hl]; omega) (fun i hi => h.cs i (by rw [← hl]; exact hi))
  rw [sl9_setx x (by rw [h.lx]; exact hk), hl] at this
  exact ⟨by simpa using h.lx, h.ly, by simpa using h.lt, this, fun i hi => by simpa using h.fz i hi, h.o0, h.o1, h.o2⟩
theorem SV.sety {w : World} {b : Nat} {v0 v1 v2 : Value} {xs ys : List Int} (h : SV w b v0 v1 v2 xs ys) {k : Nat} (hk : k < 10) (y : Int) : SV (w.setCell ⟨b, 13 + k, none⟩ (.int .i64 y)) b v0 v1 v2 xs (ys.set k y) := by
  have hl := sl9_len (v0 := v0) (v1 := v1) (v2 := v2) h.lx h.ly
  have := set_cells (.int .i64 y) (k := 13 + k) (by rw [hl]; omega) (fun i hi => h.cs i (by rw [← hl]; exact hi))
  rw [sl9_sety y h.lx, hl] at this
  exact ⟨h.lx, by simpa using h.ly, by simpa using h.lt, this, fun i hi => by simpa using h.fz i hi, h.o0, h.o1, h.o2⟩
theorem SV.set0 {w : World} {b : Nat} {v0 v1 v2 : Value} {xs ys : List Int} (h : SV w b v0 v1 v2 xs ys) {v : Value} (hv : v.oneCell' = true) : SV (w.setCell ⟨b, 0, none⟩ v) b v v1 v2 xs ys := by
  have hl := sl9_len (v0 := v0) (v1 := v1) (v2 := v2) h.lx h.ly
  have := set_cells v (k := 0) (by rw [hl]; omega) (fun i hi => h.cs i (by rw [← hl]; exact hi))
  rw [hl] at this
  exact ⟨h.lx, h.ly, by simpa using h.lt, this, fun i hi => by simpa using h.fz i hi, hv, h.o1, h.o2⟩
theorem SV.set1 {w : World} {b : Nat} {v0 v1 v2 : Value} {xs ys : List Int} (h : SV w b v0 v1 v2 xs ys) {v : Value} (hv : v.oneCell' = true) : SV (w.setCell ⟨b, 1, none⟩ v) b v0 v v2 xs ys := by
  have hl := sl9_len (v0 := v0) (v1 := v1) (v2 := v2) h.lx h.ly
  have := set_cells v (k := 1) (by rw [hl]; omega) (fun i hi => h.cs i (by rw [← hl]; exact hi))
  rw [hl] at this
  exact ⟨h.lx, h.ly, by simpa using h.lt, this, fun i hi => by simpa using h.fz i hi, h.o0, hv, h.o2⟩
theorem SV.set2 {w : World} {b : Nat} {v0 v1 v2 : Value} {xs ys : List Int} (h : SV w b v0 v1 v2 xs ys) {v : Value} (hv : v.oneCell' = true) : SV (w.setCell ⟨b, 2, none⟩ v) b v0 v1 v xs ys := by
  have hl := sl9_len (v0 := v0) (v1 := v1) (v2 := v2) h.lx h.ly
  have := set_cells v (k := 2) (by rw [hl]; omega) (fun i hi => h.cs i (by rw [← hl]; exact hi))
  rw [hl] at this
  exact ⟨h.lx, h.ly, by simpa using h.lt, this, fun i hi => by simpa using h.fz i hi, h.o0, h.o1, hv⟩
theorem SV.range {w : World} {b : Nat} {v0 v1 v2 : Value} {xs ys : List Int} (h : SV w b v0 v1 v2 xs ys) : w.rangeAt b 0 (sl9 v0 v1 v2 xs ys) := fun j v hv => by
  have hj : j < 23 := by have := (List.getElem?_eq_some_iff.1 hv).1; rwa [sl9_len h.lx h.ly] at this
  rw [Nat.zero_add, h.cs j hj]; exact hv
theorem SV.there {w : World} {b : Nat} {v0 v1 v2 : Value} {xs ys : List Int} (h : SV w b v0 v1 v2 xs ys) : w.there b 0 23 := fun j hj => by
  rw [Nat.zero_add]
  refine ⟨?_, h.fz j hj⟩
  rw [h.cs j hj, List.getElem?_eq_getElem (by rw [sl9_len h.lx h.ly]; exact hj)]; rfl
theorem SV.loadVar {w : World} {b : Nat} {v0 v1 v2 : Value} {xs ys : List Int} (h : SV w b v0 v1 v2 xs ys) : (loadVar 79 ⟨b, 0, none⟩).run Try.prog w = .ok (.agg (sl9 v0 v1 v2 xs ys).toArray) w :=
  run_loadVar_mid w b 0 79 (sl9 v0 v1 v2 xs ys) _ h.range Try.underlying79 rfl (by rw [sl9_len h.lx h.ly]; exact infS9)
theorem SV.loads {w : World} {b : Nat} {v0 v1 v2 : Value} {xs ys : List Int} (h : SV w b v0 v1 v2 xs ys) : (Instr.loadAt 79 (.pointer (some ⟨b, 0, none⟩))).run Try.prog w = .ok (.agg (sl9 v0 v1 v2 xs ys).toArray) w :=
  run_loadAt_mid w b 0 79 (sl9 v0 v1 v2 xs ys) _ h.range Try.underlying79 rfl (by rw [sl9_len h.lx h.ly]; exact infS9)
theorem ws_load {ops : Array Oper} {rest : List Oper} {op : Oper} {a : Act} {w : World} {Q : Exit → Act → World → Prop} {b : Nat} {v0 v1 v2 : Value} {xs ys : List Int} (hgd : op.guard = none) (x : Operand) (ho : op.op = .load 79 x) (hx : a.eval x = .pointer (some ⟨b, 0, none⟩)) (h : Hid (SV w b v0 v1 v2 xs ys))
    (hk : wpList Try.prog ops Q rest (a.put op.dst (.agg (sl9 v0 v1 v2 xs ys).toArray)) w) : wpList Try.prog ops Q (op :: rest) a w :=
  wpList_load_mid hgd 79 x ho b 0 hx (sl9 v0 v1 v2 xs ys) _ h.out.range Try.underlying79 rfl (by rw [sl9_len h.out.lx h.out.ly]; exact infS9) hk
theorem sl9_one {v0 v1 v2 : Value} {xs ys : List Int} (h0 : v0.oneCell' = true) (h1 : v1.oneCell' = true) (h2 : v2.oneCell' = true) : ∀ v ∈ sl9 v0 v1 v2 xs ys, v.oneCell' = true := by
  intro v hv
  simp only [sl9, List.mem_append, List.mem_cons, List.not_mem_nil, or_false] at hv
  rcases hv with (rfl | rfl | rfl) | h | h
  · exact h0
  · exact h1
  · exact h2
  · exact c_ints _ v h
  · exact c_ints _ v h
theorem ws_store {ops : Array Oper} {rest : List Oper} {op : Oper} {a : Act} {w : World} {Q : Exit → Act → World → Prop} {b : Nat} {v0 v1 v2 u0 u1 u2 : Value} {xs ys zs ts : List Int} (hgd : op.guard = none) (x y : Operand) (ho : op.op = .store 79 x y) (hx : a.eval x = .pointer (some ⟨b, 0, none⟩)) (hy : a.eval y = .agg (sl9 u0 u1 u2 zs ts).toArray) (h : Hid (SV w b v0 v1 v2 xs ys)) (lz : zs.length = 10) (lt : ts.length = 10) (h0 : u0.oneCell' = true) (h1 : u1.oneCell' = true) (h2 : u2.oneCell' = true)
    (hk : ∀ w', SV w' b u0 u1 u2 zs ts → Turn9 b w w' → wpList Try.prog ops Q rest (a.put op.dst undef) w') : wpList Try.prog ops Q (op :: rest) a w := by
  have hs : (sl9 u0 u1 u2 zs ts).toArray.size = 23 := by simp [sl9_len lz lt]
  refine wpList_store_mid hgd 79 x y ho b 0 (sl9 u0 u1 u2 zs ts).toArray hx hy (by rw [hs]; exact h.out.there) (by rw [hs]; exact infS9) (all_oneCell_toArray (sl9_one h0 h1 h2)) ?_
  have ht := turn_cells9 w b 0 (sl9 u0 u1 u2 zs ts)
  refine hk _ ⟨lz, lt, by rw [ht.1]; exact h.out.lt, fun i hi => ?_, fun i hi => by rw [World.frozen?_setCells]; exact h.out.fz i hi, h0, h1, h2⟩ ht
  have hi' : i < (sl9 u0 u1 u2 zs ts).length := by rw [sl9_len lz lt]; exact hi
  have := World.rangeAt_setCells_same w b 0 (sl9 u0 u1 u2 zs ts) (by rw [sl9_len lz lt]; exact h.out.there) i _ (List.getElem?_eq_getElem hi')
  rw [Nat.zero_add] at this
  rw [this, List.getElem?_eq_getElem hi']
theorem res_search {fn : Func} {p : Tmp} {tmps : Array Value} {w : World} {b : Nat} {v0 v1 v2 : Value} {xs ys : List Int} (h : fn.results = #[.cell p 79]) (hp : tmps.getD p undef = .pointer (some ⟨b, 0, none⟩)) (A : SV w b v0 v1 v2 xs ys) : (results fn tmps).run Try.prog w = .ok (.agg (sl9 v0 v1 v2 xs ys).toArray) w := by
  have hp' : tmps[p]?.getD undef = .pointer (some ⟨b, 0, none⟩) := by simpa using hp
  simp [results, h, hp', asAddr, A.loadVar]
theorem zsl_new (w : World) (t : TypeId) : SV (w.alloc (.cells #[.slice none 0 0, .slice none 0 0, .slice none 0 0, .int .i64 0, .int .i64 0, .int .i64 0, .int .i64 0, .int .i64 0, .int .i64 0, .int .i64 0, .int .i64 0, .int .i64 0, .int .i64 0, .int .i64 0, .int .i64 0, .int .i64 0, .int .i64 0, .int .i64 0, .int .i64 0, .int .i64 0, .int .i64 0, .int .i64 0, .int .i64 0] t)) w.heap.size (.slice none 0 0) (.slice none 0 0) (.slice none 0 0) z10 z10 :=
  SV.new w (v0 := .slice none 0 0) (v1 := .slice none 0 0) (v2 := .slice none 0 0) (xs := z10) (ys := z10) rfl rfl rfl rfl rfl t
end Go.Proofs.Ytkebaklmkidfoaa
namespace Go.Proofs.Ytkebaklmkidfoaa
open Go.RowKit

def mxs (k : Nat) : List Int := Hu.tab 10 fun b => if b < k then Hu.mx else 0
theorem mxs_zero : mxs 0 = z10 := rfl
theorem mxs_set {k : Nat} (hk : k < 10) : (mxs k).set k Hu.mx = mxs (k + 1) := by
  refine Hu.ext10 (by simp [mxs, Hu.tab]) (Hu.tab_len _ _) fun i hi => ?_
  rw [Hu.set_get9 _ _ _ _ (by simp [mxs, Hu.tab]; exact hi), mxs, mxs, Hu.tab_get _ hi, Hu.tab_get _ hi]
  by_cases e : i = k
  · subst e; simp
  · rw [if_neg e]
    by_cases h : i < k
    · rw [if_pos h, if_pos (by omega)]
    · rw [if_neg h, if_neg (by omega)]
theorem cast_range (k : Nat) : Hu.cast (List.range k) ++ [(k : Int)] = Hu.cast (List.range (k + 1)) := by simp [Hu.cast, List.range_succ]
theorem own_one {w : World} {base e s n : Nat} {v : Value} {xs : List Value} (h : w.ownsRow base e s v n xs) : v.oneCell' = true := by
  obtain ⟨a, c, rfl⟩ := own_form h; rfl
theorem grown_block {w w' : World} {k : Option Nat} {b : Nat} (hg : w.grownBy w' k) (hb : b < w.heap.size) (hk : some b ≠ k) : w'.heap[b]? = w.heap[b]? := hg.block b hb hk
set_option maxRecDepth 100000 in
set_option maxHeartbeats 4000000 in
theorem ns_any {n : Nat} {w : World} (hn : n ≤ 10) :
    Calls Try.prog 50 #[.int .i64 (n : Int)] w fun e w' => ∃ v, e = .returned (.agg (sl9 (.slice none 0 0) (.slice none 0 0) v (mxs n) z10).toArray) ∧ Below w.heap.size w w' ∧ w'.ownsRow (w.heap.size + 2) 3 1 v n (ints (Hu.cast (List.range n))) := by
  have HZ0 := hide (zsl_new w 79)
  have HZ1 := hide (zsl_new (w.alloc (.cells #[.slice none 0 0, .slice none 0 0, .slice none 0 0, .int .i64 0, .int .i64 0, .int .i64 0, .int .i64 0, .int .i64 0, .int .i64 0, .int .i64 0, .int .i64 0, .int .i64 0, .int .i64 0, .int .i64 0, .int .i64 0, .int .i64 0, .int .i64 0, .int .i64 0, .int .i64 0, .int .i64 0, .int .i64 0, .int .i64 0, .int .i64 0] 79)) 79)
  rw [World.size_alloc] at HZ1
  go_enter Try.func50, Try.ntmps50
  go_wp2_with fail
  go_loopw [4, 6] (fun _ s wr => ∃ (k : Nat) (v : Value), s = .int .i64 k ∧ k ≤ n ∧ Hid (SV wr (w.heap.size + 1) (.slice none 0 0) (.slice none 0 0) v (mxs k) z10) ∧ Hid (SV wr w.heap.size (.slice none 0 0) (.slice none 0 0) (.slice none 0 0) z10 z10) ∧ Hid (wr.ownsRow (w.heap.size + 2) 3 1 v k (ints (Hu.cast (List.range k)))) ∧ Hid (Below w.heap.size w wr)) (fun _ s _ => n - (intOf s).toNat)
  case atStart => exact ⟨0, .slice none 0 0, rfl, Nat.zero_le _, HZ1, hide (HZ0.out.below (below_new _ _)), hide (World.ownsRow_nil _ _ _ _), hide ((below_new _ _).trans ((below_new _ _).mono (by simp)))⟩
  case round =>
    clear HZ0 HZ1
    obtain ⟨k, v, rfl, hk, HS, HR, HO, HB⟩ := hrel
    by_cases hlt : k < n
    · have i0 : (0 : Int) ≤ (k : Int) := by omega
      have i1 : (k : Int) < 10 := by omega
      have c2 := HS.out.c2
      have hsz := HS.out.lt
      obtain ⟨g3, cap3, w3, hr3, own3, hg3, _⟩ := push_9 (t := 25) (x := .int .i64 (k : Int)) Try.underlying25 infoI rfl rfl (by decide) HO.out (by omega) (by omega)
      have hov : ∀ b, b < w.heap.size + 2 → some b ≠ v.ownBlock := fun b hb e => by have := HO.out.lt b e.symm; omega
      have kp : ∀ b, b < w.heap.size + 2 → w3.heap[b]? = wr.heap[b]? := fun b hb => (hg3.block b (by simp; omega) (hov b hb)).trans ((below_new wr _).block b (by omega))
      have hs3 : wr.heap.size ≤ w3.heap.size := Nat.le_trans (by simp) hg3.size
      have A3 := HS.out.keep hs3 (kp _ (by omega))
      have e2 := A3.c2
      have f2 := A3.fz 2 (by omega)
      have A4 := A3.set2 (v := .slice (some ⟨g3, 0, none⟩) (k + 1) cap3) rfl
      have e3 := A4.x (i := k) (by omega)
      have f3 := A4.fz (3 + k) (by omega)
      have A5 := A4.setx (k := k) (by omega) Hu.mx
      rw [mxs_set (by omega)] at A5
      have HA5 := hide A5
      have HR5 := hide ((HR.out.keep hs3 (kp _ (by omega))).keep (w' := (w3.setCell ⟨w.heap.size + 1, 2, none⟩ (.slice (some ⟨g3, 0, none⟩) (k + 1) cap3)).setCell ⟨w.heap.size + 1, 3 + k, none⟩ (.int .i64 Hu.mx)) (by simp) ((Below.heap_setCell _ _ _ _ (by simp)).trans (Below.heap_setCell _ _ _ _ (by simp))))
      have HO5 : Hid (((w3.setCell ⟨w.heap.size + 1, 2, none⟩ (.slice (some ⟨g3, 0, none⟩) (k + 1) cap3)).setCell ⟨w.heap.size + 1, 3 + k, none⟩ (.int .i64 Hu.mx)).ownsRow (w.heap.size + 2) 3 1 (.slice (some ⟨g3, 0, none⟩) (k + 1) cap3) (k + 1) (ints (Hu.cast (List.range (k + 1))))) := hide (by
        rw [← cast_range, ints_snoc]
        exact ownsRow_setCell_below (ownsRow_setCell_below own3 (by show w.heap.size + 1 < _; omega) _) (by show w.heap.size + 1 < _; omega) _)
      have HB5 := hide (((HB.out.trans (((below_new wr _).mono HB.out.size).trans (grown_under' hg3 (HO.out.alloc _) (by omega) (by have := HB.out.size; simp; omega)))).setCell (p := ⟨w.heap.size + 1, 2, none⟩) (by show w.heap.size ≤ w.heap.size + 1; omega) (.slice (some ⟨g3, 0, none⟩) (k + 1) cap3)).setCell (p := ⟨w.heap.size + 1, 3 + k, none⟩) (by show w.heap.size ≤ w.heap.size + 1; omega) (.int .i64 Hu.mx))
      generalize (mxs k).getD k 0 = y at e3
      clear own3 hg3 A3 A4 A5 kp hov
      unfold Hu.mx at *
      go_wp2_with (first | (at_builtin; refine Lib.wpList_append_run _ rfl _ _ _ _ rfl _ _ rfl rfl _ _ (hr3 _) ?_))
      go_roundw
      case rel => exact ⟨k + 1, _, by go_num, by omega, HA5, HR5, HO5, HB5⟩
      case measure => simp only [intOf]; omega
    · have hke : k = n := by omega
      subst hke
      have o1 := own_one HO.out
      go_wp2_with (first | (refine ws_load rfl _ rfl rfl HS ?_) | (refine ws_store rfl _ _ rfl rfl rfl HR HS.out.lx HS.out.ly rfl rfl o1 ?_; intro w2 A2 T2))
      refine bodyPost_ret (v := .agg (sl9 (.slice none 0 0) (.slice none 0 0) v (mxs k) z10).toArray) (res_search Try.results50 rfl A2) rfl ⟨v, rfl, HB.out.trans (T2.2.1 _ (by omega)), ?_⟩
      have := HO.out
      obtain ⟨a, c, rfl⟩ := own_form this
      refine ⟨this.1, ?_⟩
      rcases this.2 with h | ⟨g, cap, cur, hv, hb, hg, r⟩
      · exact Or.inl h
      · exact Or.inr ⟨g, cap, cur, hv, hb, (T2.2.2 g (by omega)).trans hg, r⟩
end Go.Proofs.Ytkebaklmkidfoaa
namespace Go.Proofs.Ytkebaklmkidfoaa
open Go.RowKit

/-- A search on its way: what its variable holds, and its three lists, from base on, no two in one block. -/
structure Sr (w : World) (base b : Nat) (v0 v1 v2 : Value) (ls gn lf : List Int) (xs ys : List Int) : Prop where
  sv : SV w b v0 v1 v2 xs ys
  o0 : w.ownsRow base 3 1 v0 ls.length (ints ls)
  o1 : w.ownsRow base 3 1 v1 gn.length (ints gn)
  o2 : w.ownsRow base 3 1 v2 lf.length (ints lf)
  bb : base ≤ b
  d0 : v0.ownBlock ≠ some b
  d1 : v1.ownBlock ≠ some b
  d2 : v2.ownBlock ≠ some b
  d01 : ∀ g, v0.ownBlock = some g → v1.ownBlock ≠ some g
  d02 : ∀ g, v0.ownBlock = some g → v2.ownBlock ≠ some g
  d12 : ∀ g, v1.ownBlock = some g → v2.ownBlock ≠ some g
theorem own_blk {w w' : World} {base e s n : Nat} {v : Value} {xs : List Value} (h : w.ownsRow base e s v n xs) (hb : ∀ g, v.ownBlock = some g → w'.heap[g]? = w.heap[g]?) : w'.ownsRow base e s v n xs := by
  refine ⟨h.1, ?_⟩
  rcases h.2 with h0 | ⟨g, cap, cur, hv, hbg, hg, r⟩
  · exact Or.inl h0
  · exact Or.inr ⟨g, cap, cur, hv, hbg, (hb g (by rw [hv]; rfl)).trans hg, r⟩
theorem Sr.below {w w' : World} {base b : Nat} {v0 v1 v2 : Value} {ls gn lf xs ys : List Int} (h : Sr w base b v0 v1 v2 ls gn lf xs ys) (hb : Below w.heap.size w w') : Sr w' base b v0 v1 v2 ls gn lf xs ys :=
  ⟨h.sv.below hb, g_own h.o0 hb, g_own h.o1 hb, g_own h.o2 hb, h.bb, h.d0, h.d1, h.d2, h.d01, h.d02, h.d12⟩
/-- Only the search's own variable is written. -/
theorem Sr.setx {w : World} {base b : Nat} {v0 v1 v2 : Value} {ls gn lf xs ys : List Int} (h : Sr w base b v0 v1 v2 ls gn lf xs ys) {k : Nat} (hk : k < 10) (x : Int) : Sr (w.setCell ⟨b, 3 + k, none⟩ (.int .i64 x)) base b v0 v1 v2 ls gn lf (xs.set k x) ys :=
  ⟨h.sv.setx hk x, own_blk h.o0 fun g hg => Below.heap_setCell _ _ _ _ (by rintro rfl; exact h.d0 hg), own_blk h.o1 fun g hg => Below.heap_setCell _ _ _ _ (by rintro rfl; exact h.d1 hg), own_blk h.o2 fun g hg => Below.heap_setCell _ _ _ _ (by rintro rfl; exact h.d2 hg), h.bb, h.d0, h.d1, h.d2, h.d01, h.d02, h.d12⟩
theorem Sr.sety {w : World} {base b : Nat} {v0 v1 v2 : Value} {ls gn lf xs ys : List Int} (h : Sr w base b v0 v1 v2 ls gn lf xs ys) {k : Nat} (hk : k < 10) (y : Int) : Sr (w.setCell ⟨b, 13 + k, none⟩ (.int .i64 y)) base b v0 v1 v2 ls gn lf xs (ys.set k y) :=
  ⟨h.sv.sety hk y, own_blk h.o0 fun g hg => Below.heap_setCell _ _ _ _ (by rintro rfl; exact h.d0 hg), own_blk h.o1 fun g hg => Below.heap_setCell _ _ _ _ (by rintro rfl; exact h.d1 hg), own_blk h.o2 fun g hg => Below.heap_setCell _ _ _ _ (by rintro rfl; exact h.d2 hg), h.bb, h.d0, h.d1, h.d2, h.d01, h.d02, h.d12⟩
theorem ne_of_lt_opt {v : Value} {g : Nat} {w : World} {base e s n : Nat} {xs : List Value} (h : w.ownsRow base e s v n xs) (hg : w.heap.size ≤ g) : v.ownBlock ≠ some g := fun e => by have := (h.lt g e).2; omega
/-- One more onto the first list, and its place in the variable. -/
theorem Sr.push0 {w w3 : World} {base b g cap : Nat} {v0 v1 v2 : Value} {ls gn lf xs ys : List Int} {x : Int} {o : Obj} (h : Sr w base b v0 v1 v2 ls gn lf xs ys) (hb : base ≤ w.heap.size)
    (own : w3.ownsRow base 3 1 (.slice (some ⟨g, 0, none⟩) (ls.length + 1) cap) (ls.length + 1) (ints ls ++ [.int .i64 x])) (hg : (w.alloc o).grownBy w3 v0.ownBlock) (hat : v0.ownBlock = some g ∨ g = w.heap.size + 1) :
    Sr (w3.setCell ⟨b, 0, none⟩ (.slice (some ⟨g, 0, none⟩) (ls.length + 1) cap)) base b (.slice (some ⟨g, 0, none⟩) (ls.length + 1) cap) v1 v2 (ls ++ [x]) gn lf xs ys ∧ SV w3 b v0 v1 v2 xs ys ∧ Below base w (w3.setCell ⟨b, 0, none⟩ (.slice (some ⟨g, 0, none⟩) (ls.length + 1) cap)) := by
  have kp : ∀ k, k < w.heap.size → some k ≠ v0.ownBlock → w3.heap[k]? = w.heap[k]? := fun k hk hne => (hg.block k (by simp; omega) hne).trans ((below_new w o).block k hk)
  have hs3 : w.heap.size ≤ w3.heap.size := Nat.le_trans (by simp) hg.size
  have hgb : g ≠ b := by
    rcases hat with e | e
    · intro h'; subst h'; exact h.d0 e
    · have := h.sv.lt; omega
  have A3 : SV w3 b v0 v1 v2 xs ys := h.sv.keep hs3 (kp b h.sv.lt (fun e => h.d0 e.symm))
  have n1 : v1.ownBlock ≠ some g := by
    rcases hat with e | e
    · exact h.d01 g e
    · exact ne_of_lt_opt h.o1 (by omega)
  have n2 : v2.ownBlock ≠ some g := by
    rcases hat with e | e
    · exact h.d02 g e
    · exact ne_of_lt_opt h.o2 (by omega)
  have k1 : w3.ownsRow base 3 1 v1 gn.length (ints gn) := own_blk h.o1 fun k hk => kp k (h.o1.lt k hk).2 (fun e => h.d01 k e.symm hk)
  have k2 : w3.ownsRow base 3 1 v2 lf.length (ints lf) := own_blk h.o2 fun k hk => kp k (h.o2.lt k hk).2 (fun e => h.d02 k e.symm hk)
  refine ⟨⟨A3.set0 rfl, ?_, own_blk k1 fun k hk => Below.heap_setCell _ _ _ _ (by rintro rfl; exact h.d1 hk), own_blk k2 fun k hk => Below.heap_setCell _ _ _ _ (by rintro rfl; exact h.d2 hk), h.bb, by simp [Value.ownBlock]; exact hgb, h.d1, h.d2, ?_, ?_, h.d12⟩, A3, ?_⟩
  · rw [ints_snoc, List.length_append]
    exact own_blk own fun k hk => Below.heap_setCell _ _ _ _ (by simp [Value.ownBlock] at hk; subst hk; exact hgb)
  · intro k hk; simp [Value.ownBlock] at hk; subst hk; exact n1
  · intro k hk; simp [Value.ownBlock] at hk; subst hk; exact n2
  · refine Below.setCell ?_ (p := ⟨b, 0, none⟩) h.bb _
    exact ((below_new w o).mono hb).trans (grown_under' hg (h.o0.alloc _) (Nat.le_refl _) (by simp; omega))
theorem seeX_set {lf : List Nat} {rs xs : List Int} {j : Nat} (hj : j < lf.length) (h : rs.getD (lf.getD j 0) 0 < xs.getD (lf.getD j 0) 0) : (Hu.seeX (lf.take j) rs xs).set (lf.getD j 0) (rs.getD (lf.getD j 0) 0) = Hu.seeX (lf.take (j + 1)) rs xs := by
  refine Hu.ext10 (by simp [Hu.seeX, Hu.tab]) (Hu.tab_len _ _) fun i hi => ?_
  rw [Hu.set_get9 _ _ _ _ (by simp [Hu.seeX, Hu.tab]; exact hi), Hu.seeX, Hu.seeX, Hu.tab_get _ hi, Hu.tab_get _ hi]
  have e1 : lf.take (j + 1) = lf.take j ++ [lf.getD j 0] := by rw [List.take_add_one, List.getElem?_eq_getElem hj]; simp [hj]
  by_cases e : i = lf.getD j 0
  · rw [if_pos e, if_pos ⟨by rw [e1, e]; simp, by rw [e]; exact h⟩, e]
  · rw [if_neg e]
    have : i ∈ lf.take (j + 1) ↔ i ∈ lf.take j := by rw [e1, List.mem_append, List.mem_singleton]; exact ⟨fun h => h.resolve_right e, Or.inl⟩
    simp only [this]
theorem seeX_same {lf : List Nat} {rs xs : List Int} {j : Nat} (hj : j < lf.length) (h : ¬ rs.getD (lf.getD j 0) 0 < xs.getD (lf.getD j 0) 0) : Hu.seeX (lf.take (j + 1)) rs xs = Hu.seeX (lf.take j) rs xs := by
  refine Hu.ext10 (Hu.tab_len _ _) (Hu.tab_len _ _) fun i hi => ?_
  rw [Hu.seeX, Hu.seeX, Hu.tab_get _ hi, Hu.tab_get _ hi]
  have e1 : lf.take (j + 1) = lf.take j ++ [lf.getD j 0] := by rw [List.take_add_one, List.getElem?_eq_getElem hj]; simp [hj]
  have : (i ∈ lf.take (j + 1) ∧ rs.getD i 0 < xs.getD i 0) ↔ (i ∈ lf.take j ∧ rs.getD i 0 < xs.getD i 0) := by
    rw [e1, List.mem_append, List.mem_singleton]
    constructor
    · rintro ⟨h1 | rfl, h2⟩
      · exact ⟨h1, h2⟩
      · exact absurd h2 h
    · rintro ⟨h1, h2⟩; exact ⟨Or.inl h1, h2⟩
  simp only [this]
theorem seeY_set {lf : List Nat} {rs xs ys : List Int} {y : Int} {j : Nat} (hj : j < lf.length) (h : rs.getD (lf.getD j 0) 0 < xs.getD (lf.getD j 0) 0) : (Hu.seeY (lf.take j) rs xs ys y).set (lf.getD j 0) y = Hu.seeY (lf.take (j + 1)) rs xs ys y := by
  refine Hu.ext10 (by simp [Hu.seeY, Hu.tab]) (Hu.tab_len _ _) fun i hi => ?_
  rw [Hu.set_get9 _ _ _ _ (by simp [Hu.seeY, Hu.tab]; exact hi), Hu.seeY, Hu.seeY, Hu.tab_get _ hi, Hu.tab_get _ hi]
  have e1 : lf.take (j + 1) = lf.take j ++ [lf.getD j 0] := by rw [List.take_add_one, List.getElem?_eq_getElem hj]; simp [hj]
  by_cases e : i = lf.getD j 0
  · rw [if_pos e, if_pos ⟨by rw [e1, e]; simp, by rw [e]; exact h⟩]
  · rw [if_neg e]
    have : i ∈ lf.take (j + 1) ↔ i ∈ lf.take j := by rw [e1, List.mem_append, List.mem_singleton]; exact ⟨fun h => h.resolve_right e, Or.inl⟩
    simp only [this]
theorem seeY_same {lf : List Nat} {rs xs ys : List Int} {y : Int} {j : Nat} (hj : j < lf.length) (h : ¬ rs.getD (lf.getD j 0) 0 < xs.getD (lf.getD j 0) 0) : Hu.seeY (lf.take (j + 1)) rs xs ys y = Hu.seeY (lf.take j) rs xs ys y := by
  refine Hu.ext10 (Hu.tab_len _ _) (Hu.tab_len _ _) fun i hi => ?_
  rw [Hu.seeY, Hu.seeY, Hu.tab_get _ hi, Hu.tab_get _ hi]
  have e1 : lf.take (j + 1) = lf.take j ++ [lf.getD j 0] := by rw [List.take_add_one, List.getElem?_eq_getElem hj]; simp [hj]
  have : (i ∈ lf.take (j + 1) ∧ rs.getD i 0 < xs.getD i 0) ↔ (i ∈ lf.take j ∧ rs.getD i 0 < xs.getD i 0) := by
    rw [e1, List.mem_append, List.mem_singleton]
    constructor
    · rintro ⟨h1 | rfl, h2⟩
      · exact ⟨h1, h2⟩
      · exact absurd h2 h
    · rintro ⟨h1, h2⟩; exact ⟨Or.inl h1, h2⟩
  simp only [this]
theorem seeX_nil {rs xs : List Int} (hx : xs.length = 10) : Hu.seeX [] rs xs = xs := Hu.ext10 (Hu.tab_len _ _) hx fun i hi => by rw [Hu.seeX, Hu.tab_get _ hi]; simp
theorem seeY_nil {rs xs ys : List Int} {y : Int} (hy : ys.length = 10) : Hu.seeY [] rs xs ys y = ys := Hu.ext10 (Hu.tab_len _ _) hy fun i hi => by rw [Hu.seeY, Hu.tab_get _ hi]; simp
theorem seeX_at {lf : List Nat} {rs xs : List Int} {j : Nat} (hd : lf.Nodup) (hj : j < lf.length) (h10 : lf.getD j 0 < 10) : (Hu.seeX (lf.take j) rs xs).getD (lf.getD j 0) 0 = xs.getD (lf.getD j 0) 0 := by
  have hn : lf.getD j 0 ∉ lf.take j := by
    intro hm
    obtain ⟨i, hi, e⟩ := List.getElem_of_mem hm
    simp at hi
    rw [List.getElem_take] at e
    rw [List.getD_eq_getElem?_getD, List.getElem?_eq_getElem hj, Option.getD_some] at e
    exact List.pairwise_iff_getElem.1 hd i j (by omega) hj (by omega) e
  rw [Hu.seeX, Hu.tab_get _ h10, if_neg (fun h => hn h.1)]
end Go.Proofs.Ytkebaklmkidfoaa
namespace Go.Proofs.Ytkebaklmkidfoaa
open Go.RowKit

theorem getD_mem9 (l : List Nat) {i : Nat} (h : i < l.length) : l.getD i 0 ∈ l := mem9 l 0 h
theorem own_arow {w : World} {base n c m : Nat} {a : Option Addr} {xs : List Int} (hx : xs.length = m) (h : w.ownsRow base 3 1 (.slice a n c) m (ints xs)) : ARow w a xs := by
  obtain ⟨a', c', e, r⟩ := own_row hx h
  cases e
  exact r
set_option maxRecDepth 20000 in
set_option maxHeartbeats 4000000 in
theorem see_any {base b i N c2 : Nat} {v0 v1 : Value} {a2 : Option Addr} {ls gn : List Int} {lf : List Nat} {xs ys rs : List Int} {w : World} (hr : rs.length = 10) (hN : lf.length = N) (hd : lf.Nodup) (h10 : ∀ x ∈ lf, x < 10) (hb : base ≤ w.heap.size) (hls : ls.length ≤ 100) (h : Sr w base b v0 v1 (.slice a2 N c2) ls gn (Hu.cast lf) xs ys) :
    Calls Try.prog 52 #[.pointer (some ⟨b, 0, none⟩), .int .i64 (i : Int), .agg (tv rs)] w fun e w' => e = .returned (.tuple #[]) ∧ (∃ v0', Sr w' base b v0' v1 (.slice a2 N c2) (ls ++ [(i : Int)]) gn (Hu.cast lf) (Hu.seeX lf rs xs) (Hu.seeY lf rs xs ys i)) ∧ Below base w w' := by
  have bn := below_new w (.cells (tv rs) 63)
  have hR := R10.new w rs hr 63
  have hsW : (w.alloc (.cells (tv rs) 63)).heap.size = w.heap.size + 1 := World.size_alloc _ _
  obtain ⟨W1, hW1⟩ : ∃ W1, W1 = w.alloc (.cells (tv rs) 63) := ⟨_, rfl⟩
  rw [← hW1] at bn hR hsW
  have HW1 := hide hW1.symm
  clear hW1
  have h1 := h.below bn
  have hbl := h.sv.lt
  have N10 : N ≤ 10 := by
    have := hd.length_le_of_subset (l₂ := List.range 10) (fun x hx => List.mem_range.2 (h10 x hx))
    simp at this; omega
  obtain ⟨g3, cap3, w3, hr3, own3, hg3, hat3⟩ := push_9 (t := 25) (x := .int .i64 (i : Int)) Try.underlying25 infoI rfl rfl (by decide) h1.o0 (by omega) (by omega)
  obtain ⟨S4, A3, B4⟩ := h1.push0 (by omega) own3 hg3 hat3
  have e0 := A3.c0
  have f0 := A3.fz 0 (by omega)
  have c0 := h1.sv.c0
  have hz3 : w.heap.size < w3.heap.size := Nat.lt_of_lt_of_le (by simp; omega) hg3.size
  have hR4 : R10 (w3.setCell ⟨b, 0, none⟩ (.slice (some ⟨g3, 0, none⟩) (ls.length + 1) cap3)) w.heap.size rs := (hR.keep (w' := w3) (Nat.le_trans (by simp) hg3.size) ((hg3.block w.heap.size (by simp; omega) (fun e => by have := (h.o0.lt _ e.symm).2; omega)).trans ((below_new _ _).block _ (by omega)))).other (by omega)
  have HB4 := hide ((bn.mono hb).trans B4)
  have e2 := S4.sv.c2
  obtain ⟨w4, hw4⟩ : ∃ w4, w4 = w3.setCell ⟨b, 0, none⟩ (.slice (some ⟨g3, 0, none⟩) (ls.length + 1) cap3) := ⟨_, rfl⟩
  rw [← hw4] at S4 hR4 HB4 e2
  have HW4 := hide hw4.symm
  obtain ⟨v0', hv0⟩ : ∃ v0', v0' = Value.slice (some ⟨g3, 0, none⟩) (ls.length + 1) cap3 := ⟨_, rfl⟩
  rw [← hv0] at S4
  have HS4 := hide S4
  have HR4 := hide hR4
  have HD := hide hd
  have H10 := hide h10
  have HN := hide hN
  have HBB := hide h.bb
  have HX0 := hide (seeX_nil (rs := rs) h.sv.lx)
  have HY0 := hide (seeY_nil (rs := rs) (xs := xs) (y := (i : Int)) h.sv.ly)
  clear bn hR h1 own3 hg3 hat3 S4 A3 B4 hR4 hw4 hv0 hd h10 hN h
  go_enter Try.func52, Try.ntmps52
  clear hsW
  go_upto_region 1 with fail
  rw [HW1.out]
  go_upto_region 2 with (at_builtin; refine Lib.wpList_append_run _ rfl _ _ _ _ rfl _ _ rfl rfl _ _ (hr3 _) ?_)
  rw [HW4.out]
  clear hr3 e0 f0 c0 HW1 HW4
  go_wp2_with fail
  obtain ⟨R, hRe⟩ : ∃ R, R = w.heap.size := ⟨_, rfl⟩
  rw [← hRe] at HR4 ⊢
  have hbR : b < R := by omega
  have hbaR : base ≤ R := by omega
  clear hRe hz3
  go_loopw [7, 23] (fun _ s wr => ∃ (j : Nat), s = .int .i64 j ∧ j ≤ N ∧ Hid (Sr wr base b v0' v1 (.slice a2 N c2) (ls ++ [(i : Int)]) gn (Hu.cast lf) (Hu.seeX (lf.take j) rs xs) (Hu.seeY (lf.take j) rs xs ys i)) ∧ Hid (R10 wr R rs) ∧ Hid (Below base w wr)) (fun _ s _ => N - (intOf s).toNat)
  case atStart => exact ⟨0, rfl, Nat.zero_le _, hide (by rw [List.take_zero, HX0.out, HY0.out]; exact HS4.out), HR4, HB4⟩
  case round =>
    clear HS4 HR4 HB4 e2
    obtain ⟨j, rfl, hj, HS, HR, HB⟩ := hrel
    by_cases hlt : j < N
    · have hjl : j < lf.length := by rw [HN.out]; exact hlt
      have hy10 := H10.out _ (getD_mem9 lf hjl)
      obtain ⟨b2, o2, rfl, r2⟩ := (own_arow rfl HS.out.o2).at (i := j) (by rw [Hu.cast_len]; exact hjl)
      rw [Hu.cast_get lf hjl] at r2
      have HAT := hide (seeX_at (rs := rs) (xs := xs) HD.out hjl hy10)
      have cx := HS.out.sv.x hy10
      have fx := HS.out.sv.fz (3 + lf.getD j 0) (by omega)
      have cy := HS.out.sv.y hy10
      have fy := HS.out.sv.fz (13 + lf.getD j 0) (by omega)
      have cr := (HR.out.2.2 _ hy10).1
      rw [HAT.out] at cx
      have HSX := hide (fun h => seeX_set (rs := rs) (xs := xs) hjl h)
      have HSY := hide (fun h => seeY_set (rs := rs) (xs := xs) (ys := ys) (y := (i : Int)) hjl h)
      have HTX := hide (fun h => seeX_same (rs := rs) (xs := xs) hjl h)
      have HTY := hide (fun h => seeY_same (rs := rs) (xs := xs) (ys := ys) (y := (i : Int)) hjl h)
      generalize (Hu.seeY (lf.take j) rs xs ys (i : Int)).getD (lf.getD j 0) 0 = y0 at cy
      generalize lf.getD j 0 = q at *
      generalize rs.getD q 0 = r at *
      generalize xs.getD q 0 = x at *
      have i0 : (0 : Int) ≤ (j : Int) := by omega
      have i1 : (j : Int) < (N : Int) := by omega
      have q0 : (0 : Int) ≤ (q : Int) := by omega
      have q1 : (q : Int) < 10 := by omega
      by_cases hrx : r < x
      · have HS2 : Hid (∀ d, Sr (((wr.drewN d).setCell ⟨b, 3 + q, none⟩ (.int .i64 r)).setCell ⟨b, 13 + q, none⟩ (.int .i64 (i : Int))) base b v0' v1 (.slice (some ⟨b2, o2, none⟩) N c2) (ls ++ [(i : Int)]) gn (Hu.cast lf) (Hu.seeX (lf.take (j + 1)) rs xs) (Hu.seeY (lf.take (j + 1)) rs xs ys i)) := hide fun d => by
          have := ((HS.out.below (below_drewN (Below.refl _ wr) d)).setx hy10 r).sety hy10 (i : Int)
          rwa [HSX.out hrx, HSY.out hrx] at this
        have HR2 := hide fun d => ((HR.out.below (below_drewN (Below.refl _ wr) d)).other (b' := b) (k := 3 + q) (v := .int .i64 r) (by omega)).other (b' := b) (k := 13 + q) (v := .int .i64 (i : Int)) (by omega)
        have HB2 := hide fun d => ((below_drewN HB.out d).setCell (p := ⟨b, 3 + q, none⟩) HBB.out (.int .i64 r)).setCell (p := ⟨b, 13 + q, none⟩) HBB.out (.int .i64 (i : Int))
        have cy2 : (wr.setCell ⟨b, 3 + q, none⟩ (.int .i64 r)).cell? ⟨b, 13 + q, none⟩ = some (.int .i64 y0) := (World.cell?_setCell_other _ _ _ _ (by intro e; simp at e)).trans cy
        go_wp2_with fail
        go_quiet (fail)
        go_wp2_with fail
        go_region
        go_wp2_with fail
        exact ⟨⟨j + 1, by go_num, by omega, hide (HS2.out _), hide (HR2.out _), hide (HB2.out _)⟩, by simp only [intOf]; omega⟩
      · have HS2 : Hid (∀ d, Sr (wr.drewN d) base b v0' v1 (.slice (some ⟨b2, o2, none⟩) N c2) (ls ++ [(i : Int)]) gn (Hu.cast lf) (Hu.seeX (lf.take (j + 1)) rs xs) (Hu.seeY (lf.take (j + 1)) rs xs ys i)) := hide fun d => by
          rw [HTX.out hrx, HTY.out hrx]
          exact HS.out.below (below_drewN (Below.refl _ wr) d)
        have HR2 := hide fun d => HR.out.below (below_drewN (Below.refl _ wr) d)
        have HB2 := hide fun d => below_drewN HB.out d
        go_wp2_with fail
        go_quiet (fail)
        go_wp2_with fail
        exact ⟨⟨j + 1, by go_num, by omega, hide (HS2.out _), hide (HR2.out _), hide (HB2.out _)⟩, by simp only [intOf]; omega⟩
    · have hje : j = N := by omega
      subst hje
      have HF : Hid (Sr wr base b v0' v1 (.slice a2 j c2) (ls ++ [(i : Int)]) gn (Hu.cast lf) (Hu.seeX lf rs xs) (Hu.seeY lf rs xs ys i)) := hide (by
        have := HS.out
        rwa [List.take_of_length_le (by rw [HN.out]; omega)] at this)
      go_wp2_with fail
      go_end0
      exact ⟨rfl, ⟨v0', HF.out⟩, HB.out⟩
end Go.Proofs.Ytkebaklmkidfoaa
namespace Go.Proofs.Ytkebaklmkidfoaa
open Go.RowKit

set_option maxRecDepth 100000 in
set_option maxHeartbeats 1000000 in
theorem cl_any {B p q : Nat} {v0 v1 v2 : Value} {xs ys : List Int} {w : World} (hp : p < 10) (hq : q < 10) (h : SV w B v0 v1 v2 xs ys) :
    Calls Try.prog 67 #[.int .i64 (p : Int), .int .i64 (q : Int), .pointer (some ⟨B, 0, none⟩)] w fun e w' => e = .returned (.bool (decide (xs.getD p 0 < xs.getD q 0))) ∧ ∃ m, w' = w.drewN m := by
  have c1 := h.x hp
  have c2 := h.x hq
  have p0 : (0 : Int) ≤ (p : Int) := by omega
  have p1 : (p : Int) < 10 := by omega
  have q0 : (0 : Int) ≤ (q : Int) := by omega
  have q1 : (q : Int) < 10 := by omega
  generalize xs.getD p 0 = x at *
  generalize xs.getD q 0 = y at *
  clear h
  go_enter Try.func67, Try.ntmps67
  go_wp2_with fail
  go_quiet (fail)
  go_wp2_with fail
  go_ret
  exact ⟨rfl, _, rfl⟩
theorem best_next {ls : Hu.Fn} {lf : List Nat} {k p : Nat} (hk : k < lf.length) (hp : p < lf.length) (h : (k = 0 ∧ p = 0) ∨ Hu.bestN ls (lf.take k) = some (lf.getD p 0)) : Hu.bestN ls (lf.take (k + 1)) = some (lf.getD (if ls (lf.getD k 0) < ls (lf.getD p 0) then k else p) 0) := by
  have e1 : lf.take (k + 1) = lf.take k ++ [lf.getD k 0] := by rw [List.take_add_one, List.getElem?_eq_getElem hk]; simp [hk]
  rw [e1, Hu.best_snoc]
  rcases h with ⟨rfl, rfl⟩ | h
  · simp [Hu.bestN, Hu.pickN]
  · rw [h]
    simp only [Hu.pickN]
    split <;> rfl
set_option maxRecDepth 100000 in
set_option maxHeartbeats 4000000 in
theorem fb_any {B N c2 : Nat} {a2 : Option Addr} {v0 v1 v2 : Value} {lf : List Nat} {xs ys : List Int} {w : World} (hN : lf.length = N) (h1 : 1 ≤ N) (h100 : N ≤ 100) (h10 : ∀ x ∈ lf, x < 10) (ha : ARow w a2 (Hu.cast lf)) (h : SV w B v0 v1 v2 xs ys) :
    Calls Try.prog 66 #[.slice a2 N c2, .func (.func 67) #[] #[.pointer (some ⟨B, 0, none⟩)]] w fun e w' => (∃ p : Nat, e = .returned (.int .i64 (p : Int)) ∧ p < N ∧ Hu.bestN (fun b => xs.getD b 0) lf = some (lf.getD p 0)) ∧ Below w.heap.size w w' := by
  have eg : ∀ args w, (callFunc 67 args).run Try.prog w = .ok (.enter 67 args) w := enters_of Try.func67 (by kernel_rfl) rfl
  have HCL := hide fun (p q : Nat) (hp : p < 10) (hq : q < 10) (W : World) (hW : Below w.heap.size w W) => (cl_any (w := W) hp hq (h.below hW)).mono fun e w' (h : _ ∧ ∃ m, w' = W.drewN m) => (show _ ∧ Below W.heap.size W w' from ⟨h.1, by obtain ⟨m, e⟩ := h.2; rw [e]; exact below_drewN (Below.refl _ _) m⟩)
  have HA := hide ha
  have HN := hide hN
  have H10 := hide h10
  clear ha hN h10 h
  go_enter Try.func66, Try.ntmps66
  go_wp2_with fail
  go_loopw [5, 6, 9] (fun s5 _ s wr => ∃ (k p : Nat), s = .int .i64 k ∧ s5 = .int .i64 p ∧ k ≤ N ∧ p < N ∧ Hid ((k = 0 ∧ p = 0) ∨ Hu.bestN (fun b => xs.getD b 0) (lf.take k) = some (lf.getD p 0)) ∧ Hid (Below w.heap.size w wr)) (fun _ _ s _ => N - (intOf s).toNat)
  case atStart => exact ⟨0, 0, rfl, rfl, Nat.zero_le _, h1, hide (Or.inl ⟨rfl, rfl⟩), hide (Below.refl _ _)⟩
  case round =>
    obtain ⟨k, p, rfl, rfl, hk, hp, HBT, HB⟩ := hrel
    by_cases hlt : k < N
    · have hkl : k < lf.length := by rw [HN.out]; exact hlt
      have hpl : p < lf.length := by rw [HN.out]; exact hp
      have hk10 := H10.out _ (getD_mem9 lf hkl)
      have hp10 := H10.out _ (getD_mem9 lf hpl)
      obtain ⟨b2, o2, rfl, hb2, hrr⟩ := HA.out.resolve_left (by intro e; have := Hu.cast_len lf; rw [e] at this; simp at this; omega)
      have r1 := (HB.out.cell (p := ⟨b2, o2 + k, none⟩) hb2).trans (hrr k (by rw [Hu.cast_len]; exact hkl))
      have r2 := (HB.out.cell (p := ⟨b2, o2 + p, none⟩) hb2).trans (hrr p (by rw [Hu.cast_len]; exact hpl))
      rw [Hu.cast_get lf hkl] at r1
      rw [Hu.cast_get lf hpl] at r2
      have HNX := hide (best_next hkl hpl HBT.out)
      have HCC := hide (HCL.out _ _ hk10 hp10)
      generalize hX : xs.getD (lf.getD k 0) 0 = X at HNX HCC
      generalize hY : xs.getD (lf.getD p 0) 0 = Y at HNX HCC
      generalize lf.getD k 0 = K at r1 HCC
      generalize lf.getD p 0 = Q at r2 HCC
      have i0 : (0 : Int) ≤ (k : Int) := by omega
      have i1 : (k : Int) < (N : Int) := by omega
      have j0 : (0 : Int) ≤ (p : Int) := by omega
      have j1 : (p : Int) < (N : Int) := by omega
      clear hX hY hrr
      by_cases hXY : X < Y
      · rw [decide_eq_true hXY] at HCC
        rw [if_pos hXY] at HNX
        go_wp2_with fail
        go_region_held3 (fun w' => w'.cell? ⟨b2, o2 + k, none⟩ = some (.int .i64 (K : Int)) ∧ w'.cell? ⟨b2, o2 + p, none⟩ = some (.int .i64 (Q : Int)) ∧ Below w.heap.size w w' ∧ w.heap.size ≤ w'.heap.size)
          (first | exact ⟨r1, r2, HB.out.drew, HB.out.size⟩ | assumption | exact two_call8 hb2 hb2 ‹_› (by assumption) | fail)
          (first | (go_at_fn 67; obtain ⟨_, _, hbS, _⟩ := ‹_ ∧ _ ∧ _ ∧ _›; refine (HCC.out _ hbS).mono ?_; rintro e w1 ⟨rfl, hb1⟩) | fail)
        obtain ⟨_, _, hbE, _⟩ := ‹_ ∧ _ ∧ _ ∧ _›
        have HBE := hide hbE
        go_wp2_with fail
        exact ⟨⟨k + 1, k, by go_num, rfl, by omega, hlt, hide (Or.inr HNX.out), HBE⟩, by simp only [intOf]; omega⟩
      · rw [decide_eq_false hXY] at HCC
        rw [if_neg hXY] at HNX
        go_wp2_with fail
        go_region_held3 (fun w' => w'.cell? ⟨b2, o2 + k, none⟩ = some (.int .i64 (K : Int)) ∧ w'.cell? ⟨b2, o2 + p, none⟩ = some (.int .i64 (Q : Int)) ∧ Below w.heap.size w w' ∧ w.heap.size ≤ w'.heap.size)
          (first | exact ⟨r1, r2, HB.out.drew, HB.out.size⟩ | assumption | exact two_call8 hb2 hb2 ‹_› (by assumption) | fail)
          (first | (go_at_fn 67; obtain ⟨_, _, hbS, _⟩ := ‹_ ∧ _ ∧ _ ∧ _›; refine (HCC.out _ hbS).mono ?_; rintro e w1 ⟨rfl, hb1⟩) | fail)
        obtain ⟨_, _, hbE, _⟩ := ‹_ ∧ _ ∧ _ ∧ _›
        have HBE := hide hbE
        go_wp2_with fail
        exact ⟨⟨k + 1, p, by go_num, rfl, by omega, hp, hide (Or.inr HNX.out), HBE⟩, by simp only [intOf]; omega⟩
    · have hke : k = N := by omega
      subst hke
      have HF : Hid (Hu.bestN (fun b => xs.getD b 0) lf = some (lf.getD p 0)) := hide (by
        rcases HBT.out with ⟨h, _⟩ | h
        · omega
        · rwa [List.take_of_length_le (by rw [HN.out]; omega)] at h)
      go_wp2_with fail
      go_ret
      exact ⟨⟨p, rfl, hp, HF.out⟩, HB.out⟩
theorem nr_keep {w w1 w2 : World} {b o bb oo N : Nat} {v : Value} {D : Nat → Int} (hb : b < w.heap.size) (hbb : bb < w.heap.size) (s : w1.cell? ⟨b, o, none⟩ = some v ∧ (∀ p, p < N → w1.cell? ⟨bb, oo + p, none⟩ = some (.int .i64 (D p))) ∧ Below w.heap.size w w1 ∧ w.heap.size ≤ w1.heap.size) (h : Below w1.heap.size w1 w2) :
    w2.cell? ⟨b, o, none⟩ = some v ∧ (∀ p, p < N → w2.cell? ⟨bb, oo + p, none⟩ = some (.int .i64 (D p))) ∧ Below w.heap.size w w2 ∧ w.heap.size ≤ w2.heap.size := by
  obtain ⟨s1, s2, s3, s4⟩ := s
  exact ⟨(h.cell (p := ⟨b, o, none⟩) (Nat.lt_of_lt_of_le hb s4)).trans s1, fun p hp => (h.cell (p := ⟨bb, oo + p, none⟩) (Nat.lt_of_lt_of_le hbb s4)).trans (s2 p hp), s3.trans (h.mono s4), Nat.le_trans s4 h.size⟩
set_option maxRecDepth 100000 in
set_option maxHeartbeats 4000000 in
theorem nr_any {N c2 d : Nat} {a2 : Option Addr} {v0 v1 : Value} {lf : List Nat} {xs ys : List Int} {w : World} (hx : xs.length = 10) (hy : ys.length = 10) (h0 : v0.oneCell' = true) (hv1 : v1.oneCell' = true) (hN : lf.length = N) (h1 : 1 ≤ N) (h100 : N ≤ 100) (h10 : ∀ x ∈ lf, x < 10) (ha : ARow w a2 (Hu.cast lf)) (hbest : Hu.bestN (fun b => xs.getD b 0) lf = some d) :
    Calls Try.prog 54 #[.agg (sl9 v0 v1 (.slice a2 N c2) xs ys).toArray] w fun e w' => e = .returned (.int .i64 (d : Int)) ∧ Below w.heap.size w w' := by
  have A := SV.new w (v0 := v0) (v1 := v1) (v2 := .slice a2 N c2) hx hy h0 hv1 rfl 79
  have bn := below_new w (.cells (sl9 v0 v1 (.slice a2 N c2) xs ys).toArray 79)
  have ha1 := ha.below bn
  obtain ⟨w1, hw1⟩ : ∃ w1, w1 = w.alloc (.cells (sl9 v0 v1 (.slice a2 N c2) xs ys).toArray 79) := ⟨_, rfl⟩
  rw [← hw1] at A bn ha1
  have HW1 := hide hw1.symm
  have c2' := A.c2
  have hlt := A.lt
  have HFB := hide fun (W : World) (hW : Below w1.heap.size w1 W) => fb_any (w := W) (c2 := c2) hN h1 h100 h10 (ha1.below hW) (A.below hW)
  obtain ⟨bb, oo, rfl, hbb, hrr⟩ := ha1.resolve_left (by intro e; have := Hu.cast_len lf; rw [e] at this; simp at this; omega)
  obtain ⟨D, hD⟩ : ∃ D : Nat → Int, ∀ p, D p = ((lf.getD p 0 : Nat) : Int) := ⟨_, fun _ => rfl⟩
  have HRR : Hid (∀ p, p < N → w1.cell? ⟨bb, oo + p, none⟩ = some (.int .i64 (D p))) := hide fun p hp => by
    rw [hrr p (by rw [Hu.cast_len, hN]; exact hp), Hu.cast_get lf (by rw [hN]; exact hp), hD]
  have HD := hide hD
  have HBT := hide hbest
  have HBn := hide bn
  generalize (sl9 v0 v1 (.slice (some ⟨bb, oo, none⟩) N c2) xs ys).toArray = arr at *
  clear A bn ha1 ha hw1 hbest hrr hD
  go_enter Try.func54, Try.ntmps54
  go_upto_region 1 with fail
  rw [HW1.out]
  clear HW1
  go_region_held3 (fun w' => w'.cell? ⟨w.heap.size, 2, none⟩ = some (.slice (some ⟨bb, oo, none⟩) N c2) ∧ (∀ p, p < N → w'.cell? ⟨bb, oo + p, none⟩ = some (.int .i64 (D p))) ∧ Below w1.heap.size w1 w' ∧ w1.heap.size ≤ w'.heap.size)
    (first | exact ⟨c2', HRR.out, (Below.refl _ _).drew, Nat.le_refl _⟩ | assumption | exact nr_keep hlt hbb ‹_› (by assumption) | fail)
    (first | (go_at_call 66; obtain ⟨_, _, hbS, _⟩ := ‹_ ∧ _ ∧ _ ∧ _›; refine (HFB.out _ hbS).mono ?_; rintro e w3 ⟨⟨p, rfl, hp, hpb⟩, hb3⟩; have HPB := hide hpb; clear hpb; have p0 : (0 : Int) ≤ (p : Int) := Int.natCast_nonneg _; have p1 : (p : Int) < (N : Int) := Int.ofNat_lt.2 hp) | fail)
  obtain ⟨_, _, hbE, _⟩ := ‹_ ∧ _ ∧ _ ∧ _›
  have HE : Hid (D p = (d : Int)) := hide (by
    have := HPB.out
    rw [HBT.out] at this
    rw [HD.out p, ← Option.some.inj this])
  have HBE := hide (HBn.out.trans (hbE.mono HBn.out.size))
  clear hbE hb3 hbS
  go_wp2_with fail
  go_ret
  exact ⟨ret_int HE.out, HBE.out⟩
end Go.Proofs.Ytkebaklmkidfoaa
namespace Go.Proofs.Ytkebaklmkidfoaa
open Go.RowKit

theorem ix_tv {ys : List Int} {k : Nat} (hy : ys.length = 10) (hk : k < 10) (w : World) : (Instr.index 63 (.agg (tv ys)) (.int .i64 (k : Int))).run Try.prog w = .ok (.int .i64 (ys.getD k 0)) w := by
  have h1 : (0 : Int) ≤ (k : Int) := by omega
  have h2 : (k : Int) < ((10 : Nat) : Int) := by omega
  obtain ⟨i, hi⟩ := info3
  have hp := part_tv ys w (i := k) (by omega)
  simp only [Instr.index, asIntOf, Sem.run_bind, Sem.run_pure, Result.andThen_ok, run_underlying u64]
  rw [if_pos ⟨h1, h2⟩]
  simp only [Sem.run_bind, run_sizeOf w hi, cells3, Result.andThen_ok, Int.toNat_natCast]
  exact hp
/-- The value of a fitting: costs, the fit, prices of loads and of bins. -/
def fv (e : Option Addr) (n ce FT PU PV : Nat) : Array Value := #[.slice e n ce, .slice (some ⟨FT, 0, none⟩) n n, .slice (some ⟨PU, 0, none⟩) n n, .slice (some ⟨PV, 0, none⟩) n n]
set_option maxRecDepth 20000 in
set_option maxHeartbeats 4000000 in
theorem ro9_any {e : Option Addr} {n ce FT PU PV i : Nat} {C : List (List Int)} {us vs : List Int} {w : World} (hg : Hu.costB C = true) (hl : C.length = n) (hu : us.length = n) (hv : vs.length = n) (hi : i < n) (gu : Pf.allB us (-100000) 100000 = true) (gv : Pf.allB vs (-100000) 100000 = true) (hc : CRow w e C) (ou : ARow w (some ⟨PU, 0, none⟩) us) (ov : ARow w (some ⟨PV, 0, none⟩) vs) :
    Calls Try.prog 53 #[.agg (fv e n ce FT PU PV), .int .i64 (i : Int)] w fun e w' => e = .returned (.agg (tv (Hu.restR C us vs i))) ∧ Below w.heap.size w w' := by
  have gl := Hu.costB_len hg
  rw [hl] at gl
  obtain ⟨n1, n10⟩ := gl
  have HCi := hide ((Hu.costB_row hg (show i < C.length by rw [hl]; exact hi)).1.trans hl)
  have HBP := hide fun (W : World) (r1 : ARow W (some ⟨PU, 0, none⟩) us) (r2 : ARow W (some ⟨PV, 0, none⟩) vs) => bp_any (c := n) (d := n) hu hv n1 n10 hi gu gv r1 r2
  have HBB : Hid (∀ b, b < 10 → -200000 ≤ (Hu.bothR us vs i).getD b 0 ∧ (Hu.bothR us vs i).getD b 0 ≤ 200000) := hide fun b hb => by
    rw [Hu.bothR_get _ _ _ hb, Hu.bothAt]
    split
    · have h1 := Pf.inB_yes (Pf.allB_get gv (show b < vs.length by omega))
      have h2 := Pf.inB_yes (Pf.allB_get gu (show i < us.length by omega))
      omega
    · omega
  have HCB : Hid (∀ b, b < 10 → 0 ≤ (Hu.pad (C.getD i [])).getD b 0 ∧ (Hu.pad (C.getD i [])).getD b 0 ≤ 100) := hide fun b hb => by
    rw [Hu.pad_get _ hb]
    obtain ⟨h1, h2⟩ := Hu.costB_row hg (show i < C.length by rw [hl]; exact hi)
    by_cases hbl : b < (C.getD i []).length
    · exact Pf.inB_yes (Pf.allB_get h2 hbl)
    · rw [List.getD_eq_getElem?_getD, List.getElem?_eq_none (by omega)]; simp
  have HC := hide hc
  have HU := hide ou
  have HV := hide ov
  have HL := hide hl
  have HIX := hide fun (k : Nat) (hk : k < 10) => ix_tv (Hu.bothR_len us vs i) hk
  clear hc ou ov hg hl gu gv
  obtain ⟨bc, oc, rfl, hbc, hcc⟩ := HC.out.resolve_left (by intro e; have := HL.out; rw [e] at this; simp at this; omega)
  obtain ⟨ai, ci, r1, R1⟩ := hcc i (by rw [HL.out]; exact hi)
  rw [HCi.out] at r1
  have bnA := below_new w (.cells (fv (some ⟨bc, oc, none⟩) n ce FT PU PV) 52)
  have bnB := below_new (w.alloc (.cells (fv (some ⟨bc, oc, none⟩) n ce FT PU PV) 52)) (.cells #[.int .i64 0, .int .i64 0, .int .i64 0, .int .i64 0, .int .i64 0, .int .i64 0, .int .i64 0, .int .i64 0, .int .i64 0, .int .i64 0] 63)
  have Z0 := z10_new (w.alloc (.cells (fv (some ⟨bc, oc, none⟩) n ce FT PU PV) 52)) 63
  have f0 : (w.alloc (.cells (fv (some ⟨bc, oc, none⟩) n ce FT PU PV) 52)).cell? ⟨w.heap.size, 0, none⟩ = some (.slice (some ⟨bc, oc, none⟩) n ce) := by simp [fv, go_sem]
  have f2 : (w.alloc (.cells (fv (some ⟨bc, oc, none⟩) n ce FT PU PV) 52)).cell? ⟨w.heap.size, 2, none⟩ = some (.slice (some ⟨PU, 0, none⟩) n n) := by simp [fv, go_sem]
  have f3 : (w.alloc (.cells (fv (some ⟨bc, oc, none⟩) n ce FT PU PV) 52)).cell? ⟨w.heap.size, 3, none⟩ = some (.slice (some ⟨PV, 0, none⟩) n n) := by simp [fv, go_sem]
  rw [World.size_alloc] at Z0
  have bnW := bnA.trans (bnB.mono (by simp))
  have hz : w.heap.size + 1 < ((w.alloc (.cells (fv (some ⟨bc, oc, none⟩) n ce FT PU PV) 52)).alloc (.cells #[.int .i64 0, .int .i64 0, .int .i64 0, .int .i64 0, .int .i64 0, .int .i64 0, .int .i64 0, .int .i64 0, .int .i64 0, .int .i64 0] 63)).heap.size := by simp
  have g0 := (bnB.cell (p := ⟨w.heap.size, 0, none⟩) (by simp)).trans f0
  have g2 := (bnB.cell (p := ⟨w.heap.size, 2, none⟩) (by simp)).trans f2
  have g3 := (bnB.cell (p := ⟨w.heap.size, 3, none⟩) (by simp)).trans f3
  obtain ⟨W1, hW1⟩ : ∃ W1, W1 = (w.alloc (.cells (fv (some ⟨bc, oc, none⟩) n ce FT PU PV) 52)).alloc (.cells #[.int .i64 0, .int .i64 0, .int .i64 0, .int .i64 0, .int .i64 0, .int .i64 0, .int .i64 0, .int .i64 0, .int .i64 0, .int .i64 0] 63) := ⟨_, rfl⟩
  rw [← hW1] at Z0 bnW hz g0 g2 g3
  have HW1 := hide hW1.symm
  have r2 := (bnW.cell (p := ⟨bc, oc + i, none⟩) hbc).trans r1
  have HRO := hide (ro_any (c := ci) HCi.out n1 n10 (R1.below bnW))
  have HBW := hide bnW
  have HZ0 := hide Z0
  have i0 : (0 : Int) ≤ (i : Int) := by omega
  have i1 : (i : Int) < (n : Int) := by omega
  clear bnA bnB bnW f0 f2 f3 hW1 R1 hcc r1 Z0
  generalize fv (some ⟨bc, oc, none⟩) n ce FT PU PV = arr at *
  go_enter Try.func53, Try.ntmps53
  go_upto_region 1 with fail
  rw [HW1.out]
  clear HW1
  go_wp2_with fail
  refine HRO.out.mono ?_
  rintro e w2 ⟨rfl, hb2⟩
  go_upto_region 2 with (refine wr_store rfl _ _ rfl rfl rfl (hide (z10_new _ _)) (Hu.pad_len _) ?_; intro w3 A3 T3)
  have hb3 := below_in hb2 ((below_new w2 _).trans (T3.2.1 _ (Nat.le_refl _)))
  have q2 := (hb3.cell (p := ⟨w.heap.size, 2, none⟩) (by show w.heap.size < _; omega)).trans g2
  have q3 := (hb3.cell (p := ⟨w.heap.size, 3, none⟩) (by show w.heap.size < _; omega)).trans g3
  have HZ3 := hide (HZ0.out.below hb3)
  have HB3 := hide (HBW.out.trans (hb3.mono HBW.out.size))
  have hR2 : w.heap.size + 1 < w2.heap.size := by have := hb2.size; omega
  have HA3 := hide A3
  obtain ⟨R, hRe⟩ : ∃ R, R = w2.heap.size := ⟨_, rfl⟩
  rw [← hRe] at HA3 hR2 ⊢
  clear A3 T3 hb2 hb3 g0 g2 g3 hRe r2
  go_wp2_with fail
  refine (HBP.out _ (HU.out.below HB3.out) (HV.out.below HB3.out)).mono ?_
  rintro e w4 ⟨rfl, hb4⟩
  have HA4 := hide (HA3.out.below hb4)
  have HZ4 := hide (HZ3.out.below hb4)
  have HB4 := hide (HB3.out.trans (hb4.mono HB3.out.size))
  clear hb4 HA3 HZ3 HB3
  go_wp2_with fail
  go_loopw [6, 7, 18] (fun _ _ s wr => ∃ (k : Nat) (zs : List Int), s = .int .i64 k ∧ k ≤ 10 ∧ Hid (R10 wr R zs) ∧ Hid (R10 wr (w.heap.size + 1) z10) ∧ Hid (∀ j, j < 10 → zs.getD j 0 = if j < k then (Hu.restR C us vs i).getD j 0 else (Hu.pad (C.getD i [])).getD j 0) ∧ Hid (Below w.heap.size w wr)) (fun _ _ s _ => 10 - (intOf s).toNat)
  case atStart => exact ⟨0, Hu.pad (C.getD i []), rfl, Nat.zero_le _, HA4, HZ4, hide fun j hj => by simp, HB4⟩
  case round =>
    clear HA4 HZ4 HB4
    obtain ⟨k, zs, rfl, hk, HX, HZ, HD, HB⟩ := hrel
    by_cases hlt : k < 10
    · have j0 : (0 : Int) ≤ (k : Int) := by omega
      have j1 : (k : Int) < 10 := by omega
      have c0 := (HX.out.2.2 k hlt).1
      have f0 := (HX.out.2.2 k hlt).2
      rw [HD.out k hlt, if_neg (by omega)] at c0
      have hix := HIX.out k hlt
      have b1 := HBB.out k hlt
      have b2 := HCB.out k hlt
      have HRS : Hid ((Hu.restR C us vs i).getD k 0 = (Hu.pad (C.getD i [])).getD k 0 - (Hu.bothR us vs i).getD k 0) := hide (by rw [Hu.restR, Hu.tab_get _ hlt])
      have HSET : Hid (∀ j, j < 10 → (zs.set k ((Hu.pad (C.getD i [])).getD k 0 - (Hu.bothR us vs i).getD k 0)).getD j 0 = if j < k + 1 then (Hu.restR C us vs i).getD j 0 else (Hu.pad (C.getD i [])).getD j 0) := hide fun j hj => by
        rw [Hu.set_get9 _ _ _ _ (by have := HX.out.1; omega)]
        by_cases e : j = k
        · subst e; rw [if_pos rfl, if_pos (by omega), HRS.out]
        · rw [if_neg e, HD.out j hj]
          by_cases q : j < k
          · rw [if_pos q, if_pos (by omega)]
          · rw [if_neg q, if_neg (by omega)]
      generalize (Hu.pad (C.getD i [])).getD k 0 = x at *
      generalize (Hu.bothR us vs i).getD k 0 = y at *
      have HST := hide (HX.out.set k (x - y) hlt)
      have HZT := hide (HZ.out.other (b' := R) (k := k) (v := .int .i64 (x - y)) (by omega))
      have HBT := hide (HB.out.setCell (p := ⟨R, k, none⟩) (by show w.heap.size ≤ R; omega) (.int .i64 (x - y)))
      go_wp2_with fail
      go_roundw
      case rel => exact ⟨k + 1, zs.set k (x - y), by go_num, by omega, HST, HZT, HSET, HBT⟩
      case measure => simp only [intOf]; omega
    · have hke : k = 10 := by omega
      subst hke
      have HE : Hid (zs = Hu.restR C us vs i) := hide (Hu.ext10 HX.out.1 (Hu.tab_len _ _) (fun j hj => by rw [HD.out j hj, if_pos hj]))
      rw [HE.out] at HX
      go_wp2_with (first | (refine wr_load rfl _ rfl rfl HX ?_) | (refine wr_store rfl _ _ rfl rfl rfl HZ (Hu.tab_len _ _) ?_; intro w5 A5 T5))
      exact bodyPost_ret (v := .agg (tv (Hu.restR C us vs i))) (res_row Try.results53 rfl A5) rfl ⟨rfl, HB.out.trans (T5.2.1 _ (by omega))⟩
end Go.Proofs.Ytkebaklmkidfoaa
namespace Go.Proofs.Ytkebaklmkidfoaa
open Go.RowKit

theorem addAt_bd {y Y : Int} (hy1 : -Y ≤ y) (hy2 : y ≤ Y) (hY : 0 ≤ Y) : ∀ (l : List Nat) (us : List Int) (A : Int), 0 ≤ A → (∀ i, -A ≤ us.getD i 0 ∧ us.getD i 0 ≤ A) → ∀ i, -(A + Y * l.length) ≤ (Hu.addAt y us l).getD i 0 ∧ (Hu.addAt y us l).getD i 0 ≤ A + Y * l.length
  | [], us, A, _, h, i => by simpa [Hu.addAt] using h i
  | j :: l, us, A, hA, h, i => by
    rw [Hu.addAt]
    have := addAt_bd hy1 hy2 hY l (us.set j (us.getD j 0 + y)) (A + Y) (by omega) (fun t => ?_) i
    · rw [List.length_cons]
      have e : A + Y * ((l.length + 1 : Nat) : Int) = A + Y + Y * (l.length : Int) := by rw [Int.natCast_add, Int.mul_add]; omega
      rw [e]; exact this
    · by_cases ht : t < us.length
      · rw [Hu.set_get9 _ _ _ _ ht]
        have h1 := h t
        have h2 := h j
        split <;> omega
      · rw [List.getD_eq_getElem?_getD, List.getElem?_eq_none (by simp; omega)]
        simp only [Option.getD_none]
        omega
theorem Off2.refl (w : World) (x y : Nat) : Off2 w w x y := ⟨rfl, rfl, rfl, Nat.le_refl _, fun _ _ _ _ => rfl⟩
theorem Off2.set {w w1 : World} {x y k g : Nat} (h : Off2 w w1 x y) (v : Value) (hg : g = x ∨ g = y) : Off2 w (w1.setCell ⟨g, k, none⟩ v) x y :=
  ⟨h.os, h.tape, h.output, by simpa using h.size, fun b hb h1 h2 => (Below.heap_setCell _ _ _ _ (by rcases hg with rfl | rfl <;> simp <;> omega)).trans (h.block b hb h1 h2)⟩
theorem Off2.drew {w w1 : World} {x y : Nat} (h : Off2 w w1 x y) : Off2 w w1.drew x y := ⟨h.os, h.tape, h.output, h.size, h.block⟩
theorem Off2.cell {w w1 : World} {x y b o : Nat} (h : Off2 w w1 x y) (hb : b < w.heap.size) (h1 : b ≠ x) (h2 : b ≠ y) : w1.cell? ⟨b, o, none⟩ = w.cell? ⟨b, o, none⟩ := World.cell?_of_block (w := w) (a := ⟨b, o, none⟩) (h.block b hb h1 h2)
theorem Off2.arow {w w1 : World} {x y : Nat} {a : Option Addr} {xs : List Int} (h : Off2 w w1 x y) (ha : ARow w a xs) (hd : ∀ b o, a = some ⟨b, o, none⟩ → b ≠ x ∧ b ≠ y) : ARow w1 a xs := by
  rcases ha with e | ⟨b, o, rfl, hb, hc⟩
  · exact Or.inl e
  · obtain ⟨h1, h2⟩ := hd b o rfl
    exact Or.inr ⟨b, o, rfl, Nat.lt_of_lt_of_le hb h.size, fun i hi => (h.cell hb h1 h2).trans (hc i hi)⟩
set_option maxRecDepth 20000 in
set_option maxHeartbeats 8000000 in
theorem sh_any {e a0 a1 a2 : Option Addr} {n ce FT PU PV c0 c1 c2 N0 N1 N2 bs1 bs2 : Nat} {y : Int} {ls gn : List Nat} {us vs xs ys : List Int} {w : World} (hx : xs.length = 10) (hy : ys.length = 10) (hu : us.length = n) (hv : vs.length = n) (h0 : ls.length = N0) (h1 : gn.length = N1) (hN0 : N0 ≤ 100) (hN1 : N1 ≤ 100) (hls : ∀ i ∈ ls, i < n) (hgn : ∀ b ∈ gn, b < n) (y0 : 0 ≤ y) (y1 : y ≤ 10000000000000)
    (gu : Pf.allB us (-100000) 100000 = true) (gv : Pf.allB vs (-100000) 100000 = true) (hne : PU ≠ PV) (ou : w.ownsRow bs1 3 1 (.slice (some ⟨PU, 0, none⟩) n n) n (ints us)) (ov : w.ownsRow bs2 3 1 (.slice (some ⟨PV, 0, none⟩) n n) n (ints vs)) (r0 : ARow w a0 (Hu.cast ls)) (r1 : ARow w a1 (Hu.cast gn)) (d0 : ∀ b o, a0 = some ⟨b, o, none⟩ → b ≠ PU ∧ b ≠ PV) (d1 : ∀ b o, a1 = some ⟨b, o, none⟩ → b ≠ PU ∧ b ≠ PV) :
    Calls Try.prog 55 #[.agg (fv e n ce FT PU PV), .agg (sl9 (.slice a0 N0 c0) (.slice a1 N1 c1) (.slice a2 N2 c2) xs ys).toArray, .int .i64 y] w fun e w' => e = .returned (.tuple #[]) ∧ w'.ownsRow bs1 3 1 (.slice (some ⟨PU, 0, none⟩) n n) n (ints (Hu.addAt y us ls)) ∧ w'.ownsRow bs2 3 1 (.slice (some ⟨PV, 0, none⟩) n n) n (ints (Hu.addAt (-y) vs gn)) ∧ Off2 w w' PU PV := by
  have lu := (ou.lt PU rfl).2
  have lv := (ov.lt PV rfl).2
  have bnA := below_new w (.cells (fv e n ce FT PU PV) 52)
  have bnB := below_new (w.alloc (.cells (fv e n ce FT PU PV) 52)) (.cells (sl9 (.slice a0 N0 c0) (.slice a1 N1 c1) (.slice a2 N2 c2) xs ys).toArray 79)
  have A := SV.new (w.alloc (.cells (fv e n ce FT PU PV) 52)) (v0 := .slice a0 N0 c0) (v1 := .slice a1 N1 c1) (v2 := .slice a2 N2 c2) hx hy rfl rfl rfl 79
  have f2 : (w.alloc (.cells (fv e n ce FT PU PV) 52)).cell? ⟨w.heap.size, 2, none⟩ = some (.slice (some ⟨PU, 0, none⟩) n n) := by simp [fv, go_sem]
  have f3 : (w.alloc (.cells (fv e n ce FT PU PV) 52)).cell? ⟨w.heap.size, 3, none⟩ = some (.slice (some ⟨PV, 0, none⟩) n n) := by simp [fv, go_sem]
  rw [World.size_alloc] at A
  have g2 := (bnB.cell (p := ⟨w.heap.size, 2, none⟩) (by simp)).trans f2
  have g3 := (bnB.cell (p := ⟨w.heap.size, 3, none⟩) (by simp)).trans f3
  have bnW := bnA.trans (bnB.mono (by simp))
  obtain ⟨W1, hW1⟩ : ∃ W1, W1 = (w.alloc (.cells (fv e n ce FT PU PV) 52)).alloc (.cells (sl9 (.slice a0 N0 c0) (.slice a1 N1 c1) (.slice a2 N2 c2) xs ys).toArray 79) := ⟨_, rfl⟩
  rw [← hW1] at A g2 g3 bnW
  have HW1 := hide hW1.symm
  have s0 := A.c0
  have s1 := A.c1
  have hlt := A.lt
  have HR0 := hide (r0.below bnW)
  have HR1 := hide (r1.below bnW)
  have HOU := hide (g_own ou bnW)
  have HOV := hide (g_own ov bnW)
  have HD0 := hide d0
  have HD1 := hide d1
  have H0 := hide h0
  have H1 := hide h1
  have HLS := hide hls
  have HGN := hide hgn
  have HU := hide hu
  have HV := hide hv
  have HBW := hide bnW
  have HBU : Hid (∀ k, k ≤ N0 → ∀ i, -2000000000000000 ≤ (Hu.addAt y us (ls.take k)).getD i 0 ∧ (Hu.addAt y us (ls.take k)).getD i 0 ≤ 2000000000000000) := hide fun k hk i => by
    have := addAt_bd (y := y) (Y := 10000000000000) (by omega) (by omega) (by omega) (ls.take k) us 100000 (by omega) (fun t => by
      by_cases ht : t < us.length
      · have := Pf.inB_yes (Pf.allB_get gu ht); omega
      · rw [List.getD_eq_getElem?_getD, List.getElem?_eq_none (by omega)]; simp) i
    have hl : (ls.take k).length ≤ 100 := by rw [List.length_take]; omega
    omega
  have HBV : Hid (∀ k, k ≤ N1 → ∀ i, -2000000000000000 ≤ (Hu.addAt (-y) vs (gn.take k)).getD i 0 ∧ (Hu.addAt (-y) vs (gn.take k)).getD i 0 ≤ 2000000000000000) := hide fun k hk i => by
    have := addAt_bd (y := -y) (Y := 10000000000000) (by omega) (by omega) (by omega) (gn.take k) vs 100000 (by omega) (fun t => by
      by_cases ht : t < vs.length
      · have := Pf.inB_yes (Pf.allB_get gv ht); omega
      · rw [List.getD_eq_getElem?_getD, List.getElem?_eq_none (by omega)]; simp) i
    have hl : (gn.take k).length ≤ 100 := by rw [List.length_take]; omega
    omega
  generalize fv e n ce FT PU PV = arr at *
  generalize (sl9 (.slice a0 N0 c0) (.slice a1 N1 c1) (.slice a2 N2 c2) xs ys).toArray = arr2 at *
  clear bnA bnB A f2 f3 bnW hW1 r0 r1 ou ov gu gv d0 d1 h0 h1 hls hgn hu hv
  go_enter Try.func55, Try.ntmps55
  go_upto_region 1 with fail
  rw [HW1.out]
  clear HW1
  go_wp2_with fail
  go_loopw [7, 13] (fun _ s wr => ∃ (k : Nat), s = .int .i64 k ∧ k ≤ N0 ∧ Hid (wr.ownsRow bs1 3 1 (.slice (some ⟨PU, 0, none⟩) n n) n (ints (Hu.addAt y us (ls.take k)))) ∧ Hid (wr.ownsRow bs2 3 1 (.slice (some ⟨PV, 0, none⟩) n n) n (ints vs)) ∧ Hid (Off2 W1 wr PU PV)) (fun _ s _ => N0 - (intOf s).toNat)
  case atStart => exact ⟨0, rfl, Nat.zero_le _, HOU, HOV, hide (Off2.refl _ _ _)⟩
  case round =>
    obtain ⟨k, rfl, hk, HO, HW, HF⟩ := hrel
    by_cases hlt0 : k < N0
    · have hkl : k < ls.length := by rw [H0.out]; exact hlt0
      obtain ⟨b2, o2, rfl, q1⟩ := (HF.out.arow HR0.out HD0.out).at (i := k) (by rw [Hu.cast_len]; exact hkl)
      rw [Hu.cast_get ls hkl] at q1
      have hln := HLS.out _ (getD_mem9 ls hkl)
      have q2 := (HF.out.cell (b := w.heap.size) (o := 2) (by omega) (by omega) (by omega)).trans g2
      have hal : (Hu.addAt y us (ls.take k)).length = n := by rw [Hu.addAt_len, HU.out]
      have q3 : wr.cell? ⟨PU, ls.getD k 0, none⟩ = some (.int .i64 ((Hu.addAt y us (ls.take k)).getD (ls.getD k 0) 0)) := by rw [HO.out.cellAt _ (by omega), ints_get _ _ (by omega)]
      have q4 := HO.out.frozenAt (ls.getD k 0)
      have bx := HBU.out k hk (ls.getD k 0)
      have HSN : Hid ((Hu.addAt y us (ls.take k)).set (ls.getD k 0) ((Hu.addAt y us (ls.take k)).getD (ls.getD k 0) 0 + y) = Hu.addAt y us (ls.take (k + 1))) := hide (by
        rw [← Hu.addAt_snoc]
        congr 1
        rw [List.take_add_one, List.getElem?_eq_getElem hkl]; simp [hkl])
      generalize (Hu.addAt y us (ls.take k)).getD (ls.getD k 0) 0 = x at *
      obtain ⟨st1, st2⟩ := HO.out.stored (ls.getD k 0) (.int .i64 (x + y))
      rw [ints_set, HSN.out] at st1
      have HST := hide st1
      generalize ls.getD k 0 = q at *
      have HF2 := hide (HF.out.set (k := q) (.int .i64 (x + y)) (Or.inl rfl))
      have HW2 := hide (HW.out.kept (w' := wr.setCell ⟨PU, q, none⟩ (.int .i64 (x + y))) st2 (Or.inr (by simp [Value.ownBlock]; omega)))
      have i0 : (0 : Int) ≤ (k : Int) := by omega
      have i1 : (k : Int) < (N0 : Int) := by omega
      have j0 : (0 : Int) ≤ (q : Int) := by omega
      have j1 : (q : Int) < (n : Int) := by omega
      clear st1 st2
      go_wp2_with fail
      go_roundw
      case rel => exact ⟨k + 1, by go_num, by omega, HST, HW2, HF2⟩
      case measure => simp only [intOf]; omega
    · have hke : k = N0 := by omega
      subst hke
      have HO1 : Hid (wr.ownsRow bs1 3 1 (.slice (some ⟨PU, 0, none⟩) n n) n (ints (Hu.addAt y us ls))) := hide (by
        have := HO.out
        rwa [List.take_of_length_le (by rw [H0.out]; omega)] at this)
      have s1' := (HF.out.cell (b := w.heap.size + 1) (o := 1) (by omega) (by omega) (by omega)).trans s1
      clear HO HR0 HD0 HLS HBU
      go_wp2_with fail
      go_loopw [9, 30] (fun _ s wr => ∃ (j : Nat), s = .int .i64 j ∧ j ≤ N1 ∧ Hid (wr.ownsRow bs2 3 1 (.slice (some ⟨PV, 0, none⟩) n n) n (ints (Hu.addAt (-y) vs (gn.take j)))) ∧ Hid (wr.ownsRow bs1 3 1 (.slice (some ⟨PU, 0, none⟩) n n) n (ints (Hu.addAt y us ls))) ∧ Hid (Off2 W1 wr PU PV)) (fun _ s _ => N1 - (intOf s).toNat)
      case atStart => exact ⟨0, rfl, Nat.zero_le _, HW, HO1, HF⟩
      case round =>
        clear HW HO1 HF s1'
        obtain ⟨j, rfl, hj, HO, HW, HF⟩ := hrel
        by_cases hlt1 : j < N1
        · have hjl : j < gn.length := by rw [H1.out]; exact hlt1
          obtain ⟨b2, o2, rfl, q1⟩ := (HF.out.arow HR1.out HD1.out).at (i := j) (by rw [Hu.cast_len]; exact hjl)
          rw [Hu.cast_get gn hjl] at q1
          have hln := HGN.out _ (getD_mem9 gn hjl)
          have q2 := (HF.out.cell (b := w.heap.size) (o := 3) (by omega) (by omega) (by omega)).trans g3
          have hal : (Hu.addAt (-y) vs (gn.take j)).length = n := by rw [Hu.addAt_len, HV.out]
          have q3 : wr.cell? ⟨PV, gn.getD j 0, none⟩ = some (.int .i64 ((Hu.addAt (-y) vs (gn.take j)).getD (gn.getD j 0) 0)) := by rw [HO.out.cellAt _ (by omega), ints_get _ _ (by omega)]
          have q4 := HO.out.frozenAt (gn.getD j 0)
          have bx := HBV.out j hj (gn.getD j 0)
          have HSN : Hid ((Hu.addAt (-y) vs (gn.take j)).set (gn.getD j 0) ((Hu.addAt (-y) vs (gn.take j)).getD (gn.getD j 0) 0 - y) = Hu.addAt (-y) vs (gn.take (j + 1))) := hide (by
            rw [Int.sub_eq_add_neg, ← Hu.addAt_snoc]
            congr 1
            rw [List.take_add_one, List.getElem?_eq_getElem hjl]; simp [hjl])
          generalize (Hu.addAt (-y) vs (gn.take j)).getD (gn.getD j 0) 0 = x at *
          obtain ⟨st1, st2⟩ := HO.out.stored (gn.getD j 0) (.int .i64 (x - y))
          rw [ints_set, HSN.out] at st1
          have HST := hide st1
          generalize gn.getD j 0 = q at *
          have HF2 := hide (HF.out.set (k := q) (.int .i64 (x - y)) (Or.inr rfl))
          have HW2 := hide (HW.out.kept (w' := wr.setCell ⟨PV, q, none⟩ (.int .i64 (x - y))) st2 (Or.inr (by simp [Value.ownBlock]; omega)))
          have i0 : (0 : Int) ≤ (j : Int) := by omega
          have i1 : (j : Int) < (N1 : Int) := by omega
          have j0 : (0 : Int) ≤ (q : Int) := by omega
          have j1 : (q : Int) < (n : Int) := by omega
          clear st1 st2
          go_wp2_with fail
          go_roundw
          case rel => exact ⟨j + 1, by go_num, by omega, HST, HW2, HF2⟩
          case measure => simp only [intOf]; omega
        · have hje : j = N1 := by omega
          subst hje
          have HO2 : Hid (wr.ownsRow bs2 3 1 (.slice (some ⟨PV, 0, none⟩) n n) n (ints (Hu.addAt (-y) vs gn))) := hide (by
            have := HO.out
            rwa [List.take_of_length_le (by rw [H1.out]; omega)] at this)
          have HFF : Hid (Off2 w wr PU PV) := hide ⟨HF.out.os.trans HBW.out.os, HF.out.tape.trans HBW.out.tape, HF.out.output.trans HBW.out.output, Nat.le_trans HBW.out.size HF.out.size, fun b hb h1 h2 => (HF.out.block b (Nat.lt_of_lt_of_le hb HBW.out.size) h1 h2).trans (HBW.out.block b hb)⟩
          go_wp2_with fail
          go_end0
          exact ⟨rfl, HW.out, HO2.out, HFF.out⟩
end Go.Proofs.Ytkebaklmkidfoaa
namespace Go.Proofs.Ytkebaklmkidfoaa
open Go.RowKit

/-- Numbers behind p gone one to the front, up to i. -/
def shl (lf : List Int) (p i : Nat) : List Int := (List.range lf.length).map fun t => if p ≤ t ∧ t < i then lf.getD (t + 1) 0 else lf.getD t 0
theorem shl_len (lf : List Int) (p i : Nat) : (shl lf p i).length = lf.length := by simp [shl]
theorem shl_get (lf : List Int) (p i : Nat) {t : Nat} (h : t < lf.length) : (shl lf p i).getD t 0 = if p ≤ t ∧ t < i then lf.getD (t + 1) 0 else lf.getD t 0 := by simp [shl, h]
theorem shl_zero (lf : List Int) (p : Nat) : shl lf p p = lf := by
  apply List.ext_getElem
  · simp [shl]
  · intro t h1 h2
    simp [shl, h2, show ¬ (p ≤ t ∧ t < p) by omega]
theorem shl_set (lf : List Int) {p i : Nat} (hp : p ≤ i) : (shl lf p i).set i (lf.getD (i + 1) 0) = shl lf p (i + 1) := by
  apply List.ext_getElem
  · simp [shl]
  · intro t h1 h2
    simp [shl] at h1
    rw [List.getElem_set]
    by_cases e : i = t
    · subst e; simp [shl, hp]
    · simp only [e, if_false, shl, List.getElem_map, List.getElem_range]
      by_cases q : p ≤ t ∧ t < i
      · rw [if_pos q, if_pos ⟨q.1, by omega⟩]
      · rw [if_neg q, if_neg (by omega)]
theorem shl_end (lf : List Int) {p M : Nat} (hM : lf.length = M + 1) (hp : p ≤ M) : (shl lf p M).take M = lf.eraseIdx p := by
  apply List.ext_getElem
  · rw [List.length_take, shl_len, List.length_eraseIdx_of_lt (by omega), hM]; omega
  · intro t h1 h2
    rw [List.length_take, shl_len] at h1
    rw [List.getElem_take, List.getElem_eraseIdx]
    simp only [shl, List.getElem_map, List.getElem_range]
    by_cases q : t < p
    · rw [dif_pos q, if_neg (by omega)]
      simp [show t < lf.length by omega]
    · rw [dif_neg q, if_pos ⟨by omega, by omega⟩]
      simp [show t + 1 < lf.length by omega]
set_option maxRecDepth 100000 in
set_option maxHeartbeats 400000 in
theorem cg_any {Q : Nat} {x d : Int} {w : World} (h : w.cell? ⟨Q, 0, none⟩ = some (.int .i64 d)) :
    Calls Try.prog 69 #[.int .i64 x, .pointer (some ⟨Q, 0, none⟩)] w fun e w' => e = .returned (.bool (x == d)) ∧ w' = w := by
  go_enter Try.func69, Try.ntmps69
  go_wp2_with fail
  go_ret
  exact ⟨rfl, rfl⟩
set_option maxRecDepth 100000 in
set_option maxHeartbeats 2000000 in
theorem if_any {Q p N c : Nat} {d : Int} {a : Option Addr} {lf : List Int} {w : World} (hN : lf.length = N) (hp : p < N) (hd : lf.getD p 0 = d) (hne : ∀ j, j < p → lf.getD j 0 ≠ d) (h100 : N ≤ 1000) (hQ : w.cell? ⟨Q, 0, none⟩ = some (.int .i64 d)) (ha : ARow w a lf) :
    Calls Try.prog 70 #[.slice a N c, .func (.func 69) #[] #[.pointer (some ⟨Q, 0, none⟩)]] w fun e w' => e = .returned (.int .i64 (p : Int)) ∧ w' = w := by
  have eg : ∀ args w, (callFunc 69 args).run Try.prog w = .ok (.enter 69 args) w := enters_of Try.func69 (by kernel_rfl) rfl
  have HC := hide fun (x : Int) => cg_any (x := x) hQ
  have HA := hide ha
  have HN := hide hN
  have HD := hide hd
  have HNE := hide hne
  clear ha hN hd hne hQ
  go_enter Try.func70, Try.ntmps70
  go_wp2_with fail
  go_loop [4, 5, 8] (fun s4 _ s => ∃ (k : Nat), s4 = .int .i64 0 ∧ s = .int .i64 k ∧ k ≤ p) (fun _ _ s => N - (intOf s).toNat)
  case atStart => exact ⟨0, rfl, rfl, Nat.zero_le _⟩
  case round =>
    obtain ⟨k, rfl, rfl, hk⟩ := hrel
    obtain ⟨b2, o2, rfl, r1⟩ := HA.out.at (i := k) (by rw [HN.out]; omega)
    have i0 : (0 : Int) ≤ (k : Int) := by omega
    have i1 : (k : Int) < (N : Int) := by omega
    by_cases hkp : k < p
    · have hb : (lf.getD k 0 == d) = false := by simpa using HNE.out k hkp
      have HCC := hide (HC.out (lf.getD k 0))
      rw [hb] at HCC
      generalize lf.getD k 0 = x at *
      clear hb
      go_wp2_with (go_at_fn 69; refine HCC.out.mono ?_; rintro e w1 ⟨rfl, hw1⟩; obtain rfl := hw1)
      go_round
      case rel => exact ⟨k + 1, rfl, by go_num, by omega⟩
      case measure => simp only [intOf]; omega
    · have hke : k = p := by omega
      subst hke
      have HCC := hide (HC.out (lf.getD k 0))
      rw [show (lf.getD k 0 == d) = true by rw [HD.out]; simp] at HCC
      generalize lf.getD k 0 = x at *
      go_wp2_with (go_at_fn 69; refine HCC.out.mono ?_; rintro e w1 ⟨rfl, hw1⟩; obtain rfl := hw1)
      go_ret
      exact ⟨rfl, rfl⟩
/-- The front of an owned list is owned. -/
theorem own_take {w : World} {base g n cap m : Nat} {xs : List Int} (h : w.ownsRow base 3 1 (.slice (some ⟨g, 0, none⟩) n cap) n (ints xs)) (hm : m ≤ n) : w.ownsRow base 3 1 (.slice (some ⟨g, 0, none⟩) m cap) m (ints (xs.take m)) := by
  have hl : xs.length = n := by have := h.1; rw [ints_len] at this; omega
  refine ⟨by rw [ints_len, List.length_take]; omega, ?_⟩
  rcases h.2 with ⟨h0, _⟩ | ⟨g', cap', cur, hv, hb, hg, h1, h2, h3, h4⟩
  · cases h0
  · cases hv
    refine Or.inr ⟨g, cap, cur, rfl, hb, hg, by omega, h2, h3, ?_⟩
    have e : ints (xs.take m) = (ints xs).take m := by simp [ints, List.map_take]
    rw [e, ← h4, List.take_take, Nat.min_eq_left (by omega), Nat.mul_one]
theorem zero3 : ∀ w, (zeroValue 3).run Try.prog w = .ok (.int .i64 0) w := fun w => by
  obtain ⟨i, hi, hz, _⟩ := infoI
  simp [zeroValue, typeInfo, hi, hz]
set_option maxRecDepth 20000 in
set_option maxHeartbeats 4000000 in
theorem df_any {base g Q p M cap : Nat} {d : Int} {lf : List Int} {w : World} (hM : lf.length = M + 1) (hp : p ≤ M) (hd : lf.getD p 0 = d) (hne : ∀ j, j < M + 1 → j ≠ p → lf.getD j 0 ≠ d) (h100 : M ≤ 900) (hQ : w.cell? ⟨Q, 0, none⟩ = some (.int .i64 d)) (hQg : Q ≠ g) (hQl : Q < w.heap.size) (ho : w.ownsRow base 3 1 (.slice (some ⟨g, 0, none⟩) (M + 1) cap) (M + 1) (ints lf)) :
    Calls Try.prog 68 #[.slice (some ⟨g, 0, none⟩) (M + 1) cap, .func (.func 69) #[] #[.pointer (some ⟨Q, 0, none⟩)]] w fun e w' => e = .returned (.slice (some ⟨g, 0, none⟩) M cap) ∧ w'.ownsRow base 3 1 (.slice (some ⟨g, 0, none⟩) M cap) M (ints (lf.eraseIdx p)) ∧ w.grownBy w' (some g) := by
  have eg : ∀ args w, (callFunc 69 args).run Try.prog w = .ok (.enter 69 args) w := enters_of Try.func69 (by kernel_rfl) rfl
  have hcap : M + 1 ≤ cap := by
    rcases ho.2 with ⟨h0, _⟩ | ⟨g', cap', cur, hv, _, _, h1, _⟩
    · cases h0
    · cases hv; exact h1
  have hcm : cap ≤ maxLen := by
    rcases ho.2 with ⟨h0, _⟩ | ⟨g', cap', cur, hv, _, _, _, h1, _⟩
    · cases h0
    · cases hv; exact h1
  unfold maxLen at hcm
  have HIF := hide (if_any (c := cap) hM (show p < M + 1 by omega) hd (fun j hj => hne j (by omega) (by omega)) (by omega) hQ (arow_owns hM.symm ho))
  have HNE := hide hne
  have HM := hide hM
  have HO0 : Hid (w.ownsRow base 3 1 (.slice (some ⟨g, 0, none⟩) (M + 1) cap) (M + 1) (ints (shl lf p p))) := hide (by rw [shl_zero]; exact ho)
  have HQ := hide hQ
  have hpn : ((p : Int) == -1) = false := by simp
  obtain ⟨N, hN⟩ : ∃ N, N = M + 1 := ⟨_, rfl⟩
  rw [← hN] at HIF HM HO0 hcap ⊢
  have HNe := hide hN
  have hMN : M < N := by omega
  have hN2 : N ≤ 1001 := by omega
  clear hM hd hne hQ ho hN
  go_enter Try.func68, Try.ntmps68
  go_wp2_with fail
  refine HIF.out.mono ?_
  rintro e w1 ⟨rfl, hw1⟩
  obtain rfl : w = w1 := hw1.symm
  clear HIF
  go_wp2_with fail
  go_loopw [5, 6, 7] (fun s5 s6 _ wr => ∃ (i : Nat), s5 = .int .i64 i ∧ s6 = .int .i64 ((i : Int) + 1) ∧ p ≤ i ∧ i ≤ M ∧ Hid (wr.ownsRow base 3 1 (.slice (some ⟨g, 0, none⟩) N cap) N (ints (shl lf p i))) ∧ Hid (w.grownBy wr (some g))) (fun s5 _ _ _ => M - (intOf s5).toNat)
  case atStart => exact ⟨p, rfl, by go_num, Nat.le_refl _, hp, HO0, hide (World.grownBy.refl _ _)⟩
  case round =>
    clear HO0
    obtain ⟨i, rfl, rfl, hpi, hi, HO, HG⟩ := hrel
    by_cases hlt : i < M
    · have hil : i + 1 < lf.length := by rw [HM.out]; have := HNe.out; omega
      have hN1 : (i : Int) + 1 < (N : Int) := by have := HNe.out; omega
      have t0 : (0 : Int) ≤ (i : Int) + 1 := by omega
      have t1 : (i : Int) < (N : Int) := by omega
      have t2 : (0 : Int) ≤ (i : Int) := by omega
      have hN1' : i + 1 < N := by omega
      have c1 : wr.cell? ⟨g, i + 1, none⟩ = some (.int .i64 (lf.getD (i + 1) 0)) := by
        rw [HO.out.cellAt (i + 1) (by omega), ints_get _ _ (by rw [shl_len]; exact hil), shl_get _ _ _ hil, if_neg (by omega)]
      have c0 : wr.cell? ⟨g, i, none⟩ = some (.int .i64 ((shl lf p i).getD i 0)) := by
        rw [HO.out.cellAt i (by omega), ints_get _ _ (by rw [shl_len]; omega)]
      have f0 := HO.out.frozenAt i
      have hQ := (World.cell?_of_block (w := w) (a := ⟨Q, 0, none⟩) (HG.out.block Q hQl (by simpa using hQg))).trans HQ.out
      have hb : (lf.getD (i + 1) 0 == d) = false := by simpa using HNE.out (i + 1) (by have := HNe.out; omega) (by omega)
      have HCC := hide (cg_any (x := lf.getD (i + 1) 0) hQ)
      rw [hb] at HCC
      have HSS := hide (shl_set lf hpi)
      generalize lf.getD (i + 1) 0 = x at *
      obtain ⟨st1, st2⟩ := HO.out.stored i (.int .i64 x)
      rw [ints_set, HSS.out] at st1
      have HST := hide st1
      have HG2 : Hid (w.grownBy (wr.setCell ⟨g, i, none⟩ (.int .i64 x)) (some g)) := hide ⟨st2.os.trans HG.out.os, st2.tape.trans HG.out.tape, st2.output.trans HG.out.output, Nat.le_trans HG.out.size st2.size, fun b hb hne => (st2.block b (Nat.lt_of_lt_of_le hb HG.out.size) hne).trans (HG.out.block b hb hne)⟩
      generalize (shl lf p i).getD i 0 = z at c0
      clear hb st1 st2
      go_wp2_with (go_at_fn 69; refine HCC.out.mono ?_; rintro e w1 ⟨rfl, hw1⟩; obtain rfl : wr = w1 := hw1.symm)
      exact ⟨⟨i + 1, by go_num, by go_num, by omega, by omega, HST, HG2⟩, by simp only [intOf]; omega⟩
    · have hie : i = M := by omega
      subst hie
      have hN1 : ¬ (i : Int) + 1 < (N : Int) := by have := HNe.out; omega
      have k0 : (0 : Int) ≤ (i : Int) := by omega
      have k1 : (i : Int) ≤ (N : Int) := by omega
      have k2 : (N : Int) ≤ (cap : Int) := by omega
      have k3 : (i : Int) ≤ (cap : Int) := by omega
      have k4 : ¬ cap = i := by omega
      have k5 : ¬ (cap : Int) = (i : Int) := by omega
      have hsub : N - i = 1 := by have := HNe.out; omega
      have c0 : wr.cell? ⟨g, i, none⟩ = some (.int .i64 ((shl lf p i).getD i 0)) := by
        rw [HO.out.cellAt i (by omega), ints_get _ _ (by rw [shl_len, HM.out]; omega)]
      have f0 := HO.out.frozenAt i
      have hclr := fun ty c => Lib.run_clear_slice (P := Try.prog) wr 25 3 ty (.int .i64 0) Try.underlying25 zero3 rfl rfl g i 1 c (by omega) (fun j hj => by
        have : j = 0 := by omega
        subst this; rw [Nat.add_zero, c0]; rfl) (fun j hj => by
        have : j = 0 := by omega
        subst this; exact f0)
      obtain ⟨st1, st2⟩ := HO.out.stored i (.int .i64 0)
      rw [ints_set] at st1
      have HF : Hid ((wr.setCells g i (List.replicate 1 (.int .i64 0))).ownsRow base 3 1 (.slice (some ⟨g, 0, none⟩) i cap) i (ints (lf.eraseIdx p))) := hide (by
        have h1 := own_take st1 (m := i) (by omega)
        rw [List.take_set_of_le (by omega), shl_end lf (by rw [HM.out]; exact HNe.out) hpi] at h1
        exact h1)
      have HG2 : Hid (w.grownBy (wr.setCells g i (List.replicate 1 (.int .i64 0))) (some g)) := hide ⟨st2.os.trans HG.out.os, st2.tape.trans HG.out.tape, st2.output.trans HG.out.output, Nat.le_trans HG.out.size st2.size, fun b hb hne => (st2.block b (Nat.lt_of_lt_of_le hb HG.out.size) hne).trans (HG.out.block b hb hne)⟩
      obtain ⟨w5, hw5⟩ : ∃ w5, w5 = wr.setCells g i (List.replicate 1 (.int .i64 0)) := ⟨_, rfl⟩
      rw [← hw5] at HF HG2
      have hcl : ∀ ty c, (Builtin.clear_ #[25] ty #[.slice (some ⟨g, i, none⟩) (N - i) c]).run Try.prog wr = .ok (.tuple #[]) w5 := fun ty c => by rw [hsub, hw5]; exact hclr ty c
      clear st1 st2 hclr hw5 c0 hsub
      go_wp2_with fail
      go_ret
      exact ⟨rfl, HF.out, HG2.out⟩
end Go.Proofs.Ytkebaklmkidfoaa
namespace Go.Proofs.Ytkebaklmkidfoaa
open Go.RowKit

theorem decX_nil {xs : List Int} {y : Int} (hx : xs.length = 10) : Hu.decX [] xs y = xs := Hu.ext10 (Hu.tab_len _ _) hx fun i hi => by rw [Hu.decX, Hu.tab_get _ hi]; simp
theorem decX_at {lf : List Nat} {xs : List Int} {y : Int} {j : Nat} (hd : lf.Nodup) (hj : j < lf.length) (h10 : lf.getD j 0 < 10) : (Hu.decX (lf.take j) xs y).getD (lf.getD j 0) 0 = xs.getD (lf.getD j 0) 0 := by
  have hn : lf.getD j 0 ∉ lf.take j := by
    intro hm
    obtain ⟨i, hi, e⟩ := List.getElem_of_mem hm
    simp at hi
    rw [List.getElem_take] at e
    rw [List.getD_eq_getElem?_getD, List.getElem?_eq_getElem hj, Option.getD_some] at e
    exact List.pairwise_iff_getElem.1 hd i j (by omega) hj (by omega) e
  rw [Hu.decX, Hu.tab_get _ h10, if_neg hn]
theorem decX_set {lf : List Nat} {xs : List Int} {y : Int} {j : Nat} (hj : j < lf.length) : (Hu.decX (lf.take j) xs y).set (lf.getD j 0) (xs.getD (lf.getD j 0) 0 - y) = Hu.decX (lf.take (j + 1)) xs y := by
  refine Hu.ext10 (by simp [Hu.decX, Hu.tab]) (Hu.tab_len _ _) fun i hi => ?_
  rw [Hu.set_get9 _ _ _ _ (by simp [Hu.decX, Hu.tab]; exact hi), Hu.decX, Hu.decX, Hu.tab_get _ hi, Hu.tab_get _ hi]
  have e1 : lf.take (j + 1) = lf.take j ++ [lf.getD j 0] := by rw [List.take_add_one, List.getElem?_eq_getElem hj]; simp [hj]
  by_cases e : i = lf.getD j 0
  · rw [if_pos e, if_pos (by rw [e1, e]; simp), e]
  · rw [if_neg e]
    have : i ∈ lf.take (j + 1) ↔ i ∈ lf.take j := by rw [e1, List.mem_append, List.mem_singleton]; exact ⟨fun h => h.resolve_right e, Or.inl⟩
    simp only [this]
/-- One more onto the second list, and its place in the variable. -/
theorem Sr.push1 {w w3 : World} {base b g cap : Nat} {v0 v1 v2 : Value} {ls gn lf xs ys : List Int} {x : Int} {o : Obj} (h : Sr w base b v0 v1 v2 ls gn lf xs ys) (hb : base ≤ w.heap.size)
    (own : w3.ownsRow base 3 1 (.slice (some ⟨g, 0, none⟩) (gn.length + 1) cap) (gn.length + 1) (ints gn ++ [.int .i64 x])) (hg : (w.alloc o).grownBy w3 v1.ownBlock) (hat : v1.ownBlock = some g ∨ g = w.heap.size + 1) :
    Sr (w3.setCell ⟨b, 1, none⟩ (.slice (some ⟨g, 0, none⟩) (gn.length + 1) cap)) base b v0 (.slice (some ⟨g, 0, none⟩) (gn.length + 1) cap) v2 ls (gn ++ [x]) lf xs ys ∧ SV w3 b v0 v1 v2 xs ys ∧ Below base w (w3.setCell ⟨b, 1, none⟩ (.slice (some ⟨g, 0, none⟩) (gn.length + 1) cap)) ∧ g ≠ b ∧ v2.ownBlock ≠ some g := by
  have kp : ∀ k, k < w.heap.size → some k ≠ v1.ownBlock → w3.heap[k]? = w.heap[k]? := fun k hk hne => (hg.block k (by simp; omega) hne).trans ((below_new w o).block k hk)
  have hs3 : w.heap.size ≤ w3.heap.size := Nat.le_trans (by simp) hg.size
  have hgb : g ≠ b := by
    rcases hat with e | e
    · intro h'; subst h'; exact h.d1 e
    · have := h.sv.lt; omega
  have A3 : SV w3 b v0 v1 v2 xs ys := h.sv.keep hs3 (kp b h.sv.lt (fun e => h.d1 e.symm))
  have n0 : v0.ownBlock ≠ some g := by
    rcases hat with e | e
    · intro e'; exact h.d01 g e' e
    · exact ne_of_lt_opt h.o0 (by omega)
  have n2 : v2.ownBlock ≠ some g := by
    rcases hat with e | e
    · exact h.d12 g e
    · exact ne_of_lt_opt h.o2 (by omega)
  have k0 : w3.ownsRow base 3 1 v0 ls.length (ints ls) := own_blk h.o0 fun k hk => kp k (h.o0.lt k hk).2 (fun e => h.d01 k hk e.symm)
  have k2 : w3.ownsRow base 3 1 v2 lf.length (ints lf) := own_blk h.o2 fun k hk => kp k (h.o2.lt k hk).2 (fun e => h.d12 k e.symm hk)
  refine ⟨⟨A3.set1 rfl, own_blk k0 fun k hk => Below.heap_setCell _ _ _ _ (by rintro rfl; exact h.d0 hk), ?_, own_blk k2 fun k hk => Below.heap_setCell _ _ _ _ (by rintro rfl; exact h.d2 hk), h.bb, h.d0, by simp [Value.ownBlock]; exact hgb, h.d2, ?_, h.d02, ?_⟩, A3, ?_, hgb, n2⟩
  · rw [ints_snoc, List.length_append]
    exact own_blk own fun k hk => Below.heap_setCell _ _ _ _ (by simp [Value.ownBlock] at hk; subst hk; exact hgb)
  · intro k hk e; simp [Value.ownBlock] at e; subst e; exact n0 hk
  · intro k hk; simp [Value.ownBlock] at hk; subst hk; exact n2
  · refine Below.setCell ?_ (p := ⟨b, 1, none⟩) h.bb _
    exact ((below_new w o).mono hb).trans (grown_under' hg (h.o1.alloc _) (Nat.le_refl _) (by simp; omega))
/-- The third list shortened in its place. -/
theorem Sr.cut2 {w w3 : World} {base b g cap N M : Nat} {v0 v1 : Value} {ls gn lf lf' xs ys : List Int} (h : Sr w base b v0 v1 (.slice (some ⟨g, 0, none⟩) N cap) ls gn lf xs ys) (hM : lf'.length = M)
    (own : w3.ownsRow base 3 1 (.slice (some ⟨g, 0, none⟩) M cap) M (ints lf')) (hg : w.grownBy w3 (some g)) :
    Sr (w3.setCell ⟨b, 2, none⟩ (.slice (some ⟨g, 0, none⟩) M cap)) base b v0 v1 (.slice (some ⟨g, 0, none⟩) M cap) ls gn lf' xs ys ∧ SV w3 b v0 v1 (.slice (some ⟨g, 0, none⟩) N cap) xs ys ∧ Below base w (w3.setCell ⟨b, 2, none⟩ (.slice (some ⟨g, 0, none⟩) M cap)) := by
  have hgb : g ≠ b := fun e => h.d2 (by rw [e]; rfl)
  have kp : ∀ k, k < w.heap.size → k ≠ g → w3.heap[k]? = w.heap[k]? := fun k hk hne => hg.block k hk (by simpa using hne)
  have A3 : SV w3 b v0 v1 (.slice (some ⟨g, 0, none⟩) N cap) xs ys := h.sv.keep hg.size (kp b h.sv.lt (Ne.symm hgb))
  have k0 : w3.ownsRow base 3 1 v0 ls.length (ints ls) := own_blk h.o0 fun k hk => kp k (h.o0.lt k hk).2 (fun e => h.d02 k hk (by rw [e]; rfl))
  have k1 : w3.ownsRow base 3 1 v1 gn.length (ints gn) := own_blk h.o1 fun k hk => kp k (h.o1.lt k hk).2 (fun e => h.d12 k hk (by rw [e]; rfl))
  have hbg := (h.o2.lt g rfl)
  refine ⟨⟨A3.set2 rfl, own_blk k0 fun k hk => Below.heap_setCell _ _ _ _ (by rintro rfl; exact h.d0 hk), own_blk k1 fun k hk => Below.heap_setCell _ _ _ _ (by rintro rfl; exact h.d1 hk), ?_, h.bb, h.d0, h.d1, by simp [Value.ownBlock]; exact hgb, h.d01, h.d02, h.d12⟩, A3, ?_⟩
  · rw [hM]
    exact own_blk own fun k hk => Below.heap_setCell _ _ _ _ (by simp [Value.ownBlock] at hk; subst hk; exact hgb)
  · refine Below.setCell ?_ (p := ⟨b, 2, none⟩) h.bb _
    exact grown_below' hg hbg.1 (by omega)
end Go.Proofs.Ytkebaklmkidfoaa
namespace Go.Proofs.Ytkebaklmkidfoaa
open Go.RowKit

theorem cast_erase : ∀ (l : List Nat) (p : Nat), (Hu.cast l).eraseIdx p = Hu.cast (l.eraseIdx p)
  | [], p => by simp [Hu.cast]
  | x :: l, 0 => by simp [Hu.cast]
  | x :: l, p + 1 => by
    have := cast_erase l p
    simp only [Hu.cast, List.map_cons, List.eraseIdx_cons_succ] at this ⊢
    rw [this]
set_option maxRecDepth 20000 in
set_option maxHeartbeats 8000000 in
theorem go9_any {base b g2 c2 M p : Nat} {v0 v1 : Value} {ls gn : List Int} {lf : List Nat} {xs ys : List Int} {w : World} (hM : lf.length = M + 1) (hp : p ≤ M) (hd : lf.Nodup) (h10 : ∀ x ∈ lf, x < 10) (hxb : ∀ x ∈ lf, 0 ≤ xs.getD x 0 ∧ xs.getD x 0 ≤ 10000000000000) (hb : base ≤ w.heap.size) (hgl : gn.length ≤ 100) (h : Sr w base b v0 v1 (.slice (some ⟨g2, 0, none⟩) (M + 1) c2) ls gn (Hu.cast lf) xs ys) :
    Calls Try.prog 56 #[.pointer (some ⟨b, 0, none⟩), .int .i64 ((lf.getD p 0 : Nat) : Int)] w fun e w' => e = .returned (.tuple #[]) ∧ (∃ v1', Sr w' base b v0 v1' (.slice (some ⟨g2, 0, none⟩) M c2) ls (gn ++ [((lf.getD p 0 : Nat) : Int)]) (Hu.cast (lf.eraseIdx p)) (Hu.decX lf xs (xs.getD (lf.getD p 0) 0)) ys) ∧ Below base w w' := by
  have hpl : p < lf.length := by omega
  have hd10 := h10 _ (getD_mem9 lf hpl)
  have hyb := hxb _ (getD_mem9 lf hpl)
  have hbl := h.sv.lt
  have hg2l := (h.o2.lt g2 rfl).2
  have HV1 := hide (ne_of_lt_opt h.o1 (Nat.le_refl _))
  have HIDX : Hid (∀ j, j < M + 1 → j ≠ p → (Hu.cast lf).getD j 0 ≠ ((lf.getD p 0 : Nat) : Int)) := hide fun j hj hne e => by
    rw [Hu.cast_get lf (by omega)] at e
    have e' : lf.getD j 0 = lf.getD p 0 := by omega
    rw [List.getD_eq_getElem?_getD, List.getD_eq_getElem?_getD, List.getElem?_eq_getElem (show j < lf.length by omega), List.getElem?_eq_getElem hpl] at e'
    simp only [Option.getD_some] at e'
    rcases Nat.lt_or_gt_of_ne hne with hl | hl
    · exact List.pairwise_iff_getElem.1 hd j p (by omega) hpl hl e'
    · exact List.pairwise_iff_getElem.1 hd p j hpl (by omega) hl e'.symm
  have HCD : Hid ((Hu.cast lf).getD p 0 = ((lf.getD p 0 : Nat) : Int)) := hide (Hu.cast_get lf hpl)
  have HER : Hid ((Hu.cast lf).eraseIdx p = Hu.cast (lf.eraseIdx p)) := hide (cast_erase lf p)
  have HEL : Hid ((Hu.cast (lf.eraseIdx p)).length = M) := hide (by rw [Hu.cast_len, List.length_eraseIdx_of_lt hpl]; omega)
  have hM10 : M + 1 ≤ 10 := by
    have := hd.length_le_of_subset (l₂ := List.range 10) (fun x hx => List.mem_range.2 (h10 x hx))
    simp at this; omega
  obtain ⟨D, hD⟩ : ∃ D, D = lf.getD p 0 := ⟨_, rfl⟩
  rw [← hD] at hd10 hyb HIDX HCD ⊢
  have HDe := hide hD
  obtain ⟨Y, hY⟩ : ∃ Y, Y = xs.getD D 0 := ⟨_, rfl⟩
  have bn := below_new w (.cells #[.int .i64 (D : Int)] 3)
  have h1 := h.below bn
  have cq : (w.alloc (.cells #[.int .i64 (D : Int)] 3)).cell? ⟨w.heap.size, 0, none⟩ = some (.int .i64 (D : Int)) := by simp
  have hs1 : (w.alloc (.cells #[.int .i64 (D : Int)] 3)).heap.size = w.heap.size + 1 := World.size_alloc _ _
  obtain ⟨W1, hW1⟩ : ∃ W1, W1 = w.alloc (.cells #[.int .i64 (D : Int)] 3) := ⟨_, rfl⟩
  rw [← hW1] at bn h1 cq hs1
  have HW1 := hide hW1.symm
  have cx := h1.sv.x hd10
  rw [← hY] at cx hyb ⊢
  have HS1 := hide h1
  have HBW := hide (bn.mono hb)
  have c2' := h1.sv.c2
  have HD := hide hd
  have H10 := hide h10
  have HXB := hide hxb
  have HM := hide hM
  have HBB := hide h.bb
  have HX0 := hide (decX_nil (y := Y) h.sv.lx)
  obtain ⟨Q, hQ⟩ : ∃ Q, Q = w.heap.size := ⟨_, rfl⟩
  rw [← hQ] at cq hbl hg2l hs1 hb HV1
  have d0' : (0 : Int) ≤ (D : Int) := by omega
  have d1' : (D : Int) < 10 := by omega
  obtain ⟨N, hN⟩ : ∃ N, N = M + 1 := ⟨_, rfl⟩
  rw [← hN] at HM c2' HS1 HIDX hM10
  have HNe := hide hN
  have HQe := hide hQ
  clear h1 hW1 bn h hd h10 hxb hM hY hN hQ hD
  go_enter Try.func56, Try.ntmps56
  go_upto_region 1 with fail
  rw [HW1.out, ← HQe.out]
  clear HW1
  go_quiet (fail)
  go_wp2_with fail
  have HSd := hide (HS1.out.below (below_drewN (Below.refl _ W1) nq))
  have HBd := hide (below_drewN HBW.out nq)
  have cqd : (W1.drewN nq).cell? ⟨Q, 0, none⟩ = some (.int .i64 (D : Int)) := cq
  have hsd : (W1.drewN nq).heap.size = Q + 1 := hs1
  generalize W1.drewN nq = W2 at *
  have HQ2 := hide cqd
  have HZ2 : Hid (Q < W2.heap.size) := hide (by omega)
  clear HS1 HBW cx c2' cq hs1 cqd hsd
  go_loopw [6, 18] (fun _ s wr => ∃ (j : Nat), s = .int .i64 j ∧ j ≤ N ∧ Hid (Sr wr base b v0 v1 (.slice (some ⟨g2, 0, none⟩) N c2) ls gn (Hu.cast lf) (Hu.decX (lf.take j) xs Y) ys) ∧ Hid (wr.cell? ⟨Q, 0, none⟩ = some (.int .i64 (D : Int))) ∧ Hid (Q < wr.heap.size) ∧ Hid (Below base w wr)) (fun _ s _ => N - (intOf s).toNat)
  case atStart => exact ⟨0, rfl, Nat.zero_le _, hide (by rw [List.take_zero, HX0.out]; exact HSd.out), HQ2, HZ2, HBd⟩
  case round =>
    clear HSd HQ2 HZ2 HBd
    obtain ⟨j, rfl, hj, HS, HQc, HQz, HB⟩ := hrel
    by_cases hlt : j < N
    · have hjl : j < lf.length := by rw [HM.out]; exact hlt
      have hy10 := H10.out _ (getD_mem9 lf hjl)
      have hxq := HXB.out _ (getD_mem9 lf hjl)
      obtain ⟨b2, o2, e2, r2⟩ := (own_arow rfl HS.out.o2).at (i := j) (by rw [Hu.cast_len]; exact hjl)
      cases e2
      rw [Hu.cast_get lf hjl, Nat.zero_add] at r2
      have HAT := hide (decX_at (xs := xs) (y := Y) HD.out hjl hy10)
      have cx := HS.out.sv.x hy10
      have fx := HS.out.sv.fz (3 + lf.getD j 0) (by omega)
      rw [HAT.out] at cx
      have HSX := hide (decX_set (xs := xs) (y := Y) hjl)
      generalize lf.getD j 0 = q at *
      generalize xs.getD q 0 = x at *
      have i0 : (0 : Int) ≤ (j : Int) := by omega
      have i1 : (j : Int) < (N : Int) := by omega
      have q0 : (0 : Int) ≤ (q : Int) := by omega
      have q1 : (q : Int) < 10 := by omega
      have ww : IntKind.i64.wrap (x - Y) = x - Y := by rw [IntKind.wrap_i64]; omega
      have HS2 : Hid (∀ d, Sr ((wr.drewN d).setCell ⟨b, 3 + q, none⟩ (.int .i64 (x - Y))) base b v0 v1 (.slice (some ⟨g2, 0, none⟩) N c2) ls gn (Hu.cast lf) (Hu.decX (lf.take (j + 1)) xs Y) ys) := hide fun d => by
        have := (HS.out.below (below_drewN (Below.refl _ wr) d)).setx hy10 (x - Y)
        rwa [HSX.out] at this
      have HQ3 : Hid (∀ d, ((wr.drewN d).setCell ⟨b, 3 + q, none⟩ (.int .i64 (x - Y))).cell? ⟨Q, 0, none⟩ = some (.int .i64 (D : Int))) := hide fun d => (World.cell?_setCell_other _ _ _ _ (by intro e; simp at e)).trans HQc.out
      have HZ3 : Hid (∀ d, Q < ((wr.drewN d).setCell ⟨b, 3 + q, none⟩ (.int .i64 (x - Y))).heap.size) := hide fun d => by simpa using HQz.out
      have HB2 := hide fun d => (below_drewN HB.out d).setCell (p := ⟨b, 3 + q, none⟩) HBB.out (.int .i64 (x - Y))
      go_wp2_with fail
      go_region
      go_wp2_with fail
      exact ⟨⟨j + 1, by go_num, by omega, hide (HS2.out 1), hide (HQ3.out 1), hide (HZ3.out 1), hide (HB2.out 1)⟩, by simp only [intOf]; omega⟩
    · have hje : j = N := by omega
      subst hje
      have hS : Sr wr base b v0 v1 (.slice (some ⟨g2, 0, none⟩) j c2) ls gn (Hu.cast lf) (Hu.decX lf xs Y) ys := by
        have := HS.out
        rwa [List.take_of_length_le (by rw [HM.out]; omega)] at this
      have hS1 := hS.below ((Below.refl _ wr).drew)
      have hbs := HB.out.size
      have hQz := HQz.out
      obtain ⟨g3, cap3, w3, hr3, own3, hg3, hat3⟩ := push_9 (w := wr.drew) (t := 25) (x := .int .i64 (D : Int)) Try.underlying25 infoI rfl rfl (by decide) hS1.o1 (by omega) (by show base ≤ wr.heap.size; omega)
      obtain ⟨S4, A3, B4, hgb, hn2⟩ := hS1.push1 (by show base ≤ wr.heap.size; omega) own3 hg3 hat3
      have e1 := A3.c1
      have f1 := A3.fz 1 (by omega)
      have c1 := hS.sv.c1
      have cQ := HQc.out
      have ca1 : ∀ o, (wr.alloc o).cell? ⟨b, 1, none⟩ = some v1 := fun o => ((below_new wr o).cell (p := ⟨b, 1, none⟩) HS.out.sv.lt).trans c1
      have hq3 : w3.heap[Q]? = wr.heap[Q]? := (hg3.block Q (by rw [World.size_alloc]; show Q < wr.heap.size + 1; omega) (fun e => HV1.out e.symm)).trans ((below_new wr.drew _).block Q hQz)
      have cQ4 : (w3.setCell ⟨b, 1, none⟩ (.slice (some ⟨g3, 0, none⟩) (gn.length + 1) cap3)).cell? ⟨Q, 0, none⟩ = some (.int .i64 (D : Int)) := (World.cell?_setCell_other _ _ _ _ (by intro e; simp at e)).trans ((World.cell?_of_block (w := wr) (a := ⟨Q, 0, none⟩) hq3).trans cQ)
      have hz4 : Q < (w3.setCell ⟨b, 1, none⟩ (.slice (some ⟨g3, 0, none⟩) (gn.length + 1) cap3)).heap.size := by
        have h1 := hg3.size
        have h2 : (wr.drew.alloc (.cells #[.int .i64 (D : Int)] 3)).heap.size = wr.heap.size + 1 := World.size_alloc _ _
        rw [World.size_setCell]; omega
      obtain ⟨w4, hw4⟩ : ∃ w4, w4 = w3.setCell ⟨b, 1, none⟩ (.slice (some ⟨g3, 0, none⟩) (gn.length + 1) cap3) := ⟨_, rfl⟩
      rw [← hw4] at S4 B4 cQ4 hz4
      have hjM := HNe.out
      subst hjM
      have HDF := hide (df_any (d := (D : Int)) (by rw [Hu.cast_len]; exact HM.out) hp HCD.out HIDX.out (by omega) cQ4 (by omega) hz4 (show w4.ownsRow base 3 1 (.slice (some ⟨g2, 0, none⟩) (M + 1) c2) (M + 1) (ints (Hu.cast lf)) from by
        have := S4.o2
        rwa [Hu.cast_len, HM.out] at this))
      have HS4 := hide S4
      have c24 := S4.sv.c2
      have HB4 := hide (HB.out.drew.trans (B4.mono (Nat.le_refl _)))
      have HW4 := hide hw4.symm
      have HR3 := hide hr3
      clear S4 A3 B4 own3 hg3 hat3 hS hS1 hq3 hr3 hw4
      go_upto_region 7 with fail
      go_region_law ((refine step_append_run9 (by rfl) (.tmp 38) (.tmp 40) 25 25 (by rfl) v1 (.slice (some ⟨wr.heap.size, 0, none⟩) 1 1) (by simp [go_sem]) (by simp [go_sem]) (.slice (some ⟨g3, 0, none⟩) (gn.length + 1) cap3) w3 (HR3.out _) ?_))
      all_goals (
        rw [HW4.out]
        go_wp2_with fail
        refine HDF.out.mono ?_
        rintro e w5 ⟨rfl, own5, hg5⟩
        obtain ⟨S6, A5, B6⟩ := HS4.out.cut2 HEL.out (by rw [← HER.out]; exact own5) hg5
        have e2 := A5.c2
        have f2 := A5.fz 2 (by omega)
        have HS6 := hide S6
        have HB6 := hide (HB4.out.trans B6)
        clear own5 hg5 S6 A5 B6
        go_wp2_with fail
        go_end0
        exact ⟨rfl, ⟨_, HS6.out⟩, HB6.out⟩)
end Go.Proofs.Ytkebaklmkidfoaa
namespace Go.Proofs.Ytkebaklmkidfoaa.Hu

/-- The way back in so many steps: the load from which a bin was seen gets it, and leaves the one that it had. -/
inductive BkR (n : Nat) (ys : List Int) : Nat → List Int → Int → List Int → Prop
  | done (fit : List Int) : BkR n ys 0 fit (-1) fit
  | step {k : Nat} {fit fit' : List Int} {b i : Nat} (hb : b < n) (hi : i < n) (hy : ys.getD b 0 = (i : Int)) (h : BkR n ys k (fit.set i (b : Int)) (fit.getD i 0) fit') : BkR n ys (k + 1) fit (b : Int) fit'
theorem bk_end {n : Nat} {o0 : Fn} {L : Nat} {fr : Fn} {ys : List Int} (ho : Ow n o0 L) (hL : L < n) (hys : ∀ b, b < n → ys.getD b 0 = ((ld o0 L (fr b) : Nat) : Int)) : ∀ (k : Nat) {o : Fn} {h : Nat} {r : List Nat} {fit : List Int},
    (∀ b, b ∈ h :: r → b < n) → (h :: r).Nodup → (∀ b, b ∈ r → o b = o0 b ∧ 0 ≤ o0 b) → (∀ i, i < L → ∃ b, b < n ∧ b ≠ h ∧ o b = (i : Int) ∧ fit.getD i 0 = (b : Int)) →
    (∀ b, b < n → ∀ d, d < n → b ≠ h → d ≠ h → 0 ≤ o b → o b = o d → b = d) → (∀ i, L ≤ i → i < n → fit.getD i 0 = -1) → fit.length = n →
    (∀ b s, (b :: s) <:+ (h :: r) → PR s (fr b)) → r.length + 2 ≤ k →
    ∃ K fit', BkR n ys K fit (h : Int) fit' ∧ fit'.length = n ∧ (∀ i, i < L + 1 → ∃ b, b < n ∧ back fr L k o (h : Int) b = (i : Int) ∧ fit'.getD i 0 = (b : Int)) ∧ ∀ i, L + 1 ≤ i → i < n → fit'.getD i 0 = -1
  | 0, _, _, _, _, _, _, _, _, _, _, _, _, hk => by omega
  | 1, _, _, _, _, _, _, _, _, _, _, _, _, hk => by omega
  | k + 2, o, h, r, fit, hb, hnd, hr, hf, hinj, hz, hfl, hch, hk => by
    have hn0 : ¬ ((h : Int) < 0) := by omega
    have hhn := hb h List.mem_cons_self
    have hp := hch h r (List.suffix_refl _)
    have hyh := hys h hhn
    rw [back, if_neg hn0]
    simp only [Int.toNat_natCast]
    rcases hp with e | ⟨f, hfm, e⟩
    · rw [e, if_pos (by omega), back, if_pos (by omega)]
      have hld : ld o0 L (fr h) = L := by rw [e]; simp [ld]
      rw [hld] at hyh
      refine ⟨1, fit.set L (h : Int), .step hhn hL hyh (by rw [hz L (Nat.le_refl _) hL]; exact .done _), by simpa using hfl, fun i hi => ?_, fun i hi hin => ?_⟩
      · by_cases hiL : i = L
        · subst hiL
          exact ⟨h, hhn, upd_same _ _ _, by rw [set_get9 _ _ _ _ (by omega), if_pos rfl]⟩
        · obtain ⟨b, h1, h2, h3, h4⟩ := hf i (by omega)
          exact ⟨b, h1, by rw [upd_else _ _ h2]; exact h3, by rw [set_get9 _ _ _ _ (by omega), if_neg hiL]; exact h4⟩
      · rw [set_get9 _ _ _ _ (by omega), if_neg (by omega)]
        exact hz i (by omega) hin
    · have hf0 : ¬ ((f : Int) < 0) := by omega
      rw [e, if_neg hf0, Int.toNat_natCast]
      have hfn := hb f (List.mem_cons_of_mem _ hfm)
      have hfh : f ≠ h := fun e => by subst e; exact (List.nodup_cons.1 hnd).1 hfm
      obtain ⟨s, t, hst⟩ := List.append_of_mem hfm
      have hsuf : (f :: t) <:+ r := ⟨s, hst.symm⟩
      have hld : ld o0 L (fr h) = (o0 f).toNat := by rw [e]; simp only [ld, if_neg hf0, Int.toNat_natCast]
      rw [hld] at hyh
      obtain ⟨hof, hof0⟩ := hr f hfm
      have hoL : (o0 f).toNat < L := by
        rcases ho.is f hfn with e | e <;> omega
      have htr : ∀ b, b ∈ t → b ∈ r := fun b hb' => hsuf.subset (List.mem_cons_of_mem _ hb')
      have hlen : t.length < r.length := by rw [hst]; simp; omega
      obtain ⟨b1, h1, h2, h3, h4⟩ := hf (o0 f).toNat hoL
      have hb1 : b1 = f := hinj b1 h1 f hfn h2 hfh (by omega) (by rw [h3, hof]; omega)
      subst hb1
      have hiL : (o0 b1).toNat < n := by omega
      obtain ⟨K, fit', k1, k2, k3, k4⟩ := bk_end ho hL hys (k + 1) (o := upd o h (o b1)) (h := b1) (r := t) (fit := fit.set (o0 b1).toNat (h : Int)) (fun b hb' => hb b (List.mem_cons_of_mem _ (hsuf.subset hb'))) (((List.nodup_cons.1 hnd).2).sublist hsuf.sublist)
        (fun b hb' => by
          have hbr := htr b hb'
          have : b ≠ h := fun e => by subst e; exact (List.nodup_cons.1 hnd).1 hbr
          rw [upd_else _ _ this]
          exact hr b hbr)
        (fun i hi => by
          by_cases hit : i = (o0 b1).toNat
          · exact ⟨h, hhn, Ne.symm h2, by rw [upd_same, hof]; omega, by rw [hit, set_get9 _ _ _ _ (by omega), if_pos rfl]⟩
          · obtain ⟨b, g1, g2, g3, g4⟩ := hf i hi
            refine ⟨b, g1, fun e => ?_, by rw [upd_else _ _ g2]; exact g3, by rw [set_get9 _ _ _ _ (by omega), if_neg hit]; exact g4⟩
            subst e
            rw [hof] at g3
            omega)
        (fun b hb' d hd hbf hdf hob heq => by
          by_cases hbh : b = h
          · by_cases hdh : d = h
            · omega
            · subst hbh
              rw [upd_same, upd_else _ _ hdh] at heq
              rw [upd_same] at hob
              exact absurd (hinj b1 hfn d hd hfh hdh hob heq).symm hdf
          · by_cases hdh : d = h
            · subst hdh
              rw [upd_same, upd_else _ _ hbh] at heq
              rw [upd_else _ _ hbh] at hob
              exact absurd (hinj b hb' b1 hfn hbh hfh hob heq) hbf
            · rw [upd_else _ _ hbh, upd_else _ _ hdh] at heq
              rw [upd_else _ _ hbh] at hob
              exact hinj b hb' d hd hbh hdh hob heq)
        (fun i hi hin => by rw [set_get9 _ _ _ _ (by omega), if_neg (by omega)]; exact hz i hi hin)
        (by simpa using hfl)
        (fun b q hq => hch b q (List.IsSuffix.trans (List.IsSuffix.trans hq hsuf) (List.suffix_cons _ _)))
        (by omega)
      exact ⟨K + 1, fit', .step hhn hiL (by rw [hyh]) (by rw [h4]; exact k1), k2, k3, k4⟩
/-- What the program keeps of a fit: for each load its bin, or -1. -/
def fitR (n : Nat) (o : Fn) (L : Nat) : List Int := tab n fun i => if i < L then ((binOf o n i : Nat) : Int) else -1
theorem fitR_len (n : Nat) (o : Fn) (L : Nat) : (fitR n o L).length = n := tab_len _ _
theorem fitR_lt {n : Nat} {o : Fn} {L i : Nat} (hi : i < n) (h : i < L) : (fitR n o L).getD i 0 = ((binOf o n i : Nat) : Int) := by rw [fitR, tab_get _ hi, if_pos h]
theorem fitR_ge {n : Nat} {o : Fn} {L i : Nat} (hi : i < n) (h : ¬ i < L) : (fitR n o L).getD i 0 = -1 := by rw [fitR, tab_get _ hi, if_neg h]
theorem fit_back {c : List (List Int)} {n L : Nat} {T : Tri} {S : Sk} {d : Nat} {r : List Nat} {ys : List Int} (hc : Good c n) (hL : L < n) (hT : Ou c n L T) (hS : run c n T.o L n (start T.u T.v) = S) (hg : In c n T.o L S (d :: r)) (hx : T.o d < 0) (hys : ∀ b, b < n → ys.getD b 0 = ((ld T.o L (S.fr b) : Nat) : Int)) :
    ∃ K, BkR n ys K (fitR n T.o L) (d : Int) (fitR n (seek c n L T).o (L + 1)) := by
  have hlen : (d :: r).length ≤ n := by
    have := hg.nd.length_le_of_subset (l₂ := List.range n) (fun x hx => List.mem_range.2 (hg.gb x hx))
    simpa using this
  have hla : S.la = (d : Int) := hg.la
  obtain ⟨K, fit', h1, h2, h3, h4⟩ := bk_end (fr := S.fr) (ys := ys) hT.ow hL hys (n + 1) (o := T.o) (h := d) (r := r) (fit := fitR n T.o L) hg.gb hg.nd (fun b hb => ⟨rfl, hg.own b hb⟩)
    (fun i hi => by
      have hb := binOf_is hT.ow hi
      exact ⟨_, hb.1, fun e => by rw [e] at hb; omega, hb.2, fitR_lt (by omega) hi⟩)
    (fun b hb e he _ _ hob heq => hT.ow.inj b hb e he hob heq) (fun i hi hin => fitR_ge hin (by omega)) (fitR_len _ _ _) (fun b s hs => (hg.ch b s hs).1) (by simp at hlen; omega)
  have hs := hT.seek hc hL
  have eo : (seek c n L T).o = back S.fr L (n + 1) T.o (d : Int) := by rw [seek, hS, hla]
  refine ⟨K, ?_⟩
  have : fit' = fitR n (seek c n L T).o (L + 1) := by
    refine tab_ext h2 fun i hi => ?_
    by_cases hiL : i < L + 1
    · obtain ⟨b, b1, b2, b3⟩ := h3 i hiL
      rw [if_pos hiL, binOf_eq hs.ow b1 (by rw [eo]; exact b2), b3]
    · rw [if_neg hiL]; exact h4 i (by omega) hi
  rw [← this]
  exact h1
/-- The load that has a bin, by the fit. -/
theorem fit_index {n : Nat} {o : Fn} {L b : Nat} (ho : Ow n o L) (hL : L ≤ n) (hb : b < n) : (o b = -1 ∧ ∀ i, i < n → (fitR n o L).getD i 0 ≠ (b : Int)) ∨ ∃ i, i < n ∧ o b = (i : Int) ∧ (fitR n o L).getD i 0 = (b : Int) ∧ ∀ j, j < i → (fitR n o L).getD j 0 ≠ (b : Int) := by
  rcases ho.is b hb with e | e
  · refine Or.inl ⟨e, fun i hi h => ?_⟩
    by_cases hiL : i < L
    · rw [fitR_lt hi hiL] at h
      have := binOf_is ho hiL
      have e' : binOf o n i = b := by omega
      rw [e'] at this
      omega
    · rw [fitR_ge hi hiL] at h; omega
  · refine Or.inr ⟨(o b).toNat, by omega, by omega, ?_, fun j hj h => ?_⟩
    · rw [fitR_lt (by omega) (by omega), binOf_eq ho hb (by omega)]
    · rw [fitR_lt (by omega) (by omega)] at h
      have := binOf_is ho (show j < L by omega)
      have e' : binOf o n j = b := by omega
      rw [e'] at this
      omega
end Go.Proofs.Ytkebaklmkidfoaa.Hu
namespace Go.Proofs.Ytkebaklmkidfoaa
open Go.RowKit

set_option maxRecDepth 100000 in
set_option maxHeartbeats 2000000 in
theorem ix9_any {N c : Nat} {x r : Int} {a : Option Addr} {xs : List Int} {w : World} (hN : xs.length = N) (h100 : N ≤ 1000) (ha : ARow w a xs) (hr : (r = -1 ∧ ∀ i, i < N → xs.getD i 0 ≠ x) ∨ ∃ i, i < N ∧ r = (i : Int) ∧ xs.getD i 0 = x ∧ ∀ j, j < i → xs.getD j 0 ≠ x) :
    Calls Try.prog 51 #[.slice a N c, .int .i64 x] w fun e w' => e = .returned (.int .i64 r) ∧ w' = w := by
  have HA := hide ha
  have HN := hide hN
  have HR := hide hr
  clear ha hN hr
  go_enter Try.func51, Try.ntmps51
  go_wp2_with fail
  go_loop [4, 5, 8] (fun s4 _ s => ∃ (k : Nat), s4 = .int .i64 0 ∧ s = .int .i64 k ∧ k ≤ N ∧ Hid (∀ j, j < k → xs.getD j 0 ≠ x)) (fun _ _ s => N - (intOf s).toNat)
  case atStart => exact ⟨0, rfl, rfl, Nat.zero_le _, hide fun j hj => absurd hj (Nat.not_lt_zero _)⟩
  case round =>
    obtain ⟨k, rfl, rfl, hk, HK⟩ := hrel
    by_cases hlt : k < N
    · obtain ⟨b2, o2, rfl, r1⟩ := HA.out.at (i := k) (by rw [HN.out]; exact hlt)
      have i0 : (0 : Int) ≤ (k : Int) := by omega
      have i1 : (k : Int) < (N : Int) := by omega
      by_cases hx : x = xs.getD k 0
      · have hb : (x == xs.getD k 0) = true := by rw [hx]; simp
        have HE : Hid ((k : Int) = r) := hide (by
          rcases HR.out with ⟨_, h⟩ | ⟨i, h1, h2, h3, h4⟩
          · exact absurd hx.symm (h k hlt)
          · rw [h2]
            have e1 : ¬ i < k := fun h => HK.out i h h3
            have e2 : ¬ k < i := fun h => h4 k h hx.symm
            omega)
        generalize xs.getD k 0 = y at *
        clear hx
        go_wp2_with fail
        go_ret
        exact ⟨ret_int HE.out, rfl⟩
      · have hb : (x == xs.getD k 0) = false := by simpa using hx
        have HK2 : Hid (∀ j, j < k + 1 → xs.getD j 0 ≠ x) := hide fun j hj => by
          by_cases e : j = k
          · subst e; exact Ne.symm hx
          · exact HK.out j (by omega)
        generalize xs.getD k 0 = y at *
        clear hx
        go_wp2_with fail
        go_round
        case rel => exact ⟨k + 1, rfl, by go_num, by omega, HK2⟩
        case measure => simp only [intOf]; omega
    · have hke : k = N := by omega
      subst hke
      have HE : Hid ((-1 : Int) = r) := hide (by
        rcases HR.out with ⟨h, _⟩ | ⟨i, h1, h2, h3, h4⟩
        · exact h.symm
        · exact absurd h3 (HK.out i h1))
      go_wp2_with fail
      go_ret
      exact ⟨ret_int HE.out, rfl⟩
theorem bk_inv {n : Nat} {ys fit fit' : List Int} {k : Nat} {b : Int} (h : Hu.BkR n ys k fit b fit') : (k = 0 ∧ b = -1 ∧ fit' = fit) ∨ ∃ k' t i : Nat, k = k' + 1 ∧ b = (t : Int) ∧ t < n ∧ i < n ∧ ys.getD t 0 = (i : Int) ∧ Hu.BkR n ys k' (fit.set i (t : Int)) (fit.getD i 0) fit' := by
  cases h with
  | done => exact Or.inl ⟨rfl, rfl, rfl⟩
  | step hb hi hy h => exact Or.inr ⟨_, _, _, rfl, rfl, hb, hi, hy, h⟩
set_option maxRecDepth 20000 in
set_option maxHeartbeats 8000000 in
theorem gb_any {e : Option Addr} {n ce FT PU PV bs K : Nat} {v0 v1 v2 : Value} {b : Int} {xs ys fit fit' : List Int} {w : World} (hn : n ≤ 10) (hx : xs.length = 10) (hy : ys.length = 10) (h0 : v0.oneCell' = true) (h1 : v1.oneCell' = true) (h2 : v2.oneCell' = true) (hfl : fit.length = n) (hB : Hu.BkR n ys K fit b fit') (ho : w.ownsRow bs 3 1 (.slice (some ⟨FT, 0, none⟩) n n) n (ints fit)) :
    Calls Try.prog 57 #[.agg (fv e n ce FT PU PV), .agg (sl9 v0 v1 v2 xs ys).toArray, .int .i64 b] w fun e w' => e = .returned (.tuple #[]) ∧ w'.ownsRow bs 3 1 (.slice (some ⟨FT, 0, none⟩) n n) n (ints fit') ∧ w.grownBy w' (some FT) := by
  have lf := (ho.lt FT rfl).2
  have bnA := below_new w (.cells (fv e n ce FT PU PV) 52)
  have bnB := below_new (w.alloc (.cells (fv e n ce FT PU PV) 52)) (.cells (sl9 v0 v1 v2 xs ys).toArray 79)
  have A := SV.new (w.alloc (.cells (fv e n ce FT PU PV) 52)) (v0 := v0) (v1 := v1) (v2 := v2) hx hy h0 h1 h2 79
  have f1 : (w.alloc (.cells (fv e n ce FT PU PV) 52)).cell? ⟨w.heap.size, 1, none⟩ = some (.slice (some ⟨FT, 0, none⟩) n n) := by simp [fv, go_sem]
  rw [World.size_alloc] at A
  have g1 := (bnB.cell (p := ⟨w.heap.size, 1, none⟩) (by simp)).trans f1
  have bnW := bnA.trans (bnB.mono (by simp))
  obtain ⟨W1, hW1⟩ : ∃ W1, W1 = (w.alloc (.cells (fv e n ce FT PU PV) 52)).alloc (.cells (sl9 v0 v1 v2 xs ys).toArray 79) := ⟨_, rfl⟩
  rw [← hW1] at A g1 bnW
  have HW1 := hide hW1.symm
  have HA := hide A
  have hlt := A.lt
  have HO1 := hide (g_own ho bnW)
  have HBW := hide bnW
  have HB0 := hide hB
  have HFL := hide hfl
  generalize fv e n ce FT PU PV = arr at *
  generalize (sl9 v0 v1 v2 xs ys).toArray = arr2 at *
  clear bnA bnB A f1 bnW hW1 ho hB hfl
  go_enter Try.func57, Try.ntmps57
  go_upto_region 1 with fail
  rw [HW1.out]
  clear HW1
  go_loopg [2, 6] K (fun gk s2 _ wr => ∃ (b : Int) (fit : List Int), s2 = .int .i64 b ∧ fit.length = n ∧ Hid (Hu.BkR n ys gk fit b fit') ∧ Hid (wr.ownsRow bs 3 1 (.slice (some ⟨FT, 0, none⟩) n n) n (ints fit)) ∧ Hid (W1.grownBy wr (some FT)))
  case atStart => exact ⟨b, fit, rfl, HFL.out, HB0, HO1, hide (World.grownBy.refl _ _)⟩
  case round =>
    clear HB0 HO1 HFL
    obtain ⟨b, fit, rfl, hfl, HBk, HO, HG⟩ := hrel
    rcases bk_inv HBk.out with ⟨rfl, rfl, hff⟩ | ⟨k', t, i, rfl, rfl, ht, hi, hyt, hbk⟩
    · have HF : Hid (wr.ownsRow bs 3 1 (.slice (some ⟨FT, 0, none⟩) n n) n (ints fit')) := hide (by rw [hff]; exact HO.out)
      have HGW : Hid (w.grownBy wr (some FT)) := hide ⟨HG.out.os.trans HBW.out.os, HG.out.tape.trans HBW.out.tape, HG.out.output.trans HBW.out.output, Nat.le_trans HBW.out.size HG.out.size, fun b hb hne => (HG.out.block b (Nat.lt_of_lt_of_le hb HBW.out.size) hne).trans (HBW.out.block b hb)⟩
      clear hff HBk HO HG
      go_wp2_with fail
      go_end0
      exact ⟨rfl, HF.out, HGW.out⟩
    · have A2 := HA.out.keep HG.out.size (HG.out.block _ hlt (by simp; omega))
      have cy := A2.y (i := t) (by omega)
      rw [hyt] at cy
      have c1 := (World.cell?_of_block (w := W1) (a := ⟨w.heap.size, 1, none⟩) (HG.out.block w.heap.size (by omega) (by simp; omega))).trans g1
      have cf : wr.cell? ⟨FT, i, none⟩ = some (.int .i64 (fit.getD i 0)) := by rw [HO.out.cellAt i (by omega), ints_get fit i (by omega)]
      have ff := HO.out.frozenAt i
      have HBK := hide hbk
      have HST : Hid (∀ d, ((wr.drewN d).setCell ⟨FT, i, none⟩ (.int .i64 (t : Int))).ownsRow bs 3 1 (.slice (some ⟨FT, 0, none⟩) n n) n (ints (fit.set i (t : Int)))) := hide fun d => by
        have := (g_own HO.out (below_drewN (Below.refl _ wr) d)).stored i (.int .i64 (t : Int))
        rw [ints_set] at this
        exact this.1
      have HG2 : Hid (∀ d, W1.grownBy ((wr.drewN d).setCell ⟨FT, i, none⟩ (.int .i64 (t : Int))) (some FT)) := hide fun d => by
        have st2 := (HO.out.stored i (.int .i64 (t : Int))).2
        exact ⟨st2.os.trans HG.out.os, st2.tape.trans HG.out.tape, st2.output.trans HG.out.output, Nat.le_trans HG.out.size st2.size, fun b hb hne => (st2.block b (Nat.lt_of_lt_of_le hb HG.out.size) hne).trans (HG.out.block b hb hne)⟩
      generalize fit.getD i 0 = z at cf HBK
      have t0 : (0 : Int) ≤ (t : Int) := by omega
      have t1 : (t : Int) < 10 := by omega
      have i0 : (0 : Int) ≤ (i : Int) := by omega
      have i1 : (i : Int) < (n : Int) := by omega
      have hne : ((t : Int) != -1) = true := by simp
      clear A2 hyt hbk HBk HO HG
      go_wp2_with fail
      go_region
      go_wp2_with fail
      go_roundg k'
      case measure => omega
      case rel => exact ⟨z, fit.set i (t : Int), rfl, by simpa using hfl, HBK, hide (HST.out 1), hide (HG2.out 1)⟩
end Go.Proofs.Ytkebaklmkidfoaa
namespace Go.Proofs.Ytkebaklmkidfoaa.Hu

theorem In.owns {c : List (List Int)} {n : Nat} {o : Fn} {L : Nat} {S : Sk} {g : List Nat} (h : In c n o L S g) (hx : 0 ≤ nx o L S.la) : ∀ b, b ∈ g → 0 ≤ o b := by
  intro b hb
  cases g with
  | nil => cases hb
  | cons d r =>
    rcases List.mem_cons.1 hb with rfl | hb
    · have e := h.la
      rw [e] at hx
      have : ¬ ((b : Int) < 0) := by omega
      simpa [nx, lastOf, this] using hx
    · exact h.own b hb
theorem In.gone {c : List (List Int)} {n : Nat} {o : Fn} {L : Nat} {S : Sk} {g : List Nat} (h : In c n o L S g) {b : Nat} (hb : b < n) : S.gn b = false ↔ b ∉ g := by
  have := h.gl b hb
  cases e : S.gn b
  · simp only [true_iff]; intro hm; rw [this.2 hm] at e; cases e
  · simp only [Bool.true_eq_false, false_iff]; exact fun hn => hn (this.1 e)
theorem In.len {c : List (List Int)} {n : Nat} {o : Fn} {L : Nat} {S : Sk} {g : List Nat} (h : In c n o L S g) : g.length ≤ n := by
  have := h.nd.length_le_of_subset (l₂ := List.range n) (fun x hx => List.mem_range.2 (h.gb x hx))
  simpa using this
/-- Prices on the way. -/
theorem In.bd {c : List (List Int)} {n : Nat} {o : Fn} {L : Nat} {S : Sk} {g : List Nat} (hc : Good c n) (ho : Ow n o L) (hL : L < n) (h : In c n o L S g) : (∀ i, i < n → 0 ≤ S.u i ∧ S.u i ≤ 100) ∧ ∀ b, b < n → -100 ≤ S.v b ∧ S.v b ≤ 0 := by
  obtain ⟨z, hz, hzf⟩ := ho.free hL
  have hub := h.pr.ub hc hz hzf
  refine ⟨fun i hi => ⟨h.pr.up i hi, hub i hi⟩, fun b hb => ⟨?_, h.pr.vn b hb⟩⟩
  rcases ho.is b hb with e | e
  · have := h.pr.vz b hb (by omega); omega
  · have h5 := h.pr.ti b hb e.1
    have h6 := hub (o b).toNat (by omega)
    have h7 := (hc.cl (o b).toNat (by omega) b hb).1
    omega
theorem erase_filter {f : Nat → Bool} {d : Nat} : ∀ {l : List Nat} {p : Nat}, l.Nodup → p < l.length → l.getD p 0 = d → (l.filter fun b => !decide (b = d)) = l.eraseIdx p
  | [], p, _, hp, _ => by simp at hp
  | x :: l, 0, hd, _, e => by
    simp at e
    subst e
    have hx := (List.nodup_cons.1 hd).1
    simp only [List.eraseIdx_cons_zero]
    rw [List.filter_cons_of_neg (by simp)]
    rw [List.filter_eq_self]
    intro b hb
    have : b ≠ x := fun e => by subst e; exact hx hb
    simp [this]
  | x :: l, p + 1, hd, hp, e => by
    obtain ⟨hx, hd'⟩ := List.nodup_cons.1 hd
    have hp' : p < l.length := by simpa using hp
    have e' : l.getD p 0 = d := by simpa using e
    have hm : d ∈ l := by rw [← e']; simp [hp']
    have : x ≠ d := fun e => by subst e; exact hx hm
    rw [List.filter_cons_of_pos (by simp [this]), List.eraseIdx_cons_succ, erase_filter (f := f) hd' hp' e']
structure WStep (c : List (List Int)) (n : Nat) (o : Fn) (L : Nat) (S : Sk) (g : List Nat) (xs ys X Y : List Int) (d p : Nat) : Prop where
  dn : d < n
  best : bestN (fun b => X.getD b 0) (leftN n S.gn) = some d
  pl : p < (leftN n S.gn).length
  pd : (leftN n S.gn).getD p 0 = d
  yb : 0 ≤ X.getD d 0 ∧ X.getD d 0 ≤ 10000000000000
  bd : ∀ b ∈ leftN n S.gn, 0 ≤ X.getD b 0 ∧ X.getD b 0 ≤ 10000000000000
  lm : ∀ i ∈ loadsW o L (d :: g), i < n
  lsu : addAt (X.getD d 0) (tab n S.u) (loadsW o L (d :: g)) = tab n (step c n o L S).u
  lsv : addAt (-(X.getD d 0)) (tab n S.v) g.reverse = tab n (step c n o L S).v
  lfe : leftN n (step c n o L S).gn = (leftN n S.gn).eraseIdx p
  lsr : LsR n o L (step c n o L S) (d :: g) (decX (leftN n S.gn) X (X.getD d 0)) Y
  inn : In c n o L (step c n o L S) (d :: g)
  lr : ld o L S.la < n
theorem way_step {c : List (List Int)} {n : Nat} {o : Fn} {L : Nat} {S : Sk} {g : List Nat} {xs ys : List Int} (hc : Good c n) (ho : Ow n o L) (hL : L < n) (h : In c n o L S g) (hx : 0 ≤ nx o L S.la) (hr : LsR n o L S g xs ys) (hn : n ≤ 10) :
    ∃ d p, WStep c n o L S g xs ys (seeX (leftN n S.gn) (restR c (tab n S.u) (tab n S.v) (ld o L S.la)) xs) (seeY (leftN n S.gn) (restR c (tab n S.u) (tab n S.v) (ld o L S.la)) xs ys (ld o L S.la)) d p := by
  obtain ⟨k1, k2⟩ := see_is hc ho hL h hx hr hn
  generalize hX : seeX (leftN n S.gn) (restR c (tab n S.u) (tab n S.v) (ld o L S.la)) xs = X at *
  generalize hY : seeY (leftN n S.gn) (restR c (tab n S.u) (tab n S.v) (ld o L S.la)) xs ys (ld o L S.la) = Y at *
  obtain ⟨s1, s2, s3, s4, s5, s6⟩ := h.step hc ho hL hx
  have hw := h.owns hx
  have hLa : PR g S.la := by rw [h.la]; exact PR.last g
  have hli : ld o L S.la < n := ld_lt ho hL h.gb hw hLa
  have ey : X.getD (toN c n o L S) 0 = byN c n o L S := k1 _ s2 s3
  have hbest : bestN (fun b => X.getD b 0) (leftN n S.gn) = some (toN c n o L S) := by
    rw [best_congr (ls' := lsN c o L S), ← best_left]
    · exact s1
    · intro b hb
      obtain ⟨h1, h2⟩ := left_mem.1 hb
      exact k1 b h1 ((h.gone h1).1 h2)
  have hm := best_mem hbest
  obtain ⟨p, hp, e⟩ := List.getElem_of_mem hm
  have hpd : (leftN n S.gn).getD p 0 = toN c n o L S := by rw [List.getD_eq_getElem?_getD, List.getElem?_eq_getElem hp]; exact e
  have hbd : ∀ b ∈ leftN n S.gn, 0 ≤ X.getD b 0 ∧ X.getD b 0 ≤ 10000000000000 := by
    intro b hb
    obtain ⟨h1, h2⟩ := left_mem.1 hb
    rw [k1 b h1 ((h.gone h1).1 h2), lsN]
    have h3 := h.lz b h1
    have h4 := h.pr.fe _ hli b h1
    unfold far at h3
    by_cases e : S.gn b = false ∧ sl c S.u S.v (ld o L S.la) b < S.ls b
    · rw [if_pos e]
      have := e.2
      unfold sl at this ⊢
      omega
    · rw [if_neg e]; omega
  have hon := on_iff h.gl h.gb hw (L := L)
  have hlnd := loadsW_nodup ho (d := toN c n o L S) h.gb hw h.nd
  refine ⟨toN c n o L S, p, s2, hbest, hp, hpd, hbd _ hm, hbd, ?_, ?_, ?_, ?_, ?_, s6, hli⟩
  · intro i hi
    obtain ⟨f, h1, rfl⟩ := loadsW_mem.1 hi
    exact ld_lt ho hL h.gb hw h1
  · refine tab_ext (by rw [addAt_len, tab_len]) fun i hi => ?_
    rw [addAt_get _ hlnd _ (by rw [tab_len]; exact hi), tab_get _ hi, ey]
    have : i ∈ loadsW o L (toN c n o L S :: g) ↔ onB n o L S.gn i = true := by rw [loadsW_mem, hon i]
    show _ = if onB n o L S.gn i then S.u i + byN c n o L S else S.u i
    by_cases e : onB n o L S.gn i = true
    · rw [if_pos (this.2 e), if_pos e]
    · rw [if_neg (fun h' => e (this.1 h')), if_neg e]
  · refine tab_ext (by rw [addAt_len, tab_len]) fun b hb => ?_
    rw [addAt_get _ ((List.reverse_perm g).nodup_iff.2 h.nd) _ (by rw [tab_len]; exact hb), tab_get _ hb, ey]
    show _ = if S.gn b then S.v b - byN c n o L S else S.v b
    have := h.gl b hb
    by_cases e : b ∈ g
    · rw [if_pos (by simpa using e), if_pos (this.2 e)]; omega
    · rw [if_neg (by simpa using e), if_neg (fun h' => e (this.1 h'))]
  · have h1 := erase_filter (f := S.gn) (left_nodup n S.gn) hp hpd
    rw [← h1]
    unfold leftN
    rw [List.filter_filter]
    apply List.filter_congr
    intro b _
    show (!(decide (b = toN c n o L S) || S.gn b)) = (!decide (b = toN c n o L S) && !S.gn b)
    rw [Bool.not_or]
  · refine ⟨fun e => by simp at e, fun _ b hb hg => ?_, fun _ b hb => k2 b hb⟩
    have hbg : b ∉ g := fun h' => hg (List.mem_cons_of_mem _ h')
    have hgn := (h.gone hb).2 hbg
    rw [decX, tab_get _ (by omega), if_pos (left_mem.2 ⟨hb, hgn⟩), k1 b hb hbg, ey]
    show _ = if S.gn b then lsN c o L S b else lsN c o L S b - byN c n o L S
    rw [hgn]; simp
/-- The way on from where it stands. -/
theorem run_on {c : List (List Int)} {n : Nat} {o : Fn} {L k : Nat} {S : Sk} (hx : 0 ≤ nx o L S.la) : run c n o L (k + 1) S = run c n o L k (step c n o L S) := by rw [run, if_neg (by omega)]
theorem run_here {c : List (List Int)} {n : Nat} {o : Fn} {L k : Nat} {S : Sk} (hx : nx o L S.la < 0) : run c n o L k S = S := by cases k <;> simp [run, hx]
theorem LsR.start (n : Nat) (o : Fn) (L : Nat) (u v : Fn) (ys : List Int) (hn : n ≤ 10) : LsR n o L (start u v) [] (tab 10 fun b => if b < n then mx else 0) ys :=
  ⟨fun _ b hb => by rw [tab_get _ (by omega), if_pos hb], fun h => absurd rfl h, fun h => absurd rfl h⟩
theorem tab_all {n : Nat} {f : Fn} {lo hi : Int} (h : ∀ i, i < n → lo ≤ f i ∧ f i ≤ hi) : Pf.allB (tab n f) lo hi = true := by
  rw [Pf.allB, List.all_eq_true]
  intro x hx
  obtain ⟨i, hi', rfl⟩ := List.mem_map.1 hx
  have := h i (List.mem_range.1 hi')
  simp [Pf.inB]; omega
end Go.Proofs.Ytkebaklmkidfoaa.Hu
