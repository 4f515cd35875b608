/-
  What SwapGain answers, the program's and the model's.
-/
import Derived.Test.YtljccbnkibfimaaHd
import Derived.Test.YtljccbnkibfimaaHv
import Derived.Test.YtljccbnkibfimaaShelf
import Derived.Deep.AppendLies
namespace Go.Proofs.Ytljccbnkibfimaa
open Go.RowKit

def swB (us ws os : List Int) (a b : Int) : Bool := ocB us ws os && (Pf.inB a 0 ((us.length : Int) - 1) && Pf.inB b 0 ((us.length : Int) - 1))
def swI (us ws os : List Int) (a b : Int) : Int := if swB us ws os a b then Od.cost us ws os - Od.cost us ws (Od.swap os a.toNat b.toNat) else 0
theorem two_row (w : World) (a b : Int) : ARow (w.alloc (.cells #[.int .i64 a, .int .i64 b] 3)) (some ⟨w.heap.size, 0, none⟩) [a, b] := by
  refine Or.inr ⟨w.heap.size, 0, rfl, by simp, fun i hi => ?_⟩
  match i, hi with
  | 0, _ => simp
  | 1, _ => simp
theorem cost_bd {us ws os : List Int} {n : Nat} (hn : us.length = n) (h10 : n ≤ 10) (hu : Pf.allB us 0 1000 = true) (hw : Pf.allB ws 0 1000 = true) (hl : us.length = ws.length) (ho : Od.ordB os n = true) : 0 ≤ Od.cost us ws os ∧ Od.cost us ws os ≤ 10000000 := by
  subst hn
  have := Od.costTo_bd hu hw hl ho us.length (Nat.le_refl _)
  rw [Od.cost, Od.ordB_len ho]
  omega
set_option maxRecDepth 100000 in
set_option maxHeartbeats 1000000 in
theorem sw_no1 {p q o : Option Addr} {n m l c d e' : Nat} {us ws : List Int} {a b : Int} {w : World} (HU : Hid (us.length = n)) (HW : Hid (ws.length = m)) (HA : Hid (ARow w p us)) (HB : Hid (ARow w q ws)) (HG : Hid (Od.waysB us ws = false)) :
    Calls Try.prog 32 #[.slice p n c, .slice q m d, .slice o l e', .int .i64 a, .int .i64 b] w fun e w' => e = .returned (.tuple #[.int .i64 0, .bool false]) ∧ Below w.heap.size w w' := by
  go_enter Try.func32, Try.ntmps32
  go_wp2_with fail
  refine (uw_eq HU HW HA HB HG).mono ?_
  rintro e w1 ⟨rfl, rfl⟩
  go_wp2_with fail
  go_ret2
  exact ⟨rfl, Below.refl _ _⟩
set_option maxRecDepth 100000 in
set_option maxHeartbeats 1000000 in
theorem sw_no2 {p q o : Option Addr} {n m l c d e' : Nat} {us ws os : List Int} {a b : Int} {w : World} (hn : n ≤ 10) (HU : Hid (us.length = n)) (HW : Hid (ws.length = m)) (HO : Hid (os.length = l)) (HA : Hid (ARow w p us)) (HB : Hid (ARow w q ws)) (HR : Hid (ARow w o os)) (HG : Hid (Od.waysB us ws = true)) (HQ : Hid (Od.ordB os n = false)) :
    Calls Try.prog 32 #[.slice p n c, .slice q m d, .slice o l e', .int .i64 a, .int .i64 b] w fun e w' => e = .returned (.tuple #[.int .i64 0, .bool false]) ∧ Below w.heap.size w w' := by
  go_enter Try.func32, Try.ntmps32
  go_wp2_with fail
  refine (uw_eq HU HW HA HB HG).mono ?_
  rintro e w1 ⟨rfl, rfl⟩
  go_wp2_with fail
  refine (eo_eq HO hn HR HQ).mono ?_
  rintro e w1 ⟨rfl, hb1⟩
  go_wp2_with fail
  go_ret2
  exact ⟨rfl, hb1⟩
set_option maxRecDepth 100000 in
set_option maxHeartbeats 1000000 in
theorem sw_no3 {p q o : Option Addr} {n m c d e' : Nat} {us ws os : List Int} {a b : Int} {w : World} (hn : n ≤ 10) (HU : Hid (us.length = n)) (HW : Hid (ws.length = m)) (HO : Hid (os.length = n)) (HA : Hid (ARow w p us)) (HB : Hid (ARow w q ws)) (HR : Hid (ARow w o os)) (HG : Hid (Od.waysB us ws = true)) (HQ : Hid (Od.ordB os n = true)) (HT : Hid (Pf.allB [a, b] 0 ((n : Int) - 1) = false)) :
    Calls Try.prog 32 #[.slice p n c, .slice q m d, .slice o n e', .int .i64 a, .int .i64 b] w fun e w' => e = .returned (.tuple #[.int .i64 0, .bool false]) ∧ Below w.heap.size w w' := by
  go_enter Try.func32, Try.ntmps32
  go_wp2_with fail
  refine (uw_eq HU HW HA HB HG).mono ?_
  rintro e w1 ⟨rfl, rfl⟩
  go_wp2_with fail
  refine (eo_eq HO hn HR HQ).mono ?_
  rintro e w1 ⟨rfl, hb1⟩
  have HTR := hide (two_row w1 a b)
  have hB2 := hb1.alloc hb1.size (.cells #[.int .i64 a, .int .i64 b] 3)
  go_wp2_with fail
  refine (areb_eqn (n := 2) HTR (hide rfl) (by omega) HT).mono ?_
  rintro e w2 ⟨rfl, rfl⟩
  go_wp2_with fail
  go_ret2
  exact ⟨rfl, hB2⟩
set_option maxRecDepth 100000 in
set_option maxHeartbeats 4000000 in
theorem sw_yes {p q o : Option Addr} {n c d e' i j : Nat} {us ws os : List Int} {w : World} (hn : n ≤ 10) (hi : i < n) (hj : j < n) (HU : Hid (us.length = n)) (HW : Hid (ws.length = n)) (HO : Hid (os.length = n)) (HA : Hid (ARow w p us)) (HB : Hid (ARow w q ws)) (HR : Hid (ARow w o os)) (HG : Hid (Od.waysB us ws = true)) (HQ : Hid (Od.ordB os n = true)) :
    Calls Try.prog 32 #[.slice p n c, .slice q n d, .slice o n e', .int .i64 i, .int .i64 j] w fun e w' => e = .returned (.tuple #[.int .i64 (Od.cost us ws os - Od.cost us ws (Od.swap os i j)), .bool true]) ∧ Below w.heap.size w w' := by
  have HT : Hid (Pf.allB [(i : Int), (j : Int)] 0 ((n : Int) - 1) = true) := hide (by simp [Pf.allB, Pf.inB]; omega)
  obtain ⟨g1, g2, g3, g4⟩ := Od.waysB_yes HG.out
  have HSO := hide (Od.swap_ord HQ.out hi hj)
  have HC := hide fun (W : World) (os' : List Int) (o' : Option Addr) (e'' : Nat) (ra : ARow W p us) (rb : ARow W q ws) (ro : ARow W o' os') (h : Od.ordB os' n = true) => co7_any (w := W) (c := c) (d := d) (e' := e'') HU.out HW.out hn ra rb ro g3 g4 h
  have b1 := cost_bd HU.out hn g3 g4 g1 HQ.out
  have b2 := cost_bd HU.out hn g3 g4 g1 HSO.out
  have hw : wrap64 (Od.cost us ws os - Od.cost us ws (Od.swap os i j)) = Od.cost us ws os - Od.cost us ws (Od.swap os i j) := by unfold wrap64; omega
  have i0 : (0 : Int) ≤ (i : Int) := by omega
  have i1 : (i : Int) < (n : Int) := by omega
  have j0 : (0 : Int) ≤ (j : Int) := by omega
  have j1 : (j : Int) < (n : Int) := by omega
  clear g1 g2 g3 g4 b1 b2
  go_enter Try.func32, Try.ntmps32
  go_wp2_with fail
  refine (uw_eq HU HW HA HB HG).mono ?_
  rintro e w1 ⟨rfl, hw1⟩
  obtain rfl : w = w1 := hw1.symm
  go_wp2_with fail
  refine (eo_eq HO hn HR HQ).mono ?_
  rintro e w1 ⟨rfl, hb1⟩
  have HTR := hide (two_row w1 i j)
  have hB2 := hb1.alloc hb1.size (.cells #[.int .i64 (i : Int), .int .i64 (j : Int)] 3)
  go_wp2_with fail
  refine (areb_eqn (n := 2) HTR (hide rfl) (by omega) HT).mono ?_
  rintro e w2 ⟨rfl, hw2⟩
  have hw2' := hw2.symm
  have HB2 := hide hB2
  clear HTR hB2 hw2
  generalize w1.alloc (.cells #[.int .i64 (i : Int), .int .i64 (j : Int)] 3) = W at *
  subst hw2'
  obtain ⟨bo, oo, rfl, hbo, hco⟩ : ∃ b off, o = some ⟨b, off, none⟩ ∧ b < W.heap.size ∧ ∀ k, k < os.length → W.cell? ⟨b, off + k, none⟩ = some (.int .i64 (os.getD k 0)) := by
    rcases HR.out.below HB2.out with h | h
    · have := HO.out; rw [h] at this; simp at this; omega
    · exact h
  have HCL := hide (Try.slices_Clone_int bo oo n e' os W (by rw [HO.out]; exact Nat.le_refl _) (by omega) hco)
  have HCO := hide hco
  clear hco
  go_wp2_with fail
  refine HCL.out.mono ?_
  rintro e w3 ⟨v, rfl, own3, _, hb3⟩
  rw [show (os.take n).map (Value.int .i64) = ints os by rw [← HO.out, List.take_length]; rfl] at own3
  obtain ⟨g, cap, rfl, hg0, hgl⟩ := own3.form (by omega)
  have r1 : w3.cell? ⟨bo, oo + i, none⟩ = some (.int .i64 (os.getD i 0)) := (hb3.cell (p := ⟨bo, oo + i, none⟩) hbo).trans (HCO.out i (by rw [HO.out]; exact hi))
  have r2 : w3.cell? ⟨bo, oo + j, none⟩ = some (.int .i64 (os.getD j 0)) := (hb3.cell (p := ⟨bo, oo + j, none⟩) hbo).trans (HCO.out j (by rw [HO.out]; exact hj))
  have f1 := own3.frozenAt i
  have f2 := own3.frozenAt j
  obtain ⟨s1, s2⟩ := own3.stored i (.int .i64 (os.getD j 0))
  obtain ⟨s3, s4⟩ := s1.stored j (.int .i64 (os.getD i 0))
  have f3 := s1.frozenAt j
  obtain ⟨z, c3⟩ : ∃ z, (w3.setCell ⟨g, i, none⟩ (.int .i64 (os.getD j 0))).cell? ⟨g, j, none⟩ = some (.int .i64 z) := by
    refine ⟨(os.set i (os.getD j 0)).getD j 0, ?_⟩
    rw [s1.cellAt j (by omega), ints_set, ints_get _ j (by rw [List.length_set, HO.out]; exact hj)]
  rw [ints_set, ints_set] at s3
  have HS3 := hide s3
  have HB3 := hide (HB2.out.trans (hb3.mono HB2.out.size))
  have HB4 := hide ((HB3.out.trans (grown_below' s2 (by have := HB2.out.size; omega) HB3.out.size)).trans (grown_below' s4 (by have := HB2.out.size; omega) (by simpa using HB3.out.size)))
  have c1 : w3.cell? ⟨g, i, none⟩ = some (.int .i64 (os.getD i 0)) := by rw [own3.cellAt i (by omega), ints_get os i (by rw [HO.out]; exact hi)]
  have c2 : w3.cell? ⟨g, j, none⟩ = some (.int .i64 (os.getD j 0)) := by rw [own3.cellAt j (by omega), ints_get os j (by rw [HO.out]; exact hj)]
  have hne : ¬ bo = g := by omega
  have hne2 : ¬ g = bo := by omega
  have HSW := hide (show (os.set i (os.getD j 0)).set j (os.getD i 0) = Od.swap os i j from rfl)
  generalize os.getD i 0 = x at *
  generalize os.getD j 0 = y at *
  clear s1 s2 s3 s4 own3
  go_wp2_with fail
  go_region
  have HB5 : Hid (Below w.heap.size w ((w3.setCell ⟨g, i, none⟩ (.int .i64 y)).setCell ⟨g, j, none⟩ (.int .i64 x)).drew) := hide (below_drewN HB4.out 1)
  have HO5 : Hid (((w3.setCell ⟨g, i, none⟩ (.int .i64 y)).setCell ⟨g, j, none⟩ (.int .i64 x)).drew.ownsRow W.heap.size 3 1 (.slice (some ⟨g, 0, none⟩) n cap) n (ints ((os.set i y).set j x))) := HS3
  clear HS3 HB4 HB3 HB2 c1 c2 c3 f1 f2 f3 r1 r2
  generalize ((w3.setCell ⟨g, i, none⟩ (.int .i64 y)).setCell ⟨g, j, none⟩ (.int .i64 x)).drew = W5 at *
  rw [HSW.out] at HO5
  go_wp2_with fail
  refine (HC.out W5 os (some ⟨bo, oo, none⟩) e' (HA.out.below HB5.out) (HB.out.below HB5.out) (HR.out.below HB5.out) HQ.out).mono ?_
  rintro e w6 ⟨rfl, hb6⟩
  have HB6 := hide (HB5.out.trans (hb6.mono HB5.out.size))
  have R6 := hide ((arow_owns (by rw [Od.swap_len, HO.out]) HO5.out).below hb6)
  go_wp2_with fail
  refine (HC.out w6 (Od.swap os i j) (some ⟨g, 0, none⟩) cap (HA.out.below HB6.out) (HB.out.below HB6.out) R6.out HSO.out).mono ?_
  rintro e w7 ⟨rfl, hb7⟩
  go_wp2_with fail
  go_ret2
  exact ⟨by show Ending.returned (.tuple #[.int .i64 (wrap64 (Od.cost us ws os - Od.cost us ws (Od.swap os i j))), .bool true]) = _; rw [hw], HB6.out.trans (hb7.mono HB6.out.size)⟩
theorem swB_parts {us ws os : List Int} {a b : Int} (h : swB us ws os a b = true) : Od.waysB us ws = true ∧ Od.ordB os us.length = true ∧ Pf.inB a 0 ((us.length : Int) - 1) = true ∧ Pf.inB b 0 ((us.length : Int) - 1) = true := by
  simp only [swB, ocB, Bool.and_eq_true] at h
  exact ⟨h.1.1, h.1.2, h.2.1, h.2.2⟩
theorem sw_w {p q o : Option Addr} {n m l c d e' : Nat} {us ws os : List Int} {a b : Int} {w : World} (hu : us.length = n) (hw : ws.length = m) (ho : os.length = l) (ha : ARow w p us) (hb : ARow w q ws) (hr : ARow w o os) :
    Calls Try.prog 32 #[.slice p n c, .slice q m d, .slice o l e', .int .i64 a, .int .i64 b] w fun e w' => e = .returned (.tuple #[.int .i64 (swI us ws os a b), .bool (swB us ws os a b)]) ∧ Below w.heap.size w w' := by
  unfold swI
  cases hg : Od.waysB us ws
  · have e : swB us ws os a b = false := by simp [swB, ocB, hg]
    rw [e]; exact sw_no1 (hide hu) (hide hw) (hide ha) (hide hb) (hide hg)
  · obtain ⟨g1, g2, _⟩ := Od.waysB_yes hg
    cases hq : Od.ordB os n
    · have e : swB us ws os a b = false := by simp [swB, ocB, hg, hu, hq]
      rw [e]; exact sw_no2 (by omega) (hide hu) (hide hw) (hide ho) (hide ha) (hide hb) (hide hr) (hide hg) (hide hq)
    · obtain rfl : l = n := by rw [← ho]; exact Od.ordB_len hq
      have e : swB us ws os a b = Pf.allB [a, b] 0 ((l : Int) - 1) := by simp [swB, ocB, hg, hu, hq, Pf.allB]
      rw [e]
      cases ht : Pf.allB [a, b] 0 ((l : Int) - 1)
      · exact sw_no3 (by omega) (hide hu) (hide hw) (hide ho) (hide ha) (hide hb) (hide hr) (hide hg) (hide hq) (hide ht)
      · have h2 : Pf.inB a 0 ((l : Int) - 1) = true ∧ Pf.inB b 0 ((l : Int) - 1) = true := by simpa [Pf.allB] using ht
        have k1 := Pf.inB_yes h2.1
        have k2 := Pf.inB_yes h2.2
        obtain ⟨i, rfl⟩ : ∃ i : Nat, a = (i : Int) := ⟨a.toNat, by omega⟩
        obtain ⟨j, rfl⟩ : ∃ j : Nat, b = (j : Int) := ⟨b.toNat, by omega⟩
        obtain rfl : l = m := by omega
        exact sw_yes (by omega) (by omega) (by omega) (hide hu) (hide hw) (hide ho) (hide ha) (hide hb) (hide hr) (hide hg) (hide hq)
theorem none_row (w : World) : (w.alloc (.cells #[] 3)).ownsRow w.heap.size 3 1 (.slice (some ⟨w.heap.size, 0, none⟩) 0 0) 0 (ints []) :=
  World.ownsRow_lit (base := w.heap.size) (e := 3) (size := 1) w #[] 0 (Nat.le_refl _) (by unfold maxLen; omega) (by simp)
set_option maxRecDepth 100000 in
set_option maxHeartbeats 1000000 in
theorem ssw_no1 {p q o : Option Addr} {n m l c d e' : Nat} {us ws : List Int} {a b : Int} {w : World} (HU : Hid (us.length = n)) (HW : Hid (ws.length = m)) (HA : Hid (ARow w p us)) (HB : Hid (ARow w q ws)) (HG : Hid (Od.waysB us ws = false)) :
    Calls Try.prog 38 #[.slice p n c, .slice q m d, .slice o l e', .int .i64 a, .int .i64 b] w fun e w' => e = .returned (.tuple #[.int .i64 0, .bool false]) ∧ Below w.heap.size w w' := by
  go_enter Try.func38, Try.ntmps38
  go_wp2_with fail
  refine (suw_eq HU HW HA HB HG).mono ?_
  rintro e w1 ⟨rfl, rfl⟩
  go_wp2_with fail
  go_ret2
  exact ⟨rfl, Below.refl _ _⟩
set_option maxRecDepth 100000 in
set_option maxHeartbeats 1000000 in
theorem ssw_no2 {p q o : Option Addr} {n m l c d e' : Nat} {us ws os : List Int} {a b : Int} {w : World} (hn : n ≤ 10) (hc : l ≤ e') (HU : Hid (us.length = n)) (HW : Hid (ws.length = m)) (HO : Hid (os.length = l)) (HA : Hid (ARow w p us)) (HB : Hid (ARow w q ws)) (HR : Hid (ARow w o os)) (HG : Hid (Od.waysB us ws = true)) (HQ : Hid (Od.ordB os n = false)) :
    Calls Try.prog 38 #[.slice p n c, .slice q m d, .slice o l e', .int .i64 a, .int .i64 b] w fun e w' => e = .returned (.tuple #[.int .i64 0, .bool false]) ∧ Below w.heap.size w w' := by
  go_enter Try.func38, Try.ntmps38
  go_wp2_with fail
  refine (suw_eq HU HW HA HB HG).mono ?_
  rintro e w1 ⟨rfl, rfl⟩
  go_wp2_with fail
  refine (seo_eq HO hn hc HR HQ).mono ?_
  rintro e w1 ⟨rfl, rfl⟩
  go_wp2_with fail
  go_ret2
  exact ⟨rfl, Below.refl _ _⟩
set_option maxRecDepth 100000 in
set_option maxHeartbeats 1000000 in
theorem ssw_no3 {p q o : Option Addr} {n m c d e' : Nat} {us ws os : List Int} {a b : Int} {w : World} (hn : n ≤ 10) (hc : n ≤ e') (HU : Hid (us.length = n)) (HW : Hid (ws.length = m)) (HO : Hid (os.length = n)) (HA : Hid (ARow w p us)) (HB : Hid (ARow w q ws)) (HR : Hid (ARow w o os)) (HG : Hid (Od.waysB us ws = true)) (HQ : Hid (Od.ordB os n = true))
    (HT : a < 0 ∨ (¬ a < 0 ∧ (n : Int) ≤ a) ∨ (¬ a < 0 ∧ ¬ (n : Int) ≤ a ∧ b < 0) ∨ (¬ a < 0 ∧ ¬ (n : Int) ≤ a ∧ ¬ b < 0 ∧ (n : Int) ≤ b)) :
    Calls Try.prog 38 #[.slice p n c, .slice q m d, .slice o n e', .int .i64 a, .int .i64 b] w fun e w' => e = .returned (.tuple #[.int .i64 0, .bool false]) ∧ Below w.heap.size w w' := by
  rcases HT with h1 | ⟨h1, h2⟩ | ⟨h1, h2, h3⟩ | ⟨h1, h2, h3, h4⟩
  all_goals
    go_enter Try.func38, Try.ntmps38
    go_wp2_with fail
    refine (suw_eq HU HW HA HB HG).mono ?_
    rintro e w1 ⟨rfl, rfl⟩
    go_wp2_with fail
    refine (seo_eq HO hn hc HR HQ).mono ?_
    rintro e w1 ⟨rfl, rfl⟩
    go_wp2_with fail
    go_ret2
    exact ⟨rfl, Below.refl _ _⟩
set_option maxRecDepth 100000 in
set_option maxHeartbeats 4000000 in
theorem ssw_yes {p q o : Option Addr} {n c d e' i j : Nat} {us ws os : List Int} {w : World} (hn : n ≤ 10) (hc : n ≤ e') (hi : i < n) (hj : j < n) (HU : Hid (us.length = n)) (HW : Hid (ws.length = n)) (HO : Hid (os.length = n)) (HA : Hid (ARow w p us)) (HB : Hid (ARow w q ws)) (HR : Hid (ARow w o os)) (HG : Hid (Od.waysB us ws = true)) (HQ : Hid (Od.ordB os n = true)) :
    Calls Try.prog 38 #[.slice p n c, .slice q n d, .slice o n e', .int .i64 i, .int .i64 j] w fun e w' => e = .returned (.tuple #[.int .i64 (Od.cost us ws os - Od.cost us ws (Od.swap os i j)), .bool true]) ∧ Below w.heap.size w w' := by
  obtain ⟨g1, g2, g3, g4⟩ := Od.waysB_yes HG.out
  have HSO := hide (Od.swap_ord HQ.out hi hj)
  have HC := hide fun (W : World) (os' : List Int) (o' : Option Addr) (e'' : Nat) (ra : ARow W p us) (rb : ARow W q ws) (ro : ARow W o' os') (h : Od.ordB os' n = true) => sco7_any (w := W) (c := c) (d := d) (e' := e'') HU.out HW.out hn ra rb ro g3 g4 h
  have b1 := cost_bd HU.out hn g3 g4 g1 HQ.out
  have b2 := cost_bd HU.out hn g3 g4 g1 HSO.out
  have hw : wrap64 (Od.cost us ws os - Od.cost us ws (Od.swap os i j)) = Od.cost us ws os - Od.cost us ws (Od.swap os i j) := by unfold wrap64; omega
  have i0 : (0 : Int) ≤ (i : Int) := by omega
  have i1 : (i : Int) < (n : Int) := by omega
  have i2 : ¬ (i : Int) < 0 := by omega
  have i3 : ¬ (n : Int) ≤ (i : Int) := by omega
  have j0 : (0 : Int) ≤ (j : Int) := by omega
  have j1 : (j : Int) < (n : Int) := by omega
  have j2 : ¬ (j : Int) < 0 := by omega
  have j3 : ¬ (n : Int) ≤ (j : Int) := by omega
  obtain ⟨bo, oo, rfl, hbo, hco⟩ : ∃ b off, o = some ⟨b, off, none⟩ ∧ b < w.heap.size ∧ ∀ k, k < os.length → w.cell? ⟨b, off + k, none⟩ = some (.int .i64 (os.getD k 0)) := by
    rcases HR.out with h | h
    · have := HO.out; rw [h] at this; simp at this; omega
    · exact h
  obtain ⟨i0', hi', hz0, hz1, hz2⟩ := infoI
  obtain ⟨v, w3, hr3, own3, hg3⟩ : ∃ v' w', (∀ ty, (Builtin.append_ #[23, 23] ty #[.slice (some ⟨w.heap.size, 0, none⟩) 0 0, .slice (some ⟨bo, oo, none⟩) n e']).run Try.prog (w.alloc (.cells #[] 3)) = .ok v' w') ∧ w'.ownsRow w.heap.size 3 1 v' n (ints os) ∧ (w.alloc (.cells #[] 3)).grownBy w' (some w.heap.size) := by
    obtain ⟨v', w', h1, h2, h3⟩ := run_append_v (P := Try.prog) (w.alloc (.cells #[] 3)) w.heap.size 23 0 3 i0' _ 8 Try.underlying23 hi' hz0 hz1 hz2 rfl _ 0 _ (none_row w) (some ⟨bo, oo, none⟩) n e' (ints os) (by rw [ints_len, HO.out]) (HR.out.alloc _).vrow (c_ints os) (by unfold maxLen; omega) (by omega) (by simp)
    rw [Nat.zero_add] at h2
    exact ⟨v', w', fun _ => h1, h2, h3⟩
  have hbw : Below w.heap.size w w3 := ((Below.refl _ _).alloc (Nat.le_refl _) (.cells #[] 3)).trans (grown_below' hg3 (Nat.le_refl _) (by simp))
  obtain ⟨g, cap, rfl, hg0, hgl⟩ := own3.form (by omega)
  have r1 : w3.cell? ⟨bo, oo + i, none⟩ = some (.int .i64 (os.getD i 0)) := (hbw.cell (p := ⟨bo, oo + i, none⟩) hbo).trans (hco i (by rw [HO.out]; exact hi))
  have r2 : w3.cell? ⟨bo, oo + j, none⟩ = some (.int .i64 (os.getD j 0)) := (hbw.cell (p := ⟨bo, oo + j, none⟩) hbo).trans (hco j (by rw [HO.out]; exact hj))
  have f1 := own3.frozenAt i
  obtain ⟨s1, s2⟩ := own3.stored i (.int .i64 (os.getD j 0))
  obtain ⟨s3, s4⟩ := s1.stored j (.int .i64 (os.getD i 0))
  have f3 := s1.frozenAt j
  obtain ⟨z, c3⟩ : ∃ z, (w3.setCell ⟨g, i, none⟩ (.int .i64 (os.getD j 0))).cell? ⟨g, j, none⟩ = some (.int .i64 z) := by
    refine ⟨(os.set i (os.getD j 0)).getD j 0, ?_⟩
    rw [s1.cellAt j (by omega), ints_set, ints_get _ j (by rw [List.length_set, HO.out]; exact hj)]
  rw [ints_set, ints_set] at s3
  have HB4 := hide ((hbw.trans (grown_below' s2 (by omega) hbw.size)).trans (grown_below' s4 (by omega) (by simpa using hbw.size)))
  have c1 : w3.cell? ⟨g, i, none⟩ = some (.int .i64 (os.getD i 0)) := by rw [own3.cellAt i (by omega), ints_get os i (by rw [HO.out]; exact hi)]
  have hne : ¬ bo = g := by omega
  have hne2 : ¬ g = bo := by omega
  rw [show (os.set i (os.getD j 0)).set j (os.getD i 0) = Od.swap os i j from rfl] at s3
  have HO5 := hide s3
  generalize os.getD i 0 = x at *
  generalize os.getD j 0 = y at *
  clear g1 g2 g3 g4 b1 b2 s1 s2 s3 s4 own3 hg3 hbw hco
  go_enter Try.func38, Try.ntmps38
  go_wp2_with fail
  refine (suw_eq HU HW HA HB HG).mono ?_
  rintro e w1 ⟨rfl, hw1⟩
  obtain rfl : w = w1 := hw1.symm
  go_wp2_with fail
  refine (seo_eq HO hn hc HR HQ).mono ?_
  rintro e w1 ⟨rfl, hw1⟩
  obtain rfl : w = w1 := hw1.symm
  go_wp2_with (first | (at_builtin; refine Lib.wpList_append_run _ rfl _ _ _ _ rfl _ _ rfl rfl _ _ (hr3 _) ?_))
  clear hr3 c1 c3 f1 f3 r1 r2
  generalize ((w3.setCell ⟨g, i, none⟩ (.int .i64 y)).setCell ⟨g, j, none⟩ (.int .i64 x)) = W5 at *
  refine (HC.out W5 os (some ⟨bo, oo, none⟩) e' (HA.out.below HB4.out) (HB.out.below HB4.out) (HR.out.below HB4.out) HQ.out).mono ?_
  rintro e w6 ⟨rfl, hb6⟩
  have HB6 := hide (HB4.out.trans (hb6.mono HB4.out.size))
  have R6 := hide ((arow_owns (by rw [Od.swap_len, HO.out]) HO5.out).below hb6)
  go_wp2_with fail
  refine (HC.out w6 (Od.swap os i j) (some ⟨g, 0, none⟩) cap (HA.out.below HB6.out) (HB.out.below HB6.out) R6.out HSO.out).mono ?_
  rintro e w7 ⟨rfl, hb7⟩
  go_wp2_with fail
  go_ret2
  exact ⟨by show Ending.returned (.tuple #[.int .i64 (wrap64 (Od.cost us ws os - Od.cost us ws (Od.swap os i j))), .bool true]) = _; rw [hw], HB6.out.trans (hb7.mono HB6.out.size)⟩
theorem ssw_w {p q o : Option Addr} {n m l c d e' : Nat} {us ws os : List Int} {a b : Int} {w : World} (hu : us.length = n) (hw : ws.length = m) (ho : os.length = l) (hc : l ≤ e') (ha : ARow w p us) (hb : ARow w q ws) (hr : ARow w o os) :
    Calls Try.prog 38 #[.slice p n c, .slice q m d, .slice o l e', .int .i64 a, .int .i64 b] w fun e w' => e = .returned (.tuple #[.int .i64 (swI us ws os a b), .bool (swB us ws os a b)]) ∧ Below w.heap.size w w' := by
  unfold swI
  cases hg : Od.waysB us ws
  · have e : swB us ws os a b = false := by simp [swB, ocB, hg]
    rw [e]; exact ssw_no1 (hide hu) (hide hw) (hide ha) (hide hb) (hide hg)
  · obtain ⟨g1, g2, _⟩ := Od.waysB_yes hg
    cases hq : Od.ordB os n
    · have e : swB us ws os a b = false := by simp [swB, ocB, hg, hu, hq]
      rw [e]; exact ssw_no2 (by omega) hc (hide hu) (hide hw) (hide ho) (hide ha) (hide hb) (hide hr) (hide hg) (hide hq)
    · obtain rfl : l = n := by rw [← ho]; exact Od.ordB_len hq
      have e : swB us ws os a b = Pf.allB [a, b] 0 ((l : Int) - 1) := by simp [swB, ocB, hg, hu, hq, Pf.allB]
      rw [e]
      cases ht : Pf.allB [a, b] 0 ((l : Int) - 1)
      · have h2 : ¬ (Pf.inB a 0 ((l : Int) - 1) = true ∧ Pf.inB b 0 ((l : Int) - 1) = true) := fun h => by simp [Pf.allB, h.1, h.2] at ht
        simp only [Pf.inB, Bool.and_eq_true, decide_eq_true_eq] at h2
        exact ssw_no3 (by omega) hc (hide hu) (hide hw) (hide ho) (hide ha) (hide hb) (hide hr) (hide hg) (hide hq) (by omega)
      · have h2 : Pf.inB a 0 ((l : Int) - 1) = true ∧ Pf.inB b 0 ((l : Int) - 1) = true := by simpa [Pf.allB] using ht
        have k1 := Pf.inB_yes h2.1
        have k2 := Pf.inB_yes h2.2
        obtain ⟨i, rfl⟩ : ∃ i : Nat, a = (i : Int) := ⟨a.toNat, by omega⟩
        obtain ⟨j, rfl⟩ : ∃ j : Nat, b = (j : Int) := ⟨b.toNat, by omega⟩
        obtain rfl : l = m := by omega
        exact ssw_yes (by omega) hc (by omega) (by omega) (hide hu) (hide hw) (hide ho) (hide ha) (hide hb) (hide hr) (hide hg) (hide hq)
end Go.Proofs.Ytljccbnkibfimaa
