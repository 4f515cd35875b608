/-
  What the program's tests and sums of chapter 7 answer: areUsesAndWays, hasEachOnce, sumOfPairs, costOfOrder.
-/
import Derived.Test.YtljccbnkibfimaaPg
import Derived.Test.YtljccbnkibfimaaHa
namespace Go.Proofs.Ytljccbnkibfimaa
open Go.RowKit

def bls (bs : List Bool) : List Value := bs.map fun b => .bool b
theorem bls_len (bs : List Bool) : (bls bs).length = bs.length := by simp [bls]
theorem bls_get (bs : List Bool) (j : Nat) (h : j < bs.length) (d : Bool) : (bls bs)[j]? = some (.bool (bs.getD j d)) := by simp [bls, h]
theorem bls_set (bs : List Bool) (j : Nat) (x : Bool) : (bls bs).set j (.bool x) = bls (bs.set j x) := by simp [bls, List.map_set]
theorem makeB_run (n : Nat) (hn : n ≤ 1048576) (w : World) : (Instr.makeSlice 89 (.int .i64 (n : Int)) (.int .i64 (n : Int))).run Try.prog w = .ok (.slice (some ⟨w.heap.size, 0, none⟩) n n) (w.alloc (.cells (madeCells #[.bool false] n) 4)) := by
  have h : (Try.prog.info? 4).map (fun i => (i.zero, i.size, i.bytes)) = some (some (.bool false), 1, 1) := by kernel_rfl
  obtain ⟨i, hi, hzz⟩ := Option.map_eq_some_iff.1 h
  simp only [Prod.mk.injEq] at hzz
  obtain ⟨hz, hs, hb⟩ := hzz
  have := run_make (P := Try.prog) w 89 4 i _ Try.underlying89 hi hz .i64 .i64 (n : Int) (n : Int) (by omega) (by omega) (by rw [hb]; omega) (by omega)
  simpa [hs, Value.cells] using this
theorem madeB_own (w : World) (n : Nat) (hn : n ≤ 1048576) : (w.alloc (.cells (madeCells #[.bool false] n) 4)).ownsRow w.heap.size 4 1 (.slice (some ⟨w.heap.size, 0, none⟩) n n) n (bls (List.replicate n false)) := by
  have h := World.ownsRow_lit (base := w.heap.size) (e := 4) (size := 1) w (madeCells #[.bool false] n) n (Nat.le_refl _) (by unfold maxLen; omega) (by simp [madeCells])
  rw [toList_madeCells_one] at h
  simpa [bls] using h

set_option maxRecDepth 100000 in
set_option maxHeartbeats 1000000 in
theorem uw_ne {a b : Option Addr} {n m c d : Nat} {w : World} (h : n ≠ m) :
    Calls Try.prog 70 #[.slice a n c, .slice b m d] w fun e w' => e = .returned (.bool false) ∧ w' = w := by
  have h1 : ((n : Int) == (m : Int)) = false := by simp; omega
  go_enter Try.func70, Try.ntmps70
  go_wp2_with fail
  go_ret
  exact ⟨rfl, rfl⟩
set_option maxRecDepth 100000 in
set_option maxHeartbeats 1000000 in
theorem uw_many {a b : Option Addr} {n c d : Nat} {w : World} (h : 10 < n) :
    Calls Try.prog 70 #[.slice a n c, .slice b n d] w fun e w' => e = .returned (.bool false) ∧ w' = w := by
  have h1 : ((n : Int) == (n : Int)) = true := by simp
  have h2 : ¬ (n : Int) ≤ 10 := by omega
  go_enter Try.func70, Try.ntmps70
  go_wp2_with fail
  go_ret
  exact ⟨rfl, rfl⟩
set_option maxRecDepth 100000 in
set_option maxHeartbeats 1000000 in
theorem uw_same {a b : Option Addr} {n c d : Nat} {us ws : List Int} {w : World} (hu : us.length = n) (hw : ws.length = n) (h : n ≤ 10) (ha : ARow w a us) (hb : ARow w b ws) :
    Calls Try.prog 70 #[.slice a n c, .slice b n d] w fun e w' => e = .returned (.bool (Od.waysB us ws)) ∧ w' = w := by
  have h1 : ((n : Int) == (n : Int)) = true := by simp
  have h2 : (n : Int) ≤ 10 := by omega
  have e : Od.waysB us ws = (Pf.allB us 0 1000 && Pf.allB ws 0 1000) := by simp [Od.waysB, hu, hw, h]
  rw [e]
  have HA := hide ha
  have HB := hide hb
  have HU := hide hu
  have HW := hide hw
  clear ha hb hu hw e
  cases e1 : Pf.allB us 0 1000
  · have H1 := hide e1
    clear e1
    go_enter Try.func70, Try.ntmps70
    go_wp2_with (go_at_call 79; refine (areb_eqn HA HU (by omega) H1).mono ?_; rintro e w1 ⟨rfl, rfl⟩)
    go_ret
    exact ⟨rfl, rfl⟩
  · cases e2 : Pf.allB ws 0 1000
    all_goals
      have H1 := hide e1
      have H2 := hide e2
      clear e1 e2
      go_enter Try.func70, Try.ntmps70
      go_wp2_with fail
      refine (areb_eqn HA HU (by omega) H1).mono ?_
      rintro e w1 ⟨rfl, rfl⟩
      go_wp2_with fail
      refine (areb_eqn HB HW (by omega) H2).mono ?_
      rintro e w1 ⟨rfl, rfl⟩
      go_wp2_with fail
      go_ret
      exact ⟨rfl, rfl⟩
theorem uw_any {a b : Option Addr} {n m c d : Nat} {us ws : List Int} {w : World} (hu : us.length = n) (hw : ws.length = m) (ha : ARow w a us) (hb : ARow w b ws) :
    Calls Try.prog 70 #[.slice a n c, .slice b m d] w fun e w' => e = .returned (.bool (Od.waysB us ws)) ∧ w' = w := by
  by_cases h : n = m
  · subst h
    by_cases h2 : n ≤ 10
    · exact uw_same hu hw h2 ha hb
    · rw [Od.waysB_many (by omega)]; exact uw_many (by omega)
  · rw [Od.waysB_ne (by omega)]; exact uw_ne h
theorem uw_eq {a b : Option Addr} {n m c d : Nat} {us ws : List Int} {w : World} {r : Bool} (hu : Hid (us.length = n)) (hw : Hid (ws.length = m)) (ha : Hid (ARow w a us)) (hb : Hid (ARow w b ws)) (h : Hid (Od.waysB us ws = r)) :
    Calls Try.prog 70 #[.slice a n c, .slice b m d] w fun e w' => e = .returned (.bool r) ∧ w' = w := h.out ▸ uw_any hu.out hw.out ha.out hb.out

set_option maxRecDepth 100000 in
set_option maxHeartbeats 1000000 in
theorem eo_ne {a : Option Addr} {n m c : Nat} {w : World} (h : m ≠ n) :
    Calls Try.prog 71 #[.slice a m c, .int .i64 n] w fun e w' => e = .returned (.bool false) ∧ Below w.heap.size w w' := by
  have h1 : ((m : Int) != (n : Int)) = true := by simp; omega
  go_enter Try.func71, Try.ntmps71
  go_wp2_with fail
  go_ret
  exact ⟨rfl, Below.refl _ _⟩
set_option maxRecDepth 100000 in
set_option maxHeartbeats 2000000 in
theorem eo_same {a : Option Addr} {n c : Nat} {xs : List Int} {w : World} (hx : xs.length = n) (hn : n ≤ 10) (ha : ARow w a xs) :
    Calls Try.prog 71 #[.slice a n c, .int .i64 n] w fun e w' => e = .returned (.bool (Od.ordB xs n)) ∧ Below w.heap.size w w' := by
  have h1 : ((n : Int) != (n : Int)) = false := by simp
  have hmk := makeB_run n (by omega)
  have HA := hide ha
  have HX := hide hx
  have HO := hide (madeB_own w n (by omega))
  clear ha hx
  go_enter Try.func71, Try.ntmps71
  go_wp2_with fail
  go_loopw [4, 7, 16] (fun s4 _ s wr => ∃ (k : Nat), s4 = .bool false ∧ s = .int .i64 k ∧ k ≤ n ∧ Hid (∀ i, i < k → Od.okAt xs n i = true) ∧ wr.ownsRow w.heap.size 4 1 (.slice (some ⟨w.heap.size, 0, none⟩) n n) n (bls (Od.seen xs k n)) ∧ Below w.heap.size w wr) (fun _ _ s _ => n - (intOf s).toNat)
  case atStart => exact ⟨0, rfl, rfl, Nat.zero_le _, hide fun i hi => absurd hi (Nat.not_lt_zero _), by rw [Od.seen_zero]; exact HO.out, (Below.refl _ _).alloc (Nat.le_refl _) _⟩
  case round =>
    obtain ⟨k, rfl, rfl, hk, HK, hown, hB⟩ := hrel
    clear hmk HO
    by_cases hlt : k < n
    · obtain ⟨b, off, rfl, r1⟩ := (HA.out.below hB).at (i := k) (by rw [HX.out]; exact hlt)
      have i0 : (0 : Int) ≤ (k : Int) := by omega
      have i1 : (k : Int) < (n : Int) := by omega
      generalize hx : xs.getD k 0 = x at r1
      cases hb : Pf.inB x 0 ((n : Int) - 1)
      · have HN := hide (Od.ordB_not hlt (show Od.okAt xs n k = false by simp only [Od.okAt]; rw [hx, hb]; rfl))
        clear hx hown
        go_wp2_with fail
        refine (between_eq hb).mono ?_
        rintro e w1 ⟨rfl, rfl⟩
        go_wp2_with fail
        go_ret
        exact ⟨ret_bool HN.out.symm, hB⟩
      · obtain ⟨j, rfl⟩ : ∃ j : Nat, x = (j : Int) := ⟨x.toNat, by have := Pf.inB_yes hb; omega⟩
        have hj : j < n := by have := Pf.inB_yes hb; omega
        have j0 : (0 : Int) ≤ (j : Int) := by omega
        have j1 : (j : Int) < (n : Int) := by omega
        have c0 : wr.cell? ⟨w.heap.size, j, none⟩ = some (.bool ((xs.take k).contains (j : Int))) := by
          rw [hown.cellAt j (by rw [Nat.mul_one]; exact hj), bls_get _ j (by rw [Od.seen_len]; exact hj) false, Od.seen_get xs k n j hj]
        have HS := hide (fun (h : (xs.take k).contains (j : Int) = true) => Od.ordB_not hlt (show Od.okAt xs n k = false by simp only [Od.okAt]; rw [hx, h]; simp))
        have HT := hide (fun (h : (xs.take k).contains (j : Int) = false) => show Od.okAt xs n k = true by simp only [Od.okAt]; rw [hx, h, hb]; rfl)
        have f0 := hown.frozenAt j
        obtain ⟨st1, st2⟩ := hown.stored j (.bool true)
        rw [bls_set, Od.seen_step xs k n j (by rw [HX.out]; exact hlt) hx] at st1
        have HST := hide st1
        generalize (xs.take k).contains (j : Int) = sb at *
        clear hx st1 hown
        cases sb
        · go_wp2_with fail
          refine (between_eq hb).mono ?_
          rintro e w1 ⟨rfl, rfl⟩
          go_wp2_with fail
          go_roundw
          case rel =>
            refine ⟨k + 1, rfl, by go_num, by omega, hide fun i hi => ?_, HST.out, hB.setCell (Nat.le_refl _) _⟩
            by_cases e : i = k
            · subst e; exact HT.out trivial
            · exact HK.out i (by omega)
          case measure => simp only [intOf]; omega
        · go_wp2_with fail
          refine (between_eq hb).mono ?_
          rintro e w1 ⟨rfl, rfl⟩
          go_wp2_with fail
          go_ret
          exact ⟨ret_bool (HS.out trivial).symm, hB⟩
    · have hke : k = n := by omega
      subst hke
      have HY := hide (Od.ordB_of HX.out HK.out)
      go_wp2_with fail
      go_ret
      exact ⟨ret_bool HY.out.symm, hB⟩
theorem eo_any {a : Option Addr} {n m c : Nat} {xs : List Int} {w : World} (hx : xs.length = m) (hn : n ≤ 10) (ha : ARow w a xs) :
    Calls Try.prog 71 #[.slice a m c, .int .i64 n] w fun e w' => e = .returned (.bool (Od.ordB xs n)) ∧ Below w.heap.size w w' := by
  by_cases h : m = n
  · subst h; exact eo_same hx hn ha
  · rw [Od.ordB_ne (by omega)]; exact eo_ne h
theorem eo_eq {a : Option Addr} {n m c : Nat} {xs : List Int} {w : World} {r : Bool} (hx : Hid (xs.length = m)) (hn : n ≤ 10) (ha : Hid (ARow w a xs)) (h : Hid (Od.ordB xs n = r)) :
    Calls Try.prog 71 #[.slice a m c, .int .i64 n] w fun e w' => e = .returned (.bool r) ∧ Below w.heap.size w w' := h.out ▸ eo_any hx.out hn ha.out

set_option maxRecDepth 100000 in
set_option maxHeartbeats 1000000 in
theorem sp_any {a b : Option Addr} {n m c d : Nat} {us ws : List Int} {w : World} (hu : us.length = n) (hw : ws.length = m) (hm : n ≤ m) (hn : n ≤ 10) (ha : ARow w a us) (hb : ARow w b ws) (gu : Pf.allB us 0 1000 = true) (gw : Pf.allB ws 0 1000 = true) :
    Calls Try.prog 81 #[.slice a n c, .slice b m d] w fun e w' => e = .returned (.int .i64 (Od.pair us ws)) ∧ Below w.heap.size w w' := by
  have HA := hide ha
  have HB := hide hb
  have HU := hide hu
  have HW := hide hw
  have HBD := hide (Od.pairTo_bd gu gw)
  have HGU := hide gu
  have HGW := hide gw
  clear ha hb hu hw gu gw
  go_enter Try.func81, Try.ntmps81
  go_wp2_with fail
  go_loopw [5, 6, 9] (fun s5 _ s wr => ∃ (k : Nat) (t : Int), s5 = .int .i64 t ∧ s = .int .i64 k ∧ k ≤ n ∧ Hid (t = Od.pairTo us ws k) ∧ ∃ q, wr = w.drewN q) (fun _ _ s _ => n - (intOf s).toNat)
  case atStart => exact ⟨0, 0, rfl, rfl, Nat.zero_le _, hide rfl, 0, rfl⟩
  case round =>
    obtain ⟨k, t, rfl, rfl, hk, HT, q, rfl⟩ := hrel
    by_cases hlt : k < n
    · obtain ⟨ba, oa, rfl, r1⟩ := HA.out.at (i := k) (by rw [HU.out]; exact hlt)
      obtain ⟨bb, ob, rfl, r2⟩ := HB.out.at (i := k) (by rw [HW.out]; omega)
      have i0 : (0 : Int) ≤ (k : Int) := by omega
      have i1 : (k : Int) < (n : Int) := by omega
      have i2 : (k : Int) < (m : Int) := by omega
      have hs : Od.pairTo us ws (k + 1) = Od.pairTo us ws k + us.getD k 0 * ws.getD k 0 := rfl
      have hbd := HBD.out (k + 1) (by rw [HU.out]; omega) (by rw [HW.out]; omega)
      have tb := Od.term_bd (Pf.inB_yes (Pf.allB_get HGU.out (show k < us.length by rw [HU.out]; exact hlt))) (Pf.inB_yes (Pf.allB_get HGW.out (show k < ws.length by rw [HW.out]; omega)))
      rw [hs, ← HT.out] at hbd
      rw [← HT.out] at hs
      generalize us.getD k 0 = x at *
      generalize ws.getD k 0 = y at *
      have HS := hide hs
      have p0 : IntKind.i64.wrap (x * y) = x * y := by rw [IntKind.wrap_i64]; omega
      have p1 : IntKind.i64.wrap (t + x * y) = t + x * y := by rw [IntKind.wrap_i64]; omega
      clear hs hbd tb
      go_wp2_with fail
      go_region
      go_wp2_with fail
      go_roundw
      case rel => exact ⟨k + 1, t + x * y, rfl, by go_num, by omega, hide HS.out.symm, q + 1, rfl⟩
      case measure => simp only [intOf]; omega
    · have hke : k = n := by omega
      subst hke
      have HE := hide (show t = Od.pair us ws by rw [Od.pair, HU.out]; exact HT.out)
      go_wp2_with fail
      go_ret
      exact ⟨ret_int HE.out, below_drewN (Below.refl _ _) q⟩

set_option maxRecDepth 100000 in
set_option maxHeartbeats 2000000 in
theorem co7_any {a b o : Option Addr} {n c d e' : Nat} {us ws os : List Int} {w : World} (hu : us.length = n) (hw : ws.length = n) (hn : n ≤ 10) (ha : ARow w a us) (hb : ARow w b ws) (ho : ARow w o os) (gu : Pf.allB us 0 1000 = true) (gw : Pf.allB ws 0 1000 = true) (go : Od.ordB os n = true) :
    Calls Try.prog 72 #[.slice a n c, .slice b n d, .slice o n e'] w fun e w' => e = .returned (.int .i64 (Od.cost us ws os)) ∧ Below w.heap.size w w' := by
  have hmk := makeI_run n (by omega)
  have HA := hide ha
  have HB := hide hb
  have HO := hide ho
  have HU := hide hu
  have HW := hide hw
  have HG := hide go
  have HN := hide (Od.ordB_len go)
  have HM := hide (made_own w n (by omega))
  have HP := hide (Od.placed_all gu (by rw [hu]; exact go))
  have HGW := hide gw
  clear ha hb ho hu hw go gu gw
  go_enter Try.func72, Try.ntmps72
  go_wp2_with fail
  go_loopw [8, 9, 15] (fun _ _ s wr => ∃ (k : Nat) (ys : List Int), s = .int .i64 k ∧ k ≤ n ∧ ys.length = n ∧ Hid (ys.take k = (Od.placed us os).take k) ∧ wr.ownsRow w.heap.size 3 1 (.slice (some ⟨w.heap.size, 0, none⟩) n n) n (ints ys) ∧ Below w.heap.size w wr ∧ w.heap.size < wr.heap.size) (fun _ _ s _ => n - (intOf s).toNat)
  case atStart => exact ⟨0, List.replicate n 0, rfl, Nat.zero_le _, by simp, hide (by simp), HM.out, (Below.refl _ _).alloc (Nat.le_refl _) _, by simp⟩
  case round =>
    obtain ⟨k, ys, rfl, hk, hy, HT, hown, hB, hz⟩ := hrel
    clear hmk HM
    by_cases hlt : k < n
    · obtain ⟨bo, oo, rfl, r1⟩ := (HO.out.below hB).at (i := k) (by rw [HN.out]; exact hlt)
      rw [Od.nth_cast HG.out hlt] at r1
      have hj := Od.nth_lt HG.out hlt
      obtain ⟨ba, oa, rfl, r2⟩ := (HA.out.below hB).at (i := Od.nth os k) (by rw [HU.out]; exact hj)
      have HSET := hide (Od.placed_step us os ys k (by rw [HN.out]; exact hy) (by rw [HN.out]; exact hlt) HT.out)
      have i0 : (0 : Int) ≤ (k : Int) := by omega
      have i1 : (k : Int) < (n : Int) := by omega
      have c0 : wr.cell? ⟨w.heap.size, k, none⟩ = some (.int .i64 (ys.getD k 0)) := by rw [hown.cellAt k (by omega), ints_get ys k (by omega)]
      have f0 := hown.frozenAt k
      obtain ⟨st1, st2⟩ := hown.stored k (.int .i64 (us.getD (Od.nth os k) 0))
      rw [ints_set] at st1
      have HST := hide st1
      generalize us.getD (Od.nth os k) 0 = x at *
      generalize Od.nth os k = j at *
      have j0 : (0 : Int) ≤ (j : Int) := by omega
      have j1 : (j : Int) < (n : Int) := by omega
      clear st1 hown
      go_wp2_with fail
      go_roundw
      case rel => exact ⟨k + 1, ys.set k x, by go_num, by omega, by simpa using hy, HSET, HST.out, hB.setCell (Nat.le_refl _) _, by simpa using hz⟩
      case measure => simp only [intOf]; omega
    · have hke : k = n := by omega
      subst hke
      have hys : ys = Od.placed us os := by
        have := HT.out
        rw [← hy, List.take_length, hy, ← HN.out, ← Od.placed_len us os, List.take_length] at this
        exact this
      have HC := hide (sp_any (c := k) (d := d) (us := ys) (n := k) (m := k) hy HW.out (Nat.le_refl _) hn (arow_owns hy.symm hown) (HB.out.below hB) (by rw [hys]; exact HP.out) HGW.out)
      have HE := hide (show Od.pair ys ws = Od.cost us ws os by rw [hys]; exact Od.placed_cost us ws os)
      clear hown hys
      go_wp2_with fail
      refine HC.out.mono ?_
      rintro e w1 ⟨rfl, hb1⟩
      go_wp2_with fail
      go_ret
      exact ⟨ret_int HE.out, hB.trans (hb1.mono hB.size)⟩
end Go.Proofs.Ytljccbnkibfimaa
