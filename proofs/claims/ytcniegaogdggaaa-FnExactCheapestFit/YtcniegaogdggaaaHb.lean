/-
  What the program's tests and sums of chapter 7 answer: areUsesAndWays, hasEachOnce, sumOfPairs, costOfOrder.
-/
import Derived.Test.YtcniegaogdggaaaPg
import Derived.Test.YtcniegaogdggaaaHa
namespace Go.Proofs.Ytcniegaogdggaaa
open Go.RowKit

def bls (bs : List Bool) : List Value := bs.map fun b => .bool b
theorem bls_len (bs : List Bool) : (bls bs).length = bs.length := by simp [bls]
theorem bls_get (bs : List Bool) (j : Nat) (h : j < bs.length) (d : Bool) : (bls bs)[j]? = some (.bool (bs.getD j d)) := by simp [bls, h]
theorem bls_set (bs : List Bool) (j : Nat) (x : Bool) : (bls bs).set j (.bool x) = bls (bs.set j x) := by simp [bls, List.map_set]
theorem makeB_run (n : Nat) (hn : n ≤ 1048576) (w : World) : (Instr.makeSlice 71 (.int .i64 (n : Int)) (.int .i64 (n : Int))).run Try.prog w = .ok (.slice (some ⟨w.heap.size, 0, none⟩) n n) (w.alloc (.cells (madeCells #[.bool false] n) 4)) := by
  have h : (Try.prog.info? 4).map (fun i => (i.zero, i.size, i.bytes)) = some (some (.bool false), 1, 1) := by kernel_rfl
  obtain ⟨i, hi, hzz⟩ := Option.map_eq_some_iff.1 h
  simp only [Prod.mk.injEq] at hzz
  obtain ⟨hz, hs, hb⟩ := hzz
  have := run_make (P := Try.prog) w 71 4 i _ Try.underlying71 hi hz .i64 .i64 (n : Int) (n : Int) (by omega) (by omega) (by rw [hb]; omega) (by omega)
  simpa [hs, Value.cells] using this
theorem madeB_own (w : World) (n : Nat) (hn : n ≤ 1048576) : (w.alloc (.cells (madeCells #[.bool false] n) 4)).ownsRow w.heap.size 4 1 (.slice (some ⟨w.heap.size, 0, none⟩) n n) n (bls (List.replicate n false)) := by
  have h := World.ownsRow_lit (base := w.heap.size) (e := 4) (size := 1) w (madeCells #[.bool false] n) n (Nat.le_refl _) (by unfold maxLen; omega) (by simp [madeCells])
  rw [toList_madeCells_one] at h
  simpa [bls] using h


set_option maxHeartbeats 1000000 in
theorem eo_ne {a : Option Addr} {n m c : Nat} {w : World} (h : m ≠ n) :
    Calls Try.prog 46 #[.slice a m c, .int .i64 n] w fun e w' => e = .returned (.bool false) ∧ Below w.heap.size w w' := by
  have h1 : ((m : Int) != (n : Int)) = true := by simp; omega
  go_enter Try.func46, Try.ntmps46
  go_wp2_with fail
  go_ret
  exact ⟨rfl, Below.refl _ _⟩
set_option maxHeartbeats 2000000 in
theorem eo_same {a : Option Addr} {n c : Nat} {xs : List Int} {w : World} (hx : xs.length = n) (hn : n ≤ 10) (ha : ARow w a xs) :
    Calls Try.prog 46 #[.slice a n c, .int .i64 n] w fun e w' => e = .returned (.bool (Od.ordB xs n)) ∧ Below w.heap.size w w' := by
  have h1 : ((n : Int) != (n : Int)) = false := by simp
  have hmk := makeB_run n (by omega)
  have HA := hide ha
  have HX := hide hx
  have HO := hide (madeB_own w n (by omega))
  clear ha hx
  go_enter Try.func46, Try.ntmps46
  go_wp2_with fail
  go_loopw [4, 7, 16] (fun s4 _ s wr => ∃ (k : Nat), s4 = .bool false ∧ s = .int .i64 k ∧ k ≤ n ∧ Hid (∀ i, i < k → Od.okAt xs n i = true) ∧ wr.ownsRow w.heap.size 4 1 (.slice (some ⟨w.heap.size, 0, none⟩) n n) n (bls (Od.seen xs k n)) ∧ Below w.heap.size w wr) (fun _ _ s _ => n - (intOf s).toNat)
  case atStart => exact ⟨0, rfl, rfl, Nat.zero_le _, hide fun i hi => absurd hi (Nat.not_lt_zero _), by rw [Od.seen_zero]; exact HO.out, (Below.refl _ _).alloc (Nat.le_refl _) _⟩
  case round =>
    obtain ⟨k, rfl, rfl, hk, HK, hown, hB⟩ := hrel
    clear hmk HO
    by_cases hlt : k < n
    · obtain ⟨b, off, rfl, r1⟩ := (HA.out.below hB).at (i := k) (by rw [HX.out]; exact hlt)
      have i0 : (0 : Int) ≤ (k : Int) := by omega
      have i1 : (k : Int) < (n : Int) := by omega
      generalize hx : xs.getD k 0 = x at r1
      cases hb : Pf.inB x 0 ((n : Int) - 1)
      · have HN := hide (Od.ordB_not hlt (show Od.okAt xs n k = false by simp only [Od.okAt]; rw [hx, hb]; rfl))
        clear hx hown
        go_wp2_with fail
        refine (between_eq hb).mono ?_
        rintro e w1 ⟨rfl, rfl⟩
        go_wp2_with fail
        go_ret
        exact ⟨ret_bool HN.out.symm, hB⟩
      · obtain ⟨j, rfl⟩ : ∃ j : Nat, x = (j : Int) := ⟨x.toNat, by have := Pf.inB_yes hb; omega⟩
        have hj : j < n := by have := Pf.inB_yes hb; omega
        have j0 : (0 : Int) ≤ (j : Int) := by omega
        have j1 : (j : Int) < (n : Int) := by omega
        have c0 : wr.cell? ⟨w.heap.size, j, none⟩ = some (.bool ((xs.take k).contains (j : Int))) := by
          rw [hown.cellAt j (by rw [Nat.mul_one]; exact hj), bls_get _ j (by rw [Od.seen_len]; exact hj) false, Od.seen_get xs k n j hj]
        have HS := hide (fun (h : (xs.take k).contains (j : Int) = true) => Od.ordB_not hlt (show Od.okAt xs n k = false by simp only [Od.okAt]; rw [hx, h]; simp))
        have HT := hide (fun (h : (xs.take k).contains (j : Int) = false) => show Od.okAt xs n k = true by simp only [Od.okAt]; rw [hx, h, hb]; rfl)
        have f0 := hown.frozenAt j
        obtain ⟨st1, st2⟩ := hown.stored j (.bool true)
        rw [bls_set, Od.seen_step xs k n j (by rw [HX.out]; exact hlt) hx] at st1
        have HST := hide st1
        generalize (xs.take k).contains (j : Int) = sb at *
        clear hx st1 hown
        cases sb
        · go_wp2_with fail
          refine (between_eq hb).mono ?_
          rintro e w1 ⟨rfl, rfl⟩
          go_wp2_with fail
          go_roundw
          case rel =>
            refine ⟨k + 1, rfl, by go_num, by omega, hide fun i hi => ?_, HST.out, hB.setCell (Nat.le_refl _) _⟩
            by_cases e : i = k
            · subst e; exact HT.out trivial
            · exact HK.out i (by omega)
          case measure => simp only [intOf]; omega
        · go_wp2_with fail
          refine (between_eq hb).mono ?_
          rintro e w1 ⟨rfl, rfl⟩
          go_wp2_with fail
          go_ret
          exact ⟨ret_bool (HS.out trivial).symm, hB⟩
    · have hke : k = n := by omega
      subst hke
      have HY := hide (Od.ordB_of HX.out HK.out)
      go_wp2_with fail
      go_ret
      exact ⟨ret_bool HY.out.symm, hB⟩
theorem eo_any {a : Option Addr} {n m c : Nat} {xs : List Int} {w : World} (hx : xs.length = m) (hn : n ≤ 10) (ha : ARow w a xs) :
    Calls Try.prog 46 #[.slice a m c, .int .i64 n] w fun e w' => e = .returned (.bool (Od.ordB xs n)) ∧ Below w.heap.size w w' := by
  by_cases h : m = n
  · subst h; exact eo_same hx hn ha
  · rw [Od.ordB_ne (by omega)]; exact eo_ne h
theorem eo_eq {a : Option Addr} {n m c : Nat} {xs : List Int} {w : World} {r : Bool} (hx : Hid (xs.length = m)) (hn : n ≤ 10) (ha : Hid (ARow w a xs)) (h : Hid (Od.ordB xs n = r)) :
    Calls Try.prog 46 #[.slice a m c, .int .i64 n] w fun e w' => e = .returned (.bool r) ∧ Below w.heap.size w w' := h.out ▸ eo_any hx.out hn ha.out
end Go.Proofs.Ytcniegaogdggaaa
