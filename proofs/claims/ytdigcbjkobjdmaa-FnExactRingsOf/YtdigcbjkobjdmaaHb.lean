/-
  What the program's tests and sums of chapter 7 answer: areUsesAndWays, hasEachOnce, sumOfPairs, costOfOrder.
-/
import Derived.Test.YtdigcbjkobjdmaaPg
import Derived.Test.YtdigcbjkobjdmaaHa
namespace Go.Proofs.Ytdigcbjkobjdmaa
open Go.RowKit

def bls (bs : List Bool) : List Value := bs.map fun b => .bool b
theorem bls_len (bs : List Bool) : (bls bs).length = bs.length := by simp [bls]
theorem bls_get (bs : List Bool) (j : Nat) (h : j < bs.length) (d : Bool) : (bls bs)[j]? = some (.bool (bs.getD j d)) := by simp [bls, h]
theorem bls_set (bs : List Bool) (j : Nat) (x : Bool) : (bls bs).set j (.bool x) = bls (bs.set j x) := by simp [bls, List.map_set]
theorem makeB_run (n : Nat) (hn : n ≤ 1048576) (w : World) : (Instr.makeSlice 68 (.int .i64 (n : Int)) (.int .i64 (n : Int))).run Try.prog w = .ok (.slice (some ⟨w.heap.size, 0, none⟩) n n) (w.alloc (.cells (madeCells #[.bool false] n) 4)) := by
  have h : (Try.prog.info? 4).map (fun i => (i.zero, i.size, i.bytes)) = some (some (.bool false), 1, 1) := by kernel_rfl
  obtain ⟨i, hi, hzz⟩ := Option.map_eq_some_iff.1 h
  simp only [Prod.mk.injEq] at hzz
  obtain ⟨hz, hs, hb⟩ := hzz
  have := run_make (P := Try.prog) w 68 4 i _ Try.underlying68 hi hz .i64 .i64 (n : Int) (n : Int) (by omega) (by omega) (by rw [hb]; omega) (by omega)
  simpa [hs, Value.cells] using this
theorem madeB_own (w : World) (n : Nat) (hn : n ≤ 1048576) : (w.alloc (.cells (madeCells #[.bool false] n) 4)).ownsRow w.heap.size 4 1 (.slice (some ⟨w.heap.size, 0, none⟩) n n) n (bls (List.replicate n false)) := by
  have h := World.ownsRow_lit (base := w.heap.size) (e := 4) (size := 1) w (madeCells #[.bool false] n) n (Nat.le_refl _) (by unfold maxLen; omega) (by simp [madeCells])
  rw [toList_madeCells_one] at h
  simpa [bls] using h

end Go.Proofs.Ytdigcbjkobjdmaa
