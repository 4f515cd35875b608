/-
  A list of lists that is made.
-/
import Derived.Test.YtcniegaogdggaabQa
namespace Go.Proofs.Ytcniegaogdggaab
open Go.RowKit

theorem makeC2_run (n : Nat) (hn : n ≤ 1048576) (w : World) : (Instr.makeSlice 22 (.int .i64 (n : Int)) (.int .i64 (n : Int))).run Try.prog w = .ok (.slice (some ⟨w.heap.size, 0, none⟩) n n) (w.alloc (.cells (madeCells #[.slice none 0 0] n) 30)) := by
  have h : (Try.prog.info? 30).map (fun i => (i.zero, i.size, i.bytes)) = some (some (.slice none 0 0), 1, 24) := by kernel_rfl
  obtain ⟨i, hi, hzz⟩ := Option.map_eq_some_iff.1 h
  simp only [Prod.mk.injEq] at hzz
  obtain ⟨hz, hs, hb⟩ := hzz
  have := run_make (P := Try.prog) w 22 30 i _ Try.underlying22 hi hz .i64 .i64 (n : Int) (n : Int) (by omega) (by omega) (by rw [hb]; omega) (by omega)
  simpa [hs, Value.cells] using this
theorem madeC2_own (w : World) (n : Nat) (hn : n ≤ 1048576) (gs : List Nat) (F : List (List Int)) : (w.alloc (.cells (madeCells #[.slice none 0 0] n) 30)).ownsRow w.heap.size 30 1 (.slice (some ⟨w.heap.size, 0, none⟩) n n) n (cvals gs F 0 n) := by
  have h := World.ownsRow_lit (base := w.heap.size) (e := 30) (size := 1) w (madeCells #[.slice none 0 0] n) n (Nat.le_refl _) (by unfold maxLen; omega) (by simp [madeCells])
  rw [toList_madeCells_one] at h
  have e : cvals gs F 0 n = List.replicate n (.slice none 0 0) := by
    apply List.ext_getElem <;> simp [cvals]
  rw [e]
  simpa using h
end Go.Proofs.Ytcniegaogdggaab
