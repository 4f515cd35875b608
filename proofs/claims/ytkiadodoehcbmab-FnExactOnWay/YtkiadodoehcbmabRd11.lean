/-
  What WayBetween and OnWay of the program and of the model answer, in one word each.
-/
import Derived.Test.YtkiadodoehcbmabRc11
import Derived.Deep.DeepCutAuto
namespace Go.Proofs.Ytkiadodoehcbmab.Rt
def wbB (s t : Int × Int) : Bool := spotB s && spotB t
def wbI (s t : Int × Int) : Int := if wbB s t then way s t else 0
def owB (s t u : Int × Int) : Bool := spotB s && (spotB t && spotB u)
def owI (s t u : Int × Int) : Bool := owB s t u && decide (way s t + way t u = way s u)
theorem all_two (s t : Int × Int) : allS [s, t] = wbB s t := by
  simp [allS, wbB, List.range_succ]
theorem all_three (s t u : Int × Int) : allS [s, t, u] = owB s t u := by
  simp [allS, owB, List.range_succ]
end Go.Proofs.Ytkiadodoehcbmab.Rt
namespace Go.Proofs.Ytkiadodoehcbmab
open Go.RowKit
abbrev spV (s : Int × Int) : Value := .agg #[.int .i64 s.1, .int .i64 s.2]
theorem frow_two (W : World) (s t : Int × Int) (ty : TypeId) : FRow (W.alloc (.cells #[.int .i64 s.1, .int .i64 s.2, .int .i64 t.1, .int .i64 t.2] ty)) (some ⟨W.heap.size, 0, none⟩) [s, t] := by
  refine Or.inr ⟨_, 0, rfl, by simp, fun i hi => ?_⟩
  have : i = 0 ∨ i = 1 := by simp at hi; omega
  rcases this with rfl | rfl <;> simp
theorem frow_three (W : World) (s t u : Int × Int) (ty : TypeId) : FRow (W.alloc (.cells #[.int .i64 s.1, .int .i64 s.2, .int .i64 t.1, .int .i64 t.2, .int .i64 u.1, .int .i64 u.2] ty)) (some ⟨W.heap.size, 0, none⟩) [s, t, u] := by
  refine Or.inr ⟨_, 0, rfl, by simp, fun i hi => ?_⟩
  have : i = 0 ∨ i = 1 ∨ i = 2 := by simp at hi; omega
  rcases this with rfl | rfl | rfl <;> simp
end Go.Proofs.Ytkiadodoehcbmab
