/-
  Draws of chapter 7: families of the model's cursor, and the Draw functions.
-/
import Derived.Test.YtljccbnkibfimaaHt
import Derived.Test.YtljccbnkibfimaaHl
namespace Go.Proofs.Ytljccbnkibfimaa
open Go.RowKit

def fce (L : List (Int × Int)) : List Value := L.flatMap fun f => [.int .i64 f.1, .int .i64 f.2]
theorem fce_snoc (L : List (Int × Int)) (f : Int × Int) : fce (L ++ [f]) = fce L ++ [.int .i64 f.1, .int .i64 f.2] := by simp [fce]
theorem fce_get : ∀ (L : List (Int × Int)) (i : Nat), i < L.length → (fce L)[i * 2]? = some (.int .i64 (L.getD i (0, 0)).1) ∧ (fce L)[i * 2 + 1]? = some (.int .i64 (L.getD i (0, 0)).2)
  | [], i, h => by simp at h
  | f :: r, 0, _ => by simp [fce]
  | f :: r, i + 1, h => by
    have ih := fce_get r i (by simpa using h)
    have e : fce (f :: r) = [.int .i64 f.1, .int .i64 f.2] ++ fce r := by simp [fce]
    rw [e, List.getD_cons_succ]
    constructor
    · rw [List.getElem?_append_right (by simp; omega)]
      rw [show (i + 1) * 2 - [Value.int IntKind.i64 f.1, Value.int IntKind.i64 f.2].length = i * 2 by simp; omega]
      exact ih.1
    · rw [List.getElem?_append_right (by simp; omega)]
      rw [show (i + 1) * 2 + 1 - [Value.int IntKind.i64 f.1, Value.int IntKind.i64 f.2].length = i * 2 + 1 by simp; omega]
      exact ih.2
theorem fce_set (f : Int × Int) (r : List (Int × Int)) (z : Int) : (fce (f :: r)).set 1 (.int .i64 z) = fce ((f.1, z) :: r) := by simp [fce]
end Go.Proofs.Ytljccbnkibfimaa
