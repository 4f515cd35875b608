/-
  What BestTable of the program and of the model answer.
-/
import Derived.Test.YtpabfmcoadolcabCl
namespace Go.Proofs.Ytpabfmcoadolcab
open Go.RowKit

def btL (L : List (List Int)) (p : Int) : List Int := if chB L p then Of.tab L p.toNat else []
theorem btL_no {L : List (List Int)} {p : Int} (h : chB L p = false) : btL L p = [] := by simp [btL, h]
theorem btL_yes {L : List (List Int)} {P : Nat} (h : chB L (P : Int) = true) : btL L (P : Int) = Of.tab L P := by simp [btL, h]
theorem btL_len (L : List (List Int)) (p : Int) : (btL L p).length ≤ 41 := by
  cases h : chB L p
  · rw [btL_no h]; simp
  · have := chB_yes h
    unfold btL
    rw [h, if_pos rfl, Of.tab_len]
    omega
theorem make_one {P M : Nat} (hM : P + 1 = M) (hM' : M ≤ 1000) (w : World) : (Instr.makeSlice 31 (.int .i64 ((P : Int) + 1)) (.int .i64 ((P : Int) + 1))).run Try.prog w = .ok (.slice (some ⟨w.heap.size, 0, none⟩) M M) (w.alloc (.cells (madeCells #[.int .i64 0] M) 3)) := by
  have e : ((M : Nat) : Int) = (P : Int) + 1 := by omega
  rw [← e]; exact makeI_run M (by omega) w
end Go.Proofs.Ytpabfmcoadolcab
