/-
  What the small functions of chapter 2 answer, the program's and the model's: hasRoot, wholeRoot (by a float that is put right); l2Square, l2Root (by halving).
-/
import Derived.Test.YtdmdhmcnedmnbasD
import Derived.Test.YtdmdhmcnedmnbasFl
import Derived.Test.YtdmdhmcnedmnbasRt
import Derived.Laws.FloatArith
import Derived.Laws.Externs
namespace Go.Proofs.Ytdmdhmcnedmnbas
open Go.RowKit


theorem sqrt_entry (args : Array Value) (w : World) : (callFunc 55 args).run Try.prog w = ((Extern.MathSqrt.sqrt args).run Try.prog w).andThen fun v w' => .ok (.value v) w' :=
  run_callFunc_extern Try.func55 (by kernel_rfl) (by kernel_rfl) (by kernel_rfl) (by kernel_rfl) args w
theorem sqrt_run {x s : Nat} (h : FloatKind.f64.format.sqrt x = some s) (w : World) : (callFunc 55 #[.float .f64 x]).run Try.prog w = .ok (.value (.float .f64 s)) w := by
  have hv : Extern.MathSqrt.sqrt #[.float .f64 x] = pure (.float .f64 s) := by
    show (match FloatKind.f64.format.sqrt x with | some r => (pure (.float .f64 r) : Sem Value) | none => do pure (.float .f64 (← choose (.nanBits .f64 x x)))) = _
    rw [h]
  rw [sqrt_entry, hv]
  simp [Result.andThen]
set_option maxHeartbeats 400000 in
theorem Sqrt_any {x s : Nat} (h : FloatKind.f64.format.sqrt x = some s) (w : World) :
    Calls Try.prog 52 #[.float .f64 x] w fun e w' => e = .returned (.float .f64 s) ∧ w' = w := by
  have q := fun w => sqrt_run h w
  clear h
  go_enter Try.func52, Try.ntmps52
  go_wp2
  go_ret
  exact ⟨rfl, rfl⟩
end Go.Proofs.Ytdmdhmcnedmnbas
