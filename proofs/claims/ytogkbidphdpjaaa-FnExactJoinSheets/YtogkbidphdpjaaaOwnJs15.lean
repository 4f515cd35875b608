/-
  Proved: whatever two sheets are handed in, the program's JoinSheets answers just as its model does, in memory of its own, behind another call too; both sheets read behind the call as they read before, and nothing that was there is written. No condition.
-/
import Derived.Test.YtogkbidphdpjaaaLJs15
import Derived.Test.YtogkbidphdpjaaaOs15
namespace Go.Proofs.Ytogkbidphdpjaaa.fnExactJoinSheets
open Go.ChangeShapes Go.WideShapes Go.ChangeAt Go.RowKit
set_option linter.unusedVariables false

theorem own : ownKnob Try.prog.godebug = none := by kernel_rfl

set_option maxRecDepth 100000 in
theorem lifted (os : Os) (started : os.Started) (H : Type) (enc : TypeId × Value → H) :
    ReturnsInHanded {} Try.checked os 6 .any (Rows.fnExactJoinSheetsSpec.pre6 enc Try.prog Try.f6 Rows.fnExactJoinSheetsRow.domain false) (Rows.fnExactJoinSheetsSpec.post enc Try.prog Try.f6 false true false false) := by
  refine returnsInHanded_of_change (C := Try.checked) own started (by kernel_rfl) Try.func6
    (ChangeSpec.witness6 (enc := enc) (C := Try.checked) false ⟨#[], #[.agg #[.slice none 0 0, .slice none 0 0], .agg #[.slice none 0 0, .slice none 0 0]], []⟩ 8 (by kernel_rfl) (by kernel_rfl) (by kernel_rfl) (by kernel_rfl)) ?_
  intro W base args ds gs before hval0 hW hcnd _
  have hval : ∀ (j : Nat) t v, Try.f6.params[j]? = some t → args[j]? = some v → Value.okWide Try.prog W .any base t v := hval0
  have hW' := hW
  obtain ⟨p, q, hA0, hV, rfl, hfz, hnd⟩ := hW
  have hA : DataW.TrodAll enc Try.prog W 0 (fun _ => true) true Try.f6.params.toList args.toList ds p := hA0
  rw [Try.params6] at hA hval
  obtain ⟨v0, vs0, d0, ds0, p0, q0, hargs, rfl, rfl, h0, r0⟩ := trodAll_cons hA
  obtain ⟨v1, vs1, d1, ds1, p1, q1, rfl, rfl, rfl, h1, r1⟩ := trodAll_cons r0
  obtain ⟨rfl, rfl, rfl⟩ := trodAll_nil r1
  obtain rfl : args = #[v0, v1] := by cases args; simp_all
  obtain ⟨rfl, rfl⟩ := trodVars_none hV
  have k0 := h0
  have lt0 : ∀ x ∈ p0, x.block < W.heap.size := by obtain ⟨m, hm⟩ := k0; exact DataW.trod_lt m _ _ _ hm
  have k1 := h1
  have lt1 : ∀ x ∈ p1, x.block < W.heap.size := by obtain ⟨m, hm⟩ := k1; exact DataW.trod_lt m _ _ _ hm
  obtain ⟨a0, b0, gs0, ls0, c0, d0, rfl, l0, lf0, ra0, m0, rb0⟩ := opened_sheet (hval 0 25 v0 rfl rfl) h0
  obtain ⟨a1, b1, gs1, ls1, c1, d1, rfl, l1, lf1, ra1, m1, rb1⟩ := opened_sheet (hval 1 25 v1 rfl rfl) h1
  clear hA0 hval0
  refine (lJs15_walk  (hide rfl) (hide l0) (hide lf0) (hide ra0) (hide rfl) (hide m0) (hide rb0) (hide rfl) (hide l1) (hide lf1) (hide ra1) (hide rfl) (hide m1) (hide rb1)).mono fun e W' ⟨he, bel⟩ => ?_
  subst he
  exact ⟨_, rfl, _, _, _, [], _, [], hW', trodAll_mk1 (shut_bool Try.underlying4 _), (trodAll_cons_mk (Below.trod laidOutG (by kernel_rfl) (of_decide_eq_true (by kernel_rfl)) k0 bel lt0) (trodAll_cons_mk (Below.trod laidOutG (by kernel_rfl) (of_decide_eq_true (by kernel_rfl)) k1 bel lt1) trodAll_mk0)), rfl, bel.frame _, fun h => by cases h⟩

theorem over : Rows.fnExactJoinSheetsRow.holds Try.pinned (OpenSpec.ofChange Rows.fnExactJoinSheetsSpec) :=
  OpenClaim.holds_of_wide 6 Try.f6 rfl rfl rfl rfl rfl rfl rfl ⟨rfl, rfl, rfl, rfl, rfl⟩ rfl rfl rfl rfl rfl (by kernel_rfl) Try.func6 (by kernel_rfl)
    (of_decide_eq_true (by kernel_rfl)) (by unfold Func.isWrapper; first | (rw [if_pos (by decide +kernel)]; kernel_rfl) | (rw [if_neg (by decide +kernel)]; exact ⟨rfl, rfl⟩))
    (fun os started H enc _ => lifted os started H enc)
end Go.Proofs.Ytogkbidphdpjaaa.fnExactJoinSheets
namespace Go.Proofs.Ytogkbidphdpjaaa
theorem fnExactJoinSheets_holds : Rows.FnExactJoinSheetsSaid := fnExactJoinSheets.over
#print axioms fnExactJoinSheets_holds
end Go.Proofs.Ytogkbidphdpjaaa
