/-
  Proved: whatever bounds are handed in, good or not, the program's GoodBounds answers just as its model does, and nothing that was there is written. No condition.
-/
import Derived.Test.YtdmdhmcnedmnbasLGoodB
import Derived.ProofKit
import Derived.OpenShut
import Derived.ChangeOld
import Derived.Below
import Derived.Lib.SmallJoins
namespace Go.Proofs.Ytdmdhmcnedmnbas.fnExactGoodBounds
open Go.ChangeShapes Go.WideShapes Go.ChangeAt Go.RowKit Go.Joins
set_option linter.unusedVariables false

theorem own : ownKnob Try.prog.godebug = none := by kernel_rfl
theorem laidOut : laidOutB Try.prog = true := by kernel_rfl
theorem cellsF : Try.prog.cellsOf 35 = 2 := by kernel_rfl
theorem cellsB : Try.prog.cellsOf 37 = 4 := by kernel_rfl
theorem cellsI : Try.prog.cellsOf 3 = 1 := by kernel_rfl

set_option maxRecDepth 100000 in
theorem lifted (os : Os) (started : os.Started) (H : Type) (enc : TypeId × Value → H) :
    ReturnsInHanded {} Try.checked os 4 .any (Rows.fnExactGoodBoundsSpec.pre6 enc Try.prog Try.f4 Rows.fnExactGoodBoundsRow.domain false) (Rows.fnExactGoodBoundsSpec.post enc Try.prog Try.f4 false true false false) := by
  refine returnsInHanded_of_change (C := Try.checked) own started (by kernel_rfl) Try.func4
    (ChangeSpec.witness6 (enc := enc) (C := Try.checked) false ⟨#[], #[.agg #[.int .i64 0, .int .i64 0, .int .i64 0, .int .i64 0]], []⟩ 8 (by kernel_rfl) (by kernel_rfl) (by kernel_rfl) (by kernel_rfl)) ?_
  intro W base args ds gs before hval0 hW hcnd _
  have hval : ∀ (j : Nat) t v, Try.f4.params[j]? = some t → args[j]? = some v → Value.okWide Try.prog W .any base t v := hval0
  have hW' := hW
  obtain ⟨p, q, hA0, hV, rfl, hfz, hnd⟩ := hW
  have hA : DataW.TrodAll enc Try.prog W 0 (fun _ => true) true Try.f4.params.toList args.toList ds p := hA0
  rw [Try.params4] at hA hval
  obtain ⟨v0, vs0, d0, ds0, p0, q0, hargs, rfl, rfl, h0, r0⟩ := trodAll_cons hA
  obtain ⟨rfl, rfl, rfl⟩ := trodAll_nil r0
  obtain rfl : args = #[v0] := by cases args; simp_all
  obtain ⟨rfl, rfl⟩ := trodVars_none hV
  have k0 := h0
  have lt0 : ∀ x ∈ p0, x.block < W.heap.size := by obtain ⟨m, hm⟩ := k0; exact DataW.trod_lt m _ _ _ hm
  obtain ⟨cs, rfl, hsz⟩ := okWide_struct Try.underlying37 (hval 0 37 v0 rfl rfl)
  obtain ⟨c0, c1, c2, c3, rfl⟩ := array4 (hsz.trans cellsB)
  obtain ⟨fuel, hf⟩ := h0
  obtain ⟨y0, y1, m, hx, _, g0, g1⟩ := trod_struct2 Try.underlying37 hf
  simp [Value.cells, cellsF] at g0 g1
  obtain ⟨z0, z1, m0, hx0, _, i0, i1⟩ := trod_struct2 Try.underlying35 g0
  obtain ⟨z2, z3, m1, hx1, _, i2, i3⟩ := trod_struct2 Try.underlying35 g1
  simp [cellsI] at i0 i1 i2 i3
  obtain ⟨n0, f0, rfl, wn0⟩ := DataW.trod_int Try.underlying3 i0
  obtain ⟨n1, f1, rfl, wn1⟩ := DataW.trod_int Try.underlying3 i1
  obtain ⟨n2, f2, rfl, wn2⟩ := DataW.trod_int Try.underlying3 i2
  obtain ⟨n3, f3, rfl, wn3⟩ := DataW.trod_int Try.underlying3 i3
  simp at f0 f1 f2 f3
  subst f0 f1 f2 f3
  clear hA0 hval0
  refine (lGoodB_walk n0 n1 n2 n3 W).mono fun e W' ⟨he, bel⟩ => ?_
  subst he
  exact ⟨_, rfl, _, _, _, [], _, [], hW', trodAll_mk1 (shut_bool Try.underlying4 _), (trodAll_cons_mk (Below.trod laidOut (by kernel_rfl) (of_decide_eq_true (by kernel_rfl)) k0 bel lt0) trodAll_mk0), rfl, bel.frame _, fun h => by cases h⟩

theorem over : Rows.fnExactGoodBoundsRow.holds Try.pinned (OpenSpec.ofChange Rows.fnExactGoodBoundsSpec) :=
  OpenClaim.holds_of_wide 4 Try.f4 rfl rfl rfl rfl rfl rfl rfl ⟨rfl, rfl, rfl, rfl, rfl⟩ rfl rfl rfl rfl rfl (by kernel_rfl) Try.func4 (by kernel_rfl)
    (of_decide_eq_true (by kernel_rfl)) (by unfold Func.isWrapper; first | (rw [if_pos (by decide +kernel)]; kernel_rfl) | (rw [if_neg (by decide +kernel)]; exact ⟨rfl, rfl⟩))
    (fun os started H enc _ => lifted os started H enc)
end Go.Proofs.Ytdmdhmcnedmnbas.fnExactGoodBounds
namespace Go.Proofs.Ytdmdhmcnedmnbas
theorem fnExactGoodBounds_holds : Rows.FnExactGoodBoundsSaid := fnExactGoodBounds.over
#print axioms fnExactGoodBounds_holds
end Go.Proofs.Ytdmdhmcnedmnbas
