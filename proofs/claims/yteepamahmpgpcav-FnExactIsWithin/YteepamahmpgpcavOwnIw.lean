/-
  Proved: whatever fraction and bounds are handed in, good or not, the program's IsWithin answers just as its model does, and nothing that was there is written. No condition.
-/
import Derived.Test.YteepamahmpgpcavLIw
import Derived.ProofKit
import Derived.OpenShut
import Derived.ChangeOld
import Derived.Below
import Derived.Lib.SmallJoins
namespace Go.Proofs.Yteepamahmpgpcav.fnExactIsWithin
open Go.ChangeShapes Go.WideShapes Go.ChangeAt Go.RowKit Go.Joins
set_option linter.unusedVariables false

theorem own : ownKnob Try.prog.godebug = none := by kernel_rfl
theorem laidOut : laidOutB Try.prog = true := by kernel_rfl
theorem cellsF : Try.prog.cellsOf 40 = 2 := by kernel_rfl
theorem cellsB : Try.prog.cellsOf 42 = 4 := by kernel_rfl
theorem cellsI : Try.prog.cellsOf 3 = 1 := by kernel_rfl

set_option maxRecDepth 100000 in
theorem lifted (os : Os) (started : os.Started) (H : Type) (enc : TypeId × Value → H) :
    ReturnsInHanded {} Try.checked os 8 .any (Rows.fnExactIsWithinSpec.pre6 enc Try.prog Try.f8 Rows.fnExactIsWithinRow.domain false) (Rows.fnExactIsWithinSpec.post enc Try.prog Try.f8 false true false false) := by
  refine returnsInHanded_of_change (C := Try.checked) own started (by kernel_rfl) Try.func8
    (ChangeSpec.witness6 (enc := enc) (C := Try.checked) false ⟨#[], #[.agg #[.int .i64 0, .int .i64 0], .agg #[.int .i64 0, .int .i64 0, .int .i64 0, .int .i64 0]], []⟩ 8 (by kernel_rfl) (by kernel_rfl) (by kernel_rfl) (by kernel_rfl)) ?_
  intro W base args ds gs before hval0 hW hcnd _
  have hval : ∀ (j : Nat) t v, Try.f8.params[j]? = some t → args[j]? = some v → Value.okWide Try.prog W .any base t v := hval0
  have hW' := hW
  obtain ⟨p, q, hA0, hV, rfl, hfz, hnd⟩ := hW
  have hA : DataW.TrodAll enc Try.prog W 0 (fun _ => true) true Try.f8.params.toList args.toList ds p := hA0
  rw [Try.params8] at hA hval
  obtain ⟨v0, vs0, d0, ds0, p0, q0, hargs, rfl, rfl, h0, r0⟩ := trodAll_cons hA
  obtain ⟨v1, vs1, d1, ds1, p1, q1, rfl, rfl, rfl, h1, r1⟩ := trodAll_cons r0
  obtain ⟨rfl, rfl, rfl⟩ := trodAll_nil r1
  obtain rfl : args = #[v0, v1] := by cases args; simp_all
  obtain ⟨rfl, rfl⟩ := trodVars_none hV
  have k0 := h0
  have lt0 : ∀ x ∈ p0, x.block < W.heap.size := by obtain ⟨m, hm⟩ := k0; exact DataW.trod_lt m _ _ _ hm
  have k1 := h1
  have lt1 : ∀ x ∈ p1, x.block < W.heap.size := by obtain ⟨m, hm⟩ := k1; exact DataW.trod_lt m _ _ _ hm
  obtain ⟨es, rfl, esz⟩ := okWide_struct Try.underlying40 (hval 0 40 v0 rfl rfl)
  obtain ⟨e0, e1, rfl⟩ := array2 (esz.trans cellsF)
  obtain ⟨fuelE, hfE⟩ := h0
  obtain ⟨z4, z5, m2, hx2, _, i4, i5⟩ := trod_struct2 Try.underlying40 hfE
  obtain ⟨cs, rfl, hsz⟩ := okWide_struct Try.underlying42 (hval 1 42 v1 rfl rfl)
  obtain ⟨c0, c1, c2, c3, rfl⟩ := array4 (hsz.trans cellsB)
  obtain ⟨fuel, hf⟩ := h1
  obtain ⟨y0, y1, m, hx, _, g0, g1⟩ := trod_struct2 Try.underlying42 hf
  simp [Value.cells, cellsF] at g0 g1
  obtain ⟨z0, z1, m0, hx0, _, i0, i1⟩ := trod_struct2 Try.underlying40 g0
  obtain ⟨z2, z3, m1, hx1, _, i2, i3⟩ := trod_struct2 Try.underlying40 g1
  simp [Value.cells, cellsI] at i0 i1 i2 i3 i4 i5
  obtain ⟨n0, f0, rfl, wn0⟩ := DataW.trod_int Try.underlying3 i0
  obtain ⟨n1, f1, rfl, wn1⟩ := DataW.trod_int Try.underlying3 i1
  obtain ⟨n2, f2, rfl, wn2⟩ := DataW.trod_int Try.underlying3 i2
  obtain ⟨n3, f3, rfl, wn3⟩ := DataW.trod_int Try.underlying3 i3
  obtain ⟨n4, f4, rfl, wn4⟩ := DataW.trod_int Try.underlying3 i4
  obtain ⟨n5, f5, rfl, wn5⟩ := DataW.trod_int Try.underlying3 i5
  simp at f0 f1 f2 f3 f4 f5
  subst f0 f1 f2 f3 f4 f5
  clear hA0 hval0
  refine (lIw_walk n4 n5 n0 n1 n2 n3 W).mono fun e W' ⟨he, bel⟩ => ?_
  subst he
  exact ⟨_, rfl, _, _, _, [], _, [], hW', trodAll_mk1 (shut_bool Try.underlying4 _), (trodAll_cons_mk (Below.trod laidOut (by kernel_rfl) (of_decide_eq_true (by kernel_rfl)) k0 bel lt0) (trodAll_cons_mk (Below.trod laidOut (by kernel_rfl) (of_decide_eq_true (by kernel_rfl)) k1 bel lt1) trodAll_mk0)), rfl, bel.frame _, fun h => by cases h⟩

theorem over : Rows.fnExactIsWithinRow.holds Try.pinned (OpenSpec.ofChange Rows.fnExactIsWithinSpec) :=
  OpenClaim.holds_of_wide 8 Try.f8 rfl rfl rfl rfl rfl rfl rfl ⟨rfl, rfl, rfl, rfl, rfl⟩ rfl rfl rfl rfl rfl (by kernel_rfl) Try.func8 (by kernel_rfl)
    (of_decide_eq_true (by kernel_rfl)) (by unfold Func.isWrapper; first | (rw [if_pos (by decide +kernel)]; kernel_rfl) | (rw [if_neg (by decide +kernel)]; exact ⟨rfl, rfl⟩))
    (fun os started H enc _ => lifted os started H enc)
end Go.Proofs.Yteepamahmpgpcav.fnExactIsWithin
namespace Go.Proofs.Yteepamahmpgpcav
theorem fnExactIsWithin_holds : Rows.FnExactIsWithinSaid := fnExactIsWithin.over
#print axioms fnExactIsWithin_holds
end Go.Proofs.Yteepamahmpgpcav
