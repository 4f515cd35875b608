/-
  Proved: whatever sheet is handed in, good or not, the program's PrintSheet answers just as its model does; the sheet reads behind the call as it read before, the program's table of the kinds of lines too, and nothing that was there is written. The tables that are read (powers of ten, the kinds of lines) are as the program's own text lays them: the card ties them.
-/
import Derived.Test.YtogkbidphdpjaaaDoorLPs15
import Derived.Test.YtogkbidphdpjaaaDoorOs15
import Derived.Test.YtogkbidphdpjaaaDoorTie
import Derived.Test.YtogkbidphdpjaaaDoorCards
import Derived.ProofKit
import Derived.OpenShut
import Derived.OpenVars
import Derived.ChangeOld
import Derived.Below
import Derived.LaidMore
import Derived.Stop.Joined
import Derived.SevenTiedAt
import Derived.Lib.SmallJoins
namespace Go.Proofs.YtogkbidphdpjaaaDoor.fnExactPrintSheet
open Go.ChangeShapes Go.WideShapes Go.ChangeAt Go.RowKit Go.Joins
set_option linter.unusedVariables false

theorem own : ownKnob Tryd.prog.godebug = none := by kernel_rfl
/-- The door's own heap meets the condition: closed facts. -/
theorem door_met (os : Os) (args : Array Value) : laidMetH Tryd.prog Rows.fnExactPrintSheetRow.laid ((World.doorLaid Tryd.prog 400 os).forCall (fun _ _ => 0) ⟨#[], args, []⟩).memory :=
  laidMetH_of_parts3 (fuel := 8) (laidMet_of_run' 8 (by kernel_rfl) (by kernel_rfl)) (by kernel_rfl) (by kernel_rfl)

theorem gT : (Tryd.prog.globalNamed "internal/strconv.uint64pow10").bind (fun g => (Tryd.prog.globals[g]?).map (·.type)) = some 108 := by kernel_rfl

theorem gK : (Tryd.prog.globalNamed "loop.example/g00451/impl.lineKinds").bind (fun g => (Tryd.prog.globals[g]?).map (·.type)) = some 72 := by kernel_rfl
theorem ba_of {s : ByteArray} {l : List UInt8} (h : s.data.toList = l) : s = ⟨l.toArray⟩ := by
  apply ByteArray.ext
  rw [← h]
theorem kind_of {H : Type} {enc : TypeId × Value → H} {W : World} {sp : Nat → Bool} {held : Bool} {f : Nat} {c0 c1 : Value} {y : DataW H × List MemPlace} {l : List UInt8} {z : Int}
    (h : DataW.trod enc Tryd.prog W 0 sp held f 71 [c0, c1] = some y) (hy : y.1 = .agg [.lit (.string l), .lit (.int .i64 z)]) : c0 = .string ⟨l.toArray⟩ ∧ c1 = .int .i64 z := by
  obtain ⟨ys, k, rfl, hy', _, hn, hi⟩ := DataW.trod_struct Tryd.underlying71 h
  have cs : Tryd.prog.cellsOf 9 = 1 := by kernel_rfl
  have ci : Tryd.prog.cellsOf 3 = 1 := by kernel_rfl
  have u0 := hi 0 _ rfl
  have u1 := hi 1 _ rfl
  obtain ⟨y0, y1, rfl⟩ : ∃ y0 y1, ys = [y0, y1] := by
    match ys, hn with
    | [a, b], _ => exact ⟨a, b, rfl⟩
  simp [cs] at u0
  simp [ci] at u1
  obtain ⟨s, e0, x0, _⟩ := DataW.trod_string Tryd.underlying9 u0
  obtain ⟨n, e1, x1, _⟩ := DataW.trod_int Tryd.underlying3 u1
  subst hy'
  simp at e0 e1 hy
  rw [x0] at hy
  rw [x1] at hy
  simp at hy
  exact ⟨by rw [e0, ba_of hy.1], by rw [e1, hy.2]⟩
theorem four_of {cs : List Value} (h : cs.length = 4) : ∃ c0 c1 c2 c3, cs = [c0, c1, c2, c3] := by
  match cs, h with
  | [a, b, c, d], _ => exact ⟨a, b, c, d, rfl⟩
theorem two_of {α : Type} {cs : List α} (h : cs.length = 2) : ∃ c0 c1, cs = [c0, c1] := by
  match cs, h with
  | [a, b], _ => exact ⟨a, b, rfl⟩
set_option maxRecDepth 100000 in
theorem kinds_of {H : Type} {enc : TypeId × Value → H} {W : World} {sp : Nat → Bool} {held : Bool} {f : Nat} {cs : List Value} {p : List MemPlace}
    (h : DataW.trod enc Tryd.prog W 0 sp held f 72 cs = some (Rows.laid_loop_example_g00451_impl_lineKinds, p)) : cs = kCells.toList := by
  obtain ⟨xs, m, rfl, hx, hl, hn, hi⟩ := DataW.trod_array Tryd.underlying72 h
  have ca : Tryd.prog.cellsOf 72 = 4 := by kernel_rfl
  have ck : Tryd.prog.cellsOf 71 = 2 := by kernel_rfl
  rw [ca] at hl
  obtain ⟨c0, c1, c2, c3, rfl⟩ := four_of hl
  obtain ⟨x0, x1, rfl⟩ := two_of hn
  have t0 := hi 0 (by decide)
  have t1 := hi 1 (by decide)
  simp [ck] at t0 t1
  have hx' := congrArg Prod.fst hx
  simp [Rows.laid_loop_example_g00451_impl_lineKinds] at hx'
  obtain ⟨a0, a1⟩ := kind_of t0 hx'.1.symm
  obtain ⟨a2, a3⟩ := kind_of t1 hx'.2.symm
  rw [a0, a1, a2, a3]
  rfl
theorem tabs_of {W : World} (h : laidMetH Tryd.prog Rows.fnExactPrintSheetRow.laid W) : Tab W ∧ KTab W := by
  rw [MakeChecks.laidMetH_plain _ _ _ (by kernel_rfl)] at h
  obtain ⟨ps, ⟨g0, t0, cs0, f0, p0, q0, hg0, ht0, hv0, hd0, ⟨g1, t1, cs1, f1, p1, q1, hg1, ht1, hv1, hd1, ⟨g2, t2, cs2, f2, p2, q2, hg2, ht2, hv2, hd2, ⟨g3, t3, cs3, f3, p3, q3, hg3, ht3, hv3, hd3, _, _⟩, _⟩, _⟩, _⟩, _, _⟩ := h
  refine ⟨?_, ?_⟩
  · have e := gT
    rw [hg2] at e
    obtain rfl : t2 = 108 := by
      have := ht2.symm.trans e
      simpa using this
    show W.var? Tryd.prog "internal/strconv.uint64pow10" = _
    rw [hv2, ← Lib.cells_of_tab (k := .u64) (zs := Lib.pow10Tab) Tryd.underlying108 Tryd.underlying99 (by kernel_rfl) (by kernel_rfl) hd2]
  · have e := gK
    rw [hg3] at e
    obtain rfl : t3 = 72 := by
      have := ht3.symm.trans e
      simpa using this
    show W.var? Tryd.prog "loop.example/g00451/impl.lineKinds" = _
    rw [hv3]
    have := kinds_of hd3
    congr 1
    apply Array.toList_inj.1
    exact this

set_option maxRecDepth 100000 in
theorem lifted (os : Os) (started : os.Started) (H : Type) (enc : TypeId × Value → H) :
    ReturnsInHanded {} Tryd.checked os 3 .any (fun w args => (Rows.fnExactPrintSheetSpec.pre enc Tryd.prog Tryd.f3 [] false w args ∧ laidMetH Tryd.prog Rows.fnExactPrintSheetRow.laid w) ∧ sizedMet enc Tryd.prog Tryd.f3 (OpenSpec.ofChange Rows.fnExactPrintSheetSpec) false w args)
      (Rows.fnExactPrintSheetSpec.post enc Tryd.prog Tryd.f3 false true false false) := by
  refine returnsInHanded_of_change_and (C := Tryd.checked) (X := fun w _ => laidMetH Tryd.prog Rows.fnExactPrintSheetRow.laid w) (fun _ _ _ hh h => h.of_heap hh) own started (by kernel_rfl) Tryd.func3
    (ChangeSpec.witness_shaped (enc := enc) (C := Tryd.checked) (os := os) (X := fun w _ => laidMetH Tryd.prog Rows.fnExactPrintSheetRow.laid w) false (World.doorLaid Tryd.prog 400 os) #[.agg #[.slice none 0 0, .slice none 0 0]] 8 rfl (World.shaped_of_RefB (by kernel_rfl) (by kernel_rfl)) (by kernel_rfl) (by kernel_rfl) (by kernel_rfl) (door_met os _)) ?_
  intro W base args ds gs before hval0 hW _ _ hL _
  have hval : ∀ (j : Nat) t v, Tryd.f3.params[j]? = some t → args[j]? = some v → Value.okWide Tryd.prog W .any base t v := hval0
  have hW' := hW
  obtain ⟨p, q, hA0, hV, rfl, hfz, hnd⟩ := hW
  have hA : DataW.TrodAll enc Tryd.prog W 0 (fun _ => true) true Tryd.f3.params.toList args.toList ds p := hA0
  rw [Tryd.params3] at hA hval
  obtain ⟨v0, vs0, d0, ds0, p0, q0, hargs, rfl, rfl, h0, r0⟩ := trodAll_cons hA
  obtain ⟨rfl, rfl, rfl⟩ := trodAll_nil r0
  obtain rfl : args = #[v0] := by cases args; simp_all
  have hV0 := hV
  obtain ⟨g, tg, csg, fg, dg, pg, rfl, _⟩ := trodVars_one hV
  have k0 := h0
  have lt0 : ∀ x ∈ p0, x.block < W.heap.size := by obtain ⟨m, hm⟩ := k0; exact DataW.trod_lt m _ _ _ hm
  obtain ⟨a0, b0, gs0, ls0, c0, d0, rfl, l0, lf0, ra0, m0, rb0⟩ := opened_sheet (hval 0 25 v0 rfl rfl) h0
  obtain ⟨ht, hk⟩ := tabs_of hL
  clear hA0 hval0
  refine (lPs15_walk (hide ht) (hide hk) (hide rfl) (hide l0) (hide lf0) (hide ra0) (hide rfl) (hide m0) (hide rb0)).mono fun e W' ⟨he, bel⟩ => ?_
  subst he
  exact ⟨_, rfl, _, _, _, _, _, _, hW', trodAll_mk1 (shut_bool Tryd.underlying4 _), (trodAll_cons_mk (Below.trod laidOutG (by kernel_rfl) (of_decide_eq_true (by kernel_rfl)) k0 bel lt0) trodAll_mk0), Below.trodVars laidOutG bel (by kernel_rfl) hV0, bel.frame _, fun h => by cases h⟩

theorem over : Rows.FnExactPrintSheetSaid :=
  OpenClaim.holds_of_wide 3 Tryd.f3 rfl rfl rfl rfl rfl rfl rfl ⟨rfl, rfl, rfl, rfl, rfl⟩ rfl rfl rfl rfl rfl (by kernel_rfl) Tryd.func3 (by kernel_rfl)
    (of_decide_eq_true (by kernel_rfl)) (by unfold Func.isWrapper; first | (rw [if_pos (by decide +kernel)]; kernel_rfl) | (rw [if_neg (by decide +kernel)]; exact ⟨rfl, rfl⟩))
    (fun os started H enc _ => lifted os started H enc)

theorem card : Rows.FnExactPrintSheetCardSaid :=
  Claim7.holds_tied_plain_at .later [] [.data, .data, .data, .data] true Rows.fnExactPrintSheetCard.stood.harness false
    over (fun _ h => by cases h) (by kernel_rfl) (fun _ h => by cases h) fnExactPrintSheet_row_tie rfl ⟨rfl, rfl⟩ (by kernel_rfl) rfl
    (fun f fn hf hfn => by
      obtain rfl : f = 3 := Option.some.inj ((show Tryd.prog.funcNamed Rows.fnExactPrintSheetRow.func = some 3 by kernel_rfl).symm.trans hf) |>.symm
      obtain rfl : fn = Tryd.f3 := (Option.some.inj (Tryd.func3.symm.trans hfn)).symm
      exact ⟨by kernel_rfl, fun j t ht => by
        rw [Tryd.params3] at ht
        have hm : t ∈ [25] := by simpa using Array.mem_of_getElem? ht
        have hall : ([25].all fun u => !Tryd.prog.wantsStandIn u) = true := by kernel_rfl
        exact (show Tryd.prog.wantsStandIn t = false by simpa using List.all_eq_true.1 hall t hm)⟩)
    (by kernel_rfl)
end Go.Proofs.YtogkbidphdpjaaaDoor.fnExactPrintSheet
namespace Go.Proofs.YtogkbidphdpjaaaDoor
theorem fnExactPrintSheet_card_holds : Rows.FnExactPrintSheetCardSaid := fnExactPrintSheet.card
#print axioms fnExactPrintSheet_card_holds
end Go.Proofs.YtogkbidphdpjaaaDoor
