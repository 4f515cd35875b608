/-
  Prices as they come in.
-/
import Derived.Test.YtcniegaogdggaaaOp
namespace Go.Proofs.Ytcniegaogdggaaa
open Go.ChangeShapes Go.WideShapes Go.ChangeAt Go.RowKit Go.Deep

theorem cellsPr : Try.prog.cellsOf 40 = 2 := by kernel_rfl
set_option maxRecDepth 100000 in
theorem opened_prices {H : Type} {enc : TypeId × Value → H} {W : World} {base : Nat} {v : Value} {x : DataW H} {p : List MemPlace} {sp : Nat → Bool} (hv : Value.okWide Try.prog W .any base 40 v)
    (h0 : DataW.Trod enc Try.prog W 0 sp true 40 v x p) : ∃ (a b : Option Addr) (ps fs : List Int) (c d : Nat), v = .agg #[.slice a ps.length c, .slice b fs.length d] ∧ ps.length ≤ maxLen ∧ fs.length ≤ maxLen ∧ ARow W a ps ∧ ARow W b fs := by
  obtain ⟨cs, rfl, hsz⟩ := okWide_struct Try.underlying40 hv
  have hcs : cs.size = 2 := hsz.trans cellsPr
  obtain ⟨c0, c1, rfl⟩ : ∃ c0 c1, cs = #[c0, c1] := by
    obtain ⟨l⟩ := cs
    match l, hcs with
    | [c0, c1], _ => exact ⟨c0, c1, rfl⟩
  obtain ⟨fuel, hf⟩ := h0
  obtain ⟨y0, y1, m, hx, _, g0, g1⟩ := trod_struct2 Try.underlying40 hf
  simp [Value.cells, cellsS] at g0 g1
  obtain ⟨a, ps, c, rfl, l0, r0⟩ := opened_ints g0
  obtain ⟨b, fs, d, rfl, l1, r1⟩ := opened_ints g1
  exact ⟨a, b, ps, fs, c, d, rfl, l0, l1, r0, r1⟩
end Go.Proofs.Ytcniegaogdggaaa
