/-
  A house as it comes in.
-/
import Derived.Test.YtlbagigghpiifaaOp
import Derived.Deep.Strs
namespace Go.Proofs.Ytlbagigghpiifaa
open Go.ChangeShapes Go.WideShapes Go.ChangeAt Go.RowKit Go.Deep

theorem cellsH17 : Try.prog.cellsOf 38 = 3 := by kernel_rfl
theorem cellsS17 : Try.prog.cellsOf 22 = 1 := by kernel_rfl
set_option maxRecDepth 100000 in
theorem opened_house {H : Type} {enc : TypeId × Value → H} {W : World} {base : Nat} {v : Value} {x : DataW H} {p : List MemPlace} {sp : Nat → Bool} (hv : Value.okWide Try.prog W .any base 38 v)
    (h0 : DataW.Trod enc Try.prog W 0 sp true 38 v x p) : ∃ (a b o : Option Addr) (ws cs os : List Int) (c d e : Nat), v = .agg #[.slice a ws.length c, .slice b cs.length d, .slice o os.length e] ∧ (ws.length ≤ maxLen ∧ cs.length ≤ maxLen ∧ os.length ≤ maxLen) ∧ ARow W a ws ∧ ARow W b cs ∧ ARow W o os := by
  obtain ⟨cs, rfl, hsz⟩ := okWide_struct Try.underlying38 hv
  have hcs : cs.size = 3 := hsz.trans cellsH17
  obtain ⟨c0, c1, c2, rfl⟩ : ∃ c0 c1 c2, cs = #[c0, c1, c2] := by
    obtain ⟨l⟩ := cs
    match l, hcs with
    | [c0, c1, c2], _ => exact ⟨c0, c1, c2, rfl⟩
  obtain ⟨fuel, hf⟩ := h0
  obtain ⟨y0, y1, y2, m, hx, _, g0, g1, g2⟩ := trod_struct3 Try.underlying38 hf
  simp [Value.cells, cellsS17] at g0 g1 g2
  obtain ⟨a, ws, c, rfl, l0, r0⟩ := opened_ints g0
  obtain ⟨b, ks, d, rfl, l1, r1⟩ := opened_ints g1
  obtain ⟨o, os, e, rfl, l2, r2⟩ := opened_ints g2
  exact ⟨a, b, o, ws, ks, os, c, d, e, rfl, ⟨l0, l1, l2⟩, r0, r1, r2⟩
end Go.Proofs.Ytlbagigghpiifaa
