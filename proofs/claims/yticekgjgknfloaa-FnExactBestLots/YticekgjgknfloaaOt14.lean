/-
  Trades as they come in.
-/
import Derived.Test.YticekgjgknfloaaOp
import Derived.Deep.Strs
namespace Go.Proofs.Yticekgjgknfloaa
open Go.ChangeShapes Go.WideShapes Go.ChangeAt Go.RowKit Go.Deep

theorem cellsT14 : Try.prog.cellsOf 24 = 3 := by kernel_rfl
theorem cellsS14 : Try.prog.cellsOf 22 = 1 := by kernel_rfl
theorem cellsI14 : Try.prog.cellsOf 3 = 1 := by kernel_rfl
set_option maxRecDepth 100000 in
theorem opened_trade {H : Type} {enc : TypeId × Value → H} {W : World} {base : Nat} {v : Value} {x : DataW H} {p : List MemPlace} {sp : Nat → Bool} (hv : Value.okWide Try.prog W .any base 24 v)
    (h0 : DataW.Trod enc Try.prog W 0 sp true 24 v x p) : ∃ (a : Option Addr) (xs : List Int) (c : Nat) (S K : Int), v = .agg #[.slice a xs.length c, .int .i64 S, .int .i64 K] ∧ xs.length ≤ maxLen ∧ ARow W a xs := by
  obtain ⟨cs, rfl, hsz⟩ := okWide_struct Try.underlying24 hv
  have hcs : cs.size = 3 := hsz.trans cellsT14
  obtain ⟨c0, c1, c2, rfl⟩ : ∃ c0 c1 c2, cs = #[c0, c1, c2] := by
    obtain ⟨l⟩ := cs
    match l, hcs with
    | [c0, c1, c2], _ => exact ⟨c0, c1, c2, rfl⟩
  obtain ⟨fuel, hf⟩ := h0
  obtain ⟨y0, y1, y2, m, hx, _, g0, g1, g2⟩ := trod_struct3 Try.underlying24 hf
  simp [Value.cells, cellsS14, cellsI14] at g0 g1 g2
  obtain ⟨a, xs, c, rfl, l0, r0⟩ := opened_ints g0
  obtain ⟨n1, e1, _, _⟩ := DataW.trod_int Try.underlying3 g1
  obtain ⟨n2, e2, _, _⟩ := DataW.trod_int Try.underlying3 g2
  simp at e1 e2
  subst e1
  subst e2
  exact ⟨a, xs, c, n1, n2, rfl, l0, r0⟩
end Go.Proofs.Yticekgjgknfloaa
