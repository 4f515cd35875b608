/-
  Offers as they come in.
-/
import Derived.Test.YtpabfmcoadolcabOp
import Derived.Test.YtpabfmcoadolcabCc
import Derived.Deep.Slices
namespace Go.Proofs.Ytpabfmcoadolcab
open Go.ChangeShapes Go.WideShapes Go.ChangeAt Go.RowKit Go.Deep

theorem cellsO : Try.prog.cellsOf 33 = 1 := by kernel_rfl
set_option maxRecDepth 100000 in
theorem opened_offers {H : Type} {enc : TypeId × Value → H} {W : World} {base : Nat} {v : Value} {x : DataW H} {p : List MemPlace} {sp : Nat → Bool} (hv : Value.okWide Try.prog W .any base 22 v)
    (h0 : DataW.Trod enc Try.prog W 0 sp true 22 v x p) : ∃ (a : Option Addr) (L : List (List Int)) (c : Nat), v = .slice a L.length c ∧ L.length ≤ maxLen ∧ OFits L ∧ ORow W a L := by
  obtain ⟨a0, len0, cap0, rfl⟩ := okWide_slice Try.underlying22 hv
  obtain ⟨fuel, hf⟩ := h0
  rcases open_slice1 Try.underlying22 cellsO hf with ⟨hcs, _⟩ | ⟨a, len, cap, m, n, V, D, Pl, hcs, _, hl, hcap, hmm, _, hx⟩
  · simp [Value.cells] at hcs
    obtain ⟨rfl, rfl, rfl⟩ := hcs
    exact ⟨none, [], 0, rfl, Nat.zero_le _, fun i => by simp, Or.inl rfl⟩
  · simp [Value.cells] at hcs
    obtain ⟨rfl, rfl, rfl⟩ := hcs
    have hlm : len0 ≤ m := by rw [hmm]; split <;> omega
    have each : ∀ i, i < len0 → ∃ z : Option Addr × List Int × Nat, V i = .slice z.1 z.2.1.length z.2.2 ∧ z.2.1.length ≤ maxLen ∧ ARow W z.1 z.2.1 := by
      intro i hi
      obtain ⟨_, t0⟩ := hx i (by omega)
      obtain ⟨y0, k, _, _, g0⟩ := trod_struct1 Try.underlying33 t0
      simp [cellsS] at g0
      obtain ⟨a, xs, c, e, h1, h2⟩ := opened_ints g0
      exact ⟨(a, xs, c), e, h1, h2⟩
    obtain ⟨z, hz⟩ := choose_lt each
    have hget : ∀ i, i < len0 → ((List.range len0).map fun i => (z i).2.1).getD i [] = (z i).2.1 := fun i hi => by simp [hi]
    refine ⟨some a, (List.range len0).map fun i => (z i).2.1, cap0, by simp, by simp; omega, fun i => ?_, ?_⟩
    · by_cases hi : i < len0
      · rw [hget i hi]; exact (hz i hi).2.1
      · simp [show len0 ≤ i by omega]
    · by_cases h : len0 = 0
      · left; subst h; rfl
      · right
        obtain ⟨b, off, spot⟩ := a
        have hc := (hx 0 (by omega)).1
        have hspot : spot = none := by simpa [Addr.add] using World.cell?_spot hc
        subst hspot
        refine ⟨b, off, rfl, World.block_lt_of_cell? W _ hc, ?_⟩
        intro i hi
        simp at hi
        have c0 := (hx i (by omega)).1
        rw [add_plain] at c0
        rw [hget i hi]
        exact ⟨_, _, c0.trans (by rw [(hz i hi).1]), (hz i hi).2.2⟩
end Go.Proofs.Ytpabfmcoadolcab
