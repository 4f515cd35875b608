/-
  Costs as they come in.
-/
import Derived.Test.YtlbfnlikjnopoaaOp
import Derived.Test.YtlbfnlikjnopoaaQa
import Derived.Deep.Matrix
namespace Go.Proofs.Ytlbfnlikjnopoaa
open Go.ChangeShapes Go.WideShapes Go.ChangeAt Go.RowKit Go.Deep

theorem cellsCs : Try.prog.cellsOf 23 = 1 := by kernel_rfl
theorem cellsC1 : Try.prog.cellsOf 3 = 1 := by kernel_rfl
set_option maxRecDepth 100000 in
theorem opened_costs {H : Type} {enc : TypeId × Value → H} {W : World} {base : Nat} {v : Value} {x : DataW H} {p : List MemPlace} (hv : Value.okWide Try.prog W .any base 22 v)
    (h0 : DataW.Trod enc Try.prog W 0 (fun _ => true) true 22 v x p) : ∃ (a : Option Addr) (F : List (List Int)) (c : Nat), v = .slice a F.length c ∧ F.length ≤ maxLen ∧ CFits F ∧ CRow W a F := by
  obtain ⟨a0, len0, cap0, rfl⟩ := okWide_slice Try.underlying22 hv
  obtain ⟨fuel, hf⟩ := h0
  rcases open_int_rows Try.underlying22 Try.underlying23 Try.underlying3 cellsCs cellsC1 hf with ⟨hcs, _⟩ | ⟨a, len, cap, A, L, C, B, hcs, _, hl, hcap, _, hx⟩
  · simp [Value.cells] at hcs
    obtain ⟨rfl, rfl, rfl⟩ := hcs
    exact ⟨none, [], 0, rfl, Nat.zero_le _, fun i => by simp, Or.inl rfl⟩
  · simp [Value.cells] at hcs
    obtain ⟨rfl, rfl, rfl⟩ := hcs
    have hget : ∀ i, i < len0 → ((List.range len0).map fun i => (List.range (L i)).map (fun j => (B i).getD j 0)).getD i [] = (List.range (L i)).map (fun j => (B i).getD j 0) := fun i hi => by simp [hi]
    have hlen : ∀ i, i < len0 → (((List.range len0).map fun i => (List.range (L i)).map (fun j => (B i).getD j 0)).getD i []).length = L i := fun i hi => by rw [hget i hi]; simp
    refine ⟨some a, (List.range len0).map fun i => (List.range (L i)).map (fun j => (B i).getD j 0), cap0, by simp, by simp; omega, fun i => ?_, ?_⟩
    · by_cases hi : i < len0
      · rw [hlen i hi]; have := hx i (by omega); omega
      · simp [show len0 ≤ i by omega]
    · by_cases h : len0 = 0
      · left; subst h; rfl
      · right
        obtain ⟨b, off, spot⟩ := a
        have hc := (hx 0 (by omega)).1
        have hspot : spot = none := by simpa [Addr.add] using World.cell?_spot hc
        subst hspot
        refine ⟨b, off, rfl, World.block_lt_of_cell? W _ hc, ?_⟩
        intro i hi
        simp at hi
        obtain ⟨c0, hLC, hCm, _, _, hnone, hsome⟩ := hx i (by omega)
        rw [add_plain] at c0
        rw [hlen i hi, hget i hi]
        refine ⟨A i, C i, c0, ?_⟩
        by_cases hL : L i = 0
        · left; rw [hL]; rfl
        · right
          obtain ⟨a', ha'⟩ : ∃ a', A i = some a' := by
            cases e : A i with
            | none => have := hnone e; omega
            | some a' => exact ⟨a', rfl⟩
          obtain ⟨_, hcell⟩ := hsome a' ha'
          obtain ⟨b', off', spot'⟩ := a'
          have hc' := hcell 0 (by omega)
          have hspot' : spot' = none := by simpa [Addr.add] using World.cell?_spot hc'
          subst hspot'
          refine ⟨b', off', ha', World.block_lt_of_cell? W _ hc', fun j hj => ?_⟩
          simp at hj
          have := hcell j (by omega)
          rw [add_plain] at this
          rw [this]
          simp [hj]
end Go.Proofs.Ytlbfnlikjnopoaa
