/-
  Sheets as they come in.
-/
import Derived.Test.YtogkbidphdpjaaaDoorOg
import Derived.Test.YtogkbidphdpjaaaDoorOl
namespace Go.Proofs.YtogkbidphdpjaaaDoor
open Go.ChangeShapes Go.WideShapes Go.ChangeAt Go.RowKit Go.Deep

set_option maxRecDepth 100000 in
theorem opened_gd {H : Type} {enc : TypeId × Value → H} {W : World} {fuel : Nat} {v : Value} {x : DataW H × List MemPlace} {sp : Nat → Bool}
    (hf : DataW.trod enc Tryd.prog W 0 sp true fuel 22 [v] = some x) : ∃ (a : Option Addr) (gs : List Gd) (c : Nat), v = .slice a gs.length c ∧ gs.length ≤ maxLen ∧ Fits gs ∧ GRow W a gs := by
  rcases open_slice_pairs Tryd.underlying22 Tryd.underlying62 cellsG rfl rfl cellsGs cellsGi hf with ⟨hcs, _⟩ | ⟨a, len, cap, m, n, V0, V1, D0, D1, P0, P1, hcs, _, hl, hcap, hmm, _, hx⟩
  · simp at hcs
    subst hcs
    exact ⟨none, [], 0, rfl, Nat.zero_le _, fun i => (show gd0.1.size ≤ maxLen from Nat.zero_le _), Or.inl rfl⟩
  · simp at hcs
    subst hcs
    have hlm : len ≤ m := by rw [hmm]; split <;> omega
    have each : ∀ i, i < len → ∃ z : Gd, V0 i = .string z.1 ∧ V1 i = .int .i64 z.2 ∧ z.1.size ≤ maxLen := by
      intro i hi
      obtain ⟨_, _, t0, t1⟩ := hx i (by omega)
      obtain ⟨z0, e0, _, ez⟩ := DataW.trod_string Tryd.underlying9 t0
      obtain ⟨z1, e1, _, _⟩ := DataW.trod_int Tryd.underlying3 t1
      simp at e0 e1
      exact ⟨(z0, z1), e0, e1, ez⟩
    obtain ⟨z, hz⟩ := choose_lt each
    have hget : ∀ i, i < len → ((List.range len).map z).getD i gd0 = z i := fun i hi => by simp [hi]
    refine ⟨some a, (List.range len).map z, cap, by simp, by simp; omega, fun i => ?_, ?_⟩
    · by_cases hi : i < len
      · rw [hget i hi]; exact (hz i hi).2.2
      · have : ((List.range len).map z).getD i gd0 = gd0 := by simp [show len ≤ i by omega]
        rw [this]; exact (show gd0.1.size ≤ maxLen from Nat.zero_le _)
    · by_cases h : len = 0
      · left; subst h; rfl
      · right
        obtain ⟨b, off, spot⟩ := a
        have hc := (hx 0 (by omega)).1
        have hspot : spot = none := by simpa [Addr.add] using World.cell?_spot hc
        subst hspot
        refine ⟨b, off, rfl, World.block_lt_of_cell? W _ hc, ?_⟩
        intro i hi
        simp at hi
        obtain ⟨c0, c1, _, _⟩ := hx i (by omega)
        rw [add_plain] at c0 c1
        rw [hget i hi]
        refine ⟨c0.trans (by rw [(hz i hi).1]), ?_⟩
        rw [← Nat.add_assoc] at c1
        exact c1.trans (by rw [(hz i hi).2.1])
set_option maxRecDepth 100000 in
theorem opened_ln {H : Type} {enc : TypeId × Value → H} {W : World} {fuel : Nat} {v : Value} {x : DataW H × List MemPlace} {sp : Nat → Bool}
    (hf : DataW.trod enc Tryd.prog W 0 sp true fuel 23 [v] = some x) : ∃ (a : Option Addr) (ls : List (Int × Int)) (c : Nat), v = .slice a ls.length c ∧ ls.length ≤ maxLen ∧ LRow W a ls := by
  rcases open_slice_pairs Tryd.underlying23 Tryd.underlying68 cellsL rfl rfl cellsLi cellsLi hf with ⟨hcs, _⟩ | ⟨a, len, cap, m, n, V0, V1, D0, D1, P0, P1, hcs, _, hl, hcap, hmm, _, hx⟩
  · simp at hcs
    subst hcs
    exact ⟨none, [], 0, rfl, Nat.zero_le _, Or.inl rfl⟩
  · simp at hcs
    subst hcs
    have hlm : len ≤ m := by rw [hmm]; split <;> omega
    have each : ∀ i, i < len → ∃ z : Int × Int, V0 i = .int .i64 z.1 ∧ V1 i = .int .i64 z.2 := by
      intro i hi
      obtain ⟨_, _, t0, t1⟩ := hx i (by omega)
      obtain ⟨z0, e0, _, _⟩ := DataW.trod_int Tryd.underlying3 t0
      obtain ⟨z1, e1, _, _⟩ := DataW.trod_int Tryd.underlying3 t1
      simp at e0 e1
      exact ⟨(z0, z1), e0, e1⟩
    obtain ⟨z, hz⟩ := choose_lt each
    have hget : ∀ i, i < len → ((List.range len).map z).getD i (0, 0) = z i := fun i hi => by simp [hi]
    refine ⟨some a, (List.range len).map z, cap, by simp, by simp; omega, ?_⟩
    by_cases h : len = 0
    · left; subst h; rfl
    · right
      obtain ⟨b, off, spot⟩ := a
      have hc := (hx 0 (by omega)).1
      have hspot : spot = none := by simpa [Addr.add] using World.cell?_spot hc
      subst hspot
      refine ⟨b, off, rfl, World.block_lt_of_cell? W _ hc, ?_⟩
      intro i hi
      simp at hi
      obtain ⟨c0, c1, _, _⟩ := hx i (by omega)
      rw [add_plain] at c0 c1
      rw [hget i hi]
      refine ⟨c0.trans (by rw [(hz i hi).1]), ?_⟩
      rw [← Nat.add_assoc] at c1
      exact c1.trans (by rw [(hz i hi).2])
theorem cellsSh15 : Tryd.prog.cellsOf 25 = 2 := by kernel_rfl
theorem cellsSg15 : Tryd.prog.cellsOf 22 = 1 := by kernel_rfl
theorem cellsSl15 : Tryd.prog.cellsOf 23 = 1 := by kernel_rfl
set_option maxRecDepth 100000 in
theorem opened_sheet {H : Type} {enc : TypeId × Value → H} {W : World} {base : Nat} {v : Value} {x : DataW H} {p : List MemPlace} {sp : Nat → Bool} (hv : Value.okWide Tryd.prog W .any base 25 v)
    (h0 : DataW.Trod enc Tryd.prog W 0 sp true 25 v x p) : ∃ (a b : Option Addr) (gs : List Gd) (ls : List (Int × Int)) (c d : Nat), v = .agg #[.slice a gs.length c, .slice b ls.length d] ∧ gs.length ≤ maxLen ∧ Fits gs ∧ GRow W a gs ∧ ls.length ≤ maxLen ∧ LRow W b ls := by
  obtain ⟨cs, rfl, hsz⟩ := okWide_struct Tryd.underlying25 hv
  have hcs : cs.size = 2 := hsz.trans cellsSh15
  obtain ⟨c0, c1, rfl⟩ : ∃ c0 c1, cs = #[c0, c1] := by
    obtain ⟨l⟩ := cs
    match l, hcs with
    | [c0, c1], _ => exact ⟨c0, c1, rfl⟩
  obtain ⟨fuel, hf⟩ := h0
  obtain ⟨y0, y1, m, hx, _, g0, g1⟩ := trod_struct2 Tryd.underlying25 hf
  simp [Value.cells, cellsSg15, cellsSl15] at g0 g1
  obtain ⟨a, gs, c, rfl, l0, f0, r0⟩ := opened_gd g0
  obtain ⟨b, ls, d, rfl, l1, r1⟩ := opened_ln g1
  exact ⟨a, b, gs, ls, c, d, rfl, l0, f0, r0, l1, r1⟩
end Go.Proofs.YtogkbidphdpjaaaDoor
