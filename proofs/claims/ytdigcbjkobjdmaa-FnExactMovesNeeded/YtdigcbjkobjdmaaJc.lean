/-
  Lists of yes and no, and lists of such lists (fits), in memory; what szBoolSS, toBoolSS, eqBoolSS and markBoolSS of the laws answer over them.
-/
import Derived.Test.YtdigcbjkobjdmaaHc
import Derived.Test.YtdigcbjkobjdmaaJb
import Derived.Test.YtdigcbjkobjdmaaJc0
import Derived.Deep.RegionHeld3
namespace Go.Proofs.Ytdigcbjkobjdmaa
open Go.RowKit

/-- A slice of yes and no, wherever it lies. -/
def BRow (w : World) (a : Option Addr) (xs : List Bool) : Prop := xs = [] ∨ ∃ b off, a = some ⟨b, off, none⟩ ∧ b < w.heap.size ∧ ∀ i, i < xs.length → w.cell? ⟨b, off + i, none⟩ = some (.bool (xs.getD i false))
theorem BRow.below {w w' : World} {a : Option Addr} {xs : List Bool} (h : BRow w a xs) (hB : Below w.heap.size w w') : BRow w' a xs := by
  rcases h with h | ⟨b, off, ha, hb, hc⟩
  · exact Or.inl h
  · exact Or.inr ⟨b, off, ha, Nat.lt_of_lt_of_le hb hB.size, fun i hi => (hB.cell (p := ⟨b, off + i, none⟩) hb).trans (hc i hi)⟩
theorem BRow.at {w : World} {a : Option Addr} {xs : List Bool} (h : BRow w a xs) {i : Nat} (hi : i < xs.length) : ∃ b off, a = some ⟨b, off, none⟩ ∧ b < w.heap.size ∧ w.cell? ⟨b, off + i, none⟩ = some (.bool (xs.getD i false)) := by
  rcases h with h | ⟨b, off, ha, hb, hc⟩
  · rw [h] at hi; simp at hi
  · exact ⟨b, off, ha, hb, hc i hi⟩
theorem brow_owns {w : World} {base e g n cap : Nat} {xs : List Bool} (hn : n = xs.length) (h : w.ownsRow base e 1 (.slice (some ⟨g, 0, none⟩) n cap) n (bls xs)) : BRow w (some ⟨g, 0, none⟩) xs := by
  subst hn
  refine Or.inr ⟨g, 0, rfl, (h.lt g rfl).2, fun i hi => ?_⟩
  rw [Nat.zero_add, h.cellAt i (by simpa using hi), bls_get xs i hi false]
/-- Fits, to be read: a list of lists. -/
def GRow (w : World) (a : Option Addr) (F : List (List Bool)) : Prop :=
  F = [] ∨ ∃ b off, a = some ⟨b, off, none⟩ ∧ b < w.heap.size ∧ ∀ i, i < F.length → ∃ ai ci, w.cell? ⟨b, off + i, none⟩ = some (.slice ai (F.getD i []).length ci) ∧ BRow w ai (F.getD i [])
theorem GRow.below {w w' : World} {a : Option Addr} {F : List (List Bool)} (h : GRow w a F) (hb : Below w.heap.size w w') : GRow w' a F := by
  rcases h with h | ⟨b, off, ha, hl, hc⟩
  · exact Or.inl h
  · refine Or.inr ⟨b, off, ha, Nat.lt_of_lt_of_le hl hb.size, fun i hi => ?_⟩
    obtain ⟨ai, ci, h1, h2⟩ := hc i hi
    exact ⟨ai, ci, (hb.cell (p := ⟨b, off + i, none⟩) hl).trans h1, h2.below hb⟩
theorem GRow.at {w : World} {a : Option Addr} {F : List (List Bool)} (h : GRow w a F) {i : Nat} (hi : i < F.length) : ∃ b off ai ci, a = some ⟨b, off, none⟩ ∧ b < w.heap.size ∧ w.cell? ⟨b, off + i, none⟩ = some (.slice ai (F.getD i []).length ci) ∧ BRow w ai (F.getD i []) := by
  rcases h with h | ⟨b, off, ha, hl, hc⟩
  · rw [h] at hi; simp at hi
  · obtain ⟨ai, ci, h1, h2⟩ := hc i hi
    exact ⟨b, off, ai, ci, ha, hl, h1, h2⟩
def GFits (F : List (List Bool)) : Prop := ∀ i, (F.getD i []).length ≤ maxLen
def gv (gs : List Nat) (F : List (List Bool)) (i : Nat) : Value := .slice (some ⟨gs.getD i 0, 0, none⟩) (F.getD i []).length (F.getD i []).length
def gvals (gs : List Nat) (F : List (List Bool)) (k m : Nat) : List Value := (List.range m).map fun i => if i < k then gv gs F i else .slice none 0 0
/-- The first k of m rows, each in a block of its own, all of them owned. -/
def GSo (w : World) (base B : Nat) (gs : List Nat) (F : List (List Bool)) (k m : Nat) : Prop :=
  gs.length = k ∧ w.ownsRow base 68 1 (.slice (some ⟨B, 0, none⟩) m m) m (gvals gs F k m) ∧ (∀ i, i < k → w.ownsRow base 4 1 (gv gs F i) (F.getD i []).length (bls (F.getD i []))) ∧ gs.Pairwise (· < ·) ∧ ∀ g ∈ gs, B < g
theorem GSo.below {w w' : World} {base B k m : Nat} {gs : List Nat} {F : List (List Bool)} (h : GSo w base B gs F k m) (hb : Below w.heap.size w w') : GSo w' base B gs F k m :=
  ⟨h.1, g_own h.2.1 hb, fun i hi => g_own (h.2.2.1 i hi) hb, h.2.2.2⟩
theorem GSo.at_mem {w : World} {base B k m : Nat} {gs : List Nat} {F : List (List Bool)} (h : GSo w base B gs F k m) {i : Nat} (hi : i < k) : gs.getD i 0 ∈ gs := by
  have hi' : i < gs.length := by rw [h.1]; exact hi
  rw [Pf.getD_lt _ _ hi']; exact List.getElem_mem _
theorem GSo.lt {w : World} {base B k m : Nat} {gs : List Nat} {F : List (List Bool)} (h : GSo w base B gs F k m) {g : Nat} (hg : g ∈ gs) : base ≤ g ∧ g < w.heap.size := by
  obtain ⟨i, hi, rfl⟩ := List.getElem_of_mem hg
  have := h.2.2.1 i (by rw [← h.1]; exact hi)
  have := this.lt (gs.getD i 0) rfl
  rwa [Pf.getD_lt _ _ hi] at this
theorem gvals_snoc {gs : List Nat} {F : List (List Bool)} {k m g n : Nat} (hk : gs.length = k) (hn : (F.getD k []).length = n) : (gvals gs F k m).set k (.slice (some ⟨g, 0, none⟩) n n) = gvals (gs ++ [g]) F (k + 1) m := by
  apply List.ext_getElem
  · simp [gvals]
  · intro i h1 h2
    simp only [gvals, List.length_map, List.length_range] at h2
    rw [List.getElem_set]
    by_cases e : k = i
    · subst e
      simp [gvals, gv, ← hn, ← hk]
    · simp only [e, if_false, gvals, List.getElem_map, List.getElem_range]
      by_cases hi : i < k
      · simp [hi, show i < k + 1 by omega, gv, hk]
      · simp [hi, show ¬ i < k + 1 by omega]
theorem GSo.step {w w2 : World} {base B k m g n : Nat} {gs : List Nat} {F : List (List Bool)} (h : GSo w base B gs F k m) (hb : Below w.heap.size w w2) (hbase : base ≤ w.heap.size)
    (own : w2.ownsRow w.heap.size 4 1 (.slice (some ⟨g, 0, none⟩) n n) n (bls (F.getD k []))) (hn : (F.getD k []).length = n) :
    GSo (w2.setCell ⟨B, k, none⟩ (.slice (some ⟨g, 0, none⟩) n n)) base B (gs ++ [g]) F (k + 1) m := by
  obtain ⟨hB0, hB1⟩ := h.2.1.lt B rfl
  obtain ⟨hg0, hg1⟩ := own.lt g rfl
  obtain ⟨st1, st2⟩ := (g_own h.2.1 hb).stored k (.slice (some ⟨g, 0, none⟩) n n)
  rw [gvals_snoc h.1 hn] at st1
  refine ⟨by simp [h.1], st1, fun i hi => ?_, ?_, ?_⟩
  · by_cases e : i = k
    · subst e
      have e1 : gv (gs ++ [g]) F i = .slice (some ⟨g, 0, none⟩) n n := by simp [gv, ← h.1, ← hn]
      rw [e1, hn]
      exact (owns_low own hbase).kept st2 (Or.inr (by simp [Value.ownBlock]; omega))
    · have hi' : i < k := by omega
      have e1 : gv (gs ++ [g]) F i = gv gs F i := by simp [gv, List.getElem?_append, h.1, hi']
      rw [e1]
      have hm := h.2.2.2.2 _ (h.at_mem hi')
      exact (g_own (h.2.2.1 i hi') hb).kept st2 (Or.inr (by simp only [gv, Value.ownBlock, ne_eq, Option.some.injEq]; omega))
  · rw [List.pairwise_append]
    refine ⟨h.2.2.2.1, by simp, fun a ha b hb' => ?_⟩
    simp at hb'
    have := (h.lt ha).2
    omega
  · intro x hx
    rcases List.mem_append.1 hx with hx | hx
    · exact h.2.2.2.2 x hx
    · simp at hx; omega
/-- Fits of one's own, all of them below hi. -/
def GOw (w : World) (B hi : Nat) (F : List (List Bool)) : Prop := hi ≤ w.heap.size ∧ B < hi ∧ ∃ gs, (∀ g ∈ gs, g < hi) ∧ GSo w B B gs F F.length F.length
theorem GOw.below {w w' : World} {B hi : Nat} {F : List (List Bool)} (h : GOw w B hi F) (hb : Below w.heap.size w w') : GOw w' B hi F := by
  obtain ⟨h1, h2, gs, h3, h4⟩ := h
  exact ⟨Nat.le_trans h1 hb.size, h2, gs, h3, h4.below hb⟩
theorem GOw.row {w : World} {B hi : Nat} {F : List (List Bool)} (h : GOw w B hi F) : GRow w (some ⟨B, 0, none⟩) F := by
  obtain ⟨h1, h2, gs, h3, h⟩ := h
  refine Or.inr ⟨B, 0, rfl, (h.2.1.lt B rfl).2, fun i hi => ⟨_, (F.getD i []).length, ?_, brow_owns rfl (h.2.2.1 i hi)⟩⟩
  rw [Nat.zero_add, h.2.1.cellAt i (by omega)]
  simp [gvals, hi, gv]
end Go.Proofs.Ytdigcbjkobjdmaa
