/-
  What szOfferS, toOfferS, eqOfferS and markOfferS of the laws answer, over offers in memory.
-/
import Derived.Test.YtdlpbemjbmgbeaaPg
import Derived.Test.YtdlpbemjbmgbeaaCb
import Derived.Deep.RegionHeld3
namespace Go.Proofs.Ytdlpbemjbmgbeaa
open Go.RowKit

theorem o_own {w w' : World} {base e s n : Nat} {v : Value} {xs : List Value} (h : w.ownsRow base e s v n xs) (hb : Below w.heap.size w w') : w'.ownsRow base e s v n xs := by
  refine ⟨h.1, ?_⟩
  rcases h.2 with h0 | ⟨g, cap, cur, hv, hbg, hg, r⟩
  · exact Or.inl h0
  · exact Or.inr ⟨g, cap, cur, hv, hbg, (hb.block g (Array.getElem?_eq_some_iff.1 hg).1).trans hg, r⟩
def OFits (L : List (List Int)) : Prop := ∀ i, (L.getD i []).length ≤ maxLen
def ov (gs : List Nat) (L : List (List Int)) (i : Nat) : Value := .slice (some ⟨gs.getD i 0, 0, none⟩) (L.getD i []).length (L.getD i []).length
def ovals (gs : List Nat) (L : List (List Int)) (k m : Nat) : List Value := (List.range m).map fun i => if i < k then ov gs L i else .slice none 0 0
/-- The first k of m offers, each in a block of its own, all of them owned. -/
def OSo (T : TypeId) (w : World) (base B : Nat) (gs : List Nat) (L : List (List Int)) (k m : Nat) : Prop :=
  gs.length = k ∧ w.ownsRow base T 1 (.slice (some ⟨B, 0, none⟩) m m) m (ovals gs L k m) ∧ (∀ i, i < k → w.ownsRow base 3 1 (ov gs L i) (L.getD i []).length (ints (L.getD i []))) ∧ gs.Pairwise (· < ·) ∧ ∀ g ∈ gs, B < g
theorem OSo.below {T : TypeId} {w w' : World} {base B k m : Nat} {gs : List Nat} {L : List (List Int)} (h : OSo T w base B gs L k m) (hb : Below w.heap.size w w') : OSo T w' base B gs L k m :=
  ⟨h.1, o_own h.2.1 hb, fun i hi => o_own (h.2.2.1 i hi) hb, h.2.2.2⟩
theorem OSo.at_mem {T : TypeId} {w : World} {base B k m : Nat} {gs : List Nat} {L : List (List Int)} (h : OSo T w base B gs L k m) {i : Nat} (hi : i < k) : gs.getD i 0 ∈ gs := by
  have hi' : i < gs.length := by rw [h.1]; exact hi
  rw [Pf.getD_lt _ _ hi']; exact List.getElem_mem _
theorem OSo.lt {T : TypeId} {w : World} {base B k m : Nat} {gs : List Nat} {L : List (List Int)} (h : OSo T w base B gs L k m) {g : Nat} (hg : g ∈ gs) : base ≤ g ∧ g < w.heap.size := by
  obtain ⟨i, hi, rfl⟩ := List.getElem_of_mem hg
  have := h.2.2.1 i (by rw [← h.1]; exact hi)
  have := this.lt (gs.getD i 0) rfl
  rwa [Pf.getD_lt _ _ hi] at this
theorem ovals_snoc {gs : List Nat} {L : List (List Int)} {k m g n : Nat} (hk : gs.length = k) (hn : (L.getD k []).length = n) : (ovals gs L k m).set k (.slice (some ⟨g, 0, none⟩) n n) = ovals (gs ++ [g]) L (k + 1) m := by
  apply List.ext_getElem
  · simp [ovals]
  · intro i h1 h2
    simp only [ovals, List.length_map, List.length_range] at h2
    rw [List.getElem_set]
    by_cases e : k = i
    · subst e
      simp [ovals, ov, ← hn, ← hk]
    · simp only [e, if_false, ovals, List.getElem_map, List.getElem_range]
      by_cases hi : i < k
      · simp [hi, show i < k + 1 by omega, ov, hk]
      · simp [hi, show ¬ i < k + 1 by omega]
theorem OSo.step {T : TypeId} {w w2 : World} {base B k m g n : Nat} {gs : List Nat} {L : List (List Int)} (h : OSo T w base B gs L k m) (hb : Below w.heap.size w w2) (hbase : base ≤ w.heap.size)
    (own : w2.ownsRow w.heap.size 3 1 (.slice (some ⟨g, 0, none⟩) n n) n (ints (L.getD k []))) (hn : (L.getD k []).length = n) :
    OSo T (w2.setCell ⟨B, k, none⟩ (.slice (some ⟨g, 0, none⟩) n n)) base B (gs ++ [g]) L (k + 1) m := by
  obtain ⟨hB0, hB1⟩ := h.2.1.lt B rfl
  obtain ⟨hg0, hg1⟩ := own.lt g rfl
  obtain ⟨st1, st2⟩ := (o_own h.2.1 hb).stored k (.slice (some ⟨g, 0, none⟩) n n)
  rw [ovals_snoc h.1 hn] at st1
  refine ⟨by simp [h.1], st1, fun i hi => ?_, ?_, ?_⟩
  · by_cases e : i = k
    · subst e
      have e1 : ov (gs ++ [g]) L i = .slice (some ⟨g, 0, none⟩) n n := by simp [ov, ← h.1, ← hn]
      rw [e1, hn]
      exact (owns_low own hbase).kept st2 (Or.inr (by simp [Value.ownBlock]; omega))
    · have hi' : i < k := by omega
      have e1 : ov (gs ++ [g]) L i = ov gs L i := by simp [ov, List.getElem?_append, h.1, hi']
      rw [e1]
      have hm := h.2.2.2.2 _ (h.at_mem hi')
      exact (o_own (h.2.2.1 i hi') hb).kept st2 (Or.inr (by simp only [ov, Value.ownBlock, ne_eq, Option.some.injEq]; omega))
  · rw [List.pairwise_append]
    refine ⟨h.2.2.2.1, by simp, fun a ha b hb' => ?_⟩
    simp at hb'
    have := (h.lt ha).2
    omega
  · intro x hx
    rcases List.mem_append.1 hx with hx | hx
    · exact h.2.2.2.2 x hx
    · simp at hx; omega
/-- Offers of one's own. -/
def OOwn (w : World) (base B : Nat) (gs : List Nat) (L : List (List Int)) : Prop := OSo 36 w base B gs L L.length L.length
theorem OOwn.row {w : World} {base B : Nat} {gs : List Nat} {L : List (List Int)} (h : OOwn w base B gs L) : ORow w (some ⟨B, 0, none⟩) L := by
  refine Or.inr ⟨B, 0, rfl, (h.2.1.lt B rfl).2, fun i hi => ⟨_, (L.getD i []).length, ?_, arow_owns rfl (h.2.2.1 i hi)⟩⟩
  rw [Nat.zero_add, h.2.1.cellAt i (by omega)]
  simp [ovals, hi, ov]
theorem two_call {w w1 w2 : World} {b c o p : Nat} {v0 v1 : Value} (hb : b < w.heap.size) (hc : c < w.heap.size)
    (s : w1.cell? ⟨b, o, none⟩ = some v0 ∧ w1.cell? ⟨c, p, none⟩ = some v1 ∧ Below w.heap.size w w1 ∧ w.heap.size ≤ w1.heap.size) (hb2 : Below w1.heap.size w1 w2) :
    w2.cell? ⟨b, o, none⟩ = some v0 ∧ w2.cell? ⟨c, p, none⟩ = some v1 ∧ Below w.heap.size w w2 ∧ w.heap.size ≤ w2.heap.size := by
  obtain ⟨s0, s1, s4, s5⟩ := s
  obtain ⟨h, _⟩ := bcell hb2
  exact ⟨(h _ _ (by omega)).trans s0, (h _ _ (by omega)).trans s1, s4.trans (hb2.mono s5), Nat.le_trans s5 hb2.size⟩
end Go.Proofs.Ytdlpbemjbmgbeaa
