/-
  Lists of whole numbers in a growing list, each in a block of its own (as in Sn, for seats without chapter 4).
-/
import Derived.Test.YtdlpbemjbmgbeaaCj
import Derived.Deep.AppendLies
namespace Go.Proofs.Ytdlpbemjbmgbeaa
open Go.RowKit

def qv (n : Nat) (g : Nat × Nat) : Value := .slice (some ⟨g.1, 0, none⟩) n g.2
def qvals (n : Nat) (gs : List (Nat × Nat)) : List Value := gs.map (qv n)
theorem qvals_snoc (n : Nat) (gs : List (Nat × Nat)) (g : Nat × Nat) : qvals n (gs ++ [g]) = qvals n gs ++ [qv n g] := by simp [qvals]
theorem qvals_get (n : Nat) (gs : List (Nat × Nat)) {i : Nat} (h : i < gs.length) : (qvals n gs)[i]? = some (qv n (gs.getD i (0, 0))) := by simp [qvals, h]
/-- Lists of n numbers each, in a list, all of them owned, no two in one block. -/
def QOwn (w : World) (base n m : Nat) (v : Value) (gs : List (Nat × Nat)) (L : List (List Int)) : Prop :=
  gs.length = m ∧ L.length = m ∧ w.ownsRow base 26 1 v m (qvals n gs) ∧ (∀ i, i < m → (L.getD i []).length = n ∧ w.ownsRow base 3 1 (qv n (gs.getD i (0, 0))) n (ints (L.getD i []))) ∧
    (gs.map Prod.fst).Nodup ∧ ∀ g, v.ownBlock = some g → g ∉ gs.map Prod.fst
theorem QOwn.nil (w : World) (base n : Nat) : QOwn w base n 0 (.slice none 0 0) [] [] :=
  ⟨rfl, rfl, World.ownsRow_nil _ _ _ _, fun i hi => absurd hi (Nat.not_lt_zero _), by simp, fun g h => by simp [Value.ownBlock] at h⟩
theorem QOwn.below {w w' : World} {base n m : Nat} {v : Value} {gs : List (Nat × Nat)} {L : List (List Int)} (h : QOwn w base n m v gs L) (hb : Below w.heap.size w w') : QOwn w' base n m v gs L :=
  ⟨h.1, h.2.1, o_own h.2.2.1 hb, fun i hi => ⟨(h.2.2.2.1 i hi).1, o_own (h.2.2.2.1 i hi).2 hb⟩, h.2.2.2.2⟩
theorem QOwn.lt {w : World} {base n m : Nat} {v : Value} {gs : List (Nat × Nat)} {L : List (List Int)} (h : QOwn w base n m v gs L) {b : Nat} (hb : b ∈ gs.map Prod.fst) : base ≤ b ∧ b < w.heap.size := by
  obtain ⟨g, hg, rfl⟩ := List.mem_map.1 hb
  obtain ⟨i, hi, rfl⟩ := List.getElem_of_mem hg
  have := (h.2.2.2.1 i (by rw [← h.1]; exact hi)).2
  rw [Pf.getD_lt _ _ hi] at this
  exact this.lt _ rfl
theorem QOwn.at_mem {w : World} {base n m : Nat} {v : Value} {gs : List (Nat × Nat)} {L : List (List Int)} (h : QOwn w base n m v gs L) {i : Nat} (hi : i < m) : (gs.getD i (0, 0)).1 ∈ gs.map Prod.fst :=
  List.mem_map.2 ⟨_, (by rw [Pf.getD_lt _ _ (show i < gs.length by rw [h.1]; exact hi)]; exact List.getElem_mem _), rfl⟩
theorem q_at_block {w w' : World} {base e s n g c : Nat} {xs : List Value} (h : w.ownsRow base e s (.slice (some ⟨g, 0, none⟩) n c) n xs) (hb : w'.heap[g]? = w.heap[g]?) : w'.ownsRow base e s (.slice (some ⟨g, 0, none⟩) n c) n xs := owns_keep h hb
/-- One list more. -/
theorem QOwn.snoc {w w1 w4 : World} {base n m g cap G C : Nat} {v : Value} {gs : List (Nat × Nat)} {L : List (List Int)} {x : List Int} {o : Obj} (h : QOwn w base n m v gs L) (hb : Below w.heap.size w w1) (hbase : base ≤ w.heap.size)
    (own1 : w1.ownsRow w.heap.size 3 1 (qv n (g, cap)) n (ints x)) (hx : x.length = n)
    (own4 : w4.ownsRow base 26 1 (.slice (some ⟨G, 0, none⟩) (m + 1) C) (m + 1) (qvals n gs ++ [qv n (g, cap)])) (hg : (w1.alloc o).grownBy w4 v.ownBlock) (hat : v.ownBlock = some G ∨ G = w1.heap.size + 1) :
    QOwn w4 base n (m + 1) (.slice (some ⟨G, 0, none⟩) (m + 1) C) (gs ++ [(g, cap)]) (L ++ [x]) ∧ Below base w w4 := by
  obtain ⟨g0, g1⟩ := own1.lt g rfl
  have hsz := hb.size
  have hv : ∀ k, v.ownBlock = some k → base ≤ k ∧ k < w.heap.size := h.2.2.1.lt
  have old : ∀ b, b < w1.heap.size → some b ≠ v.ownBlock → w4.heap[b]? = w1.heap[b]? := fun b h1 h2 => by
    rw [hg.block b (by simp; omega) h2]
    exact (Below.heap_alloc w1 o b h1)
  have hgv : some g ≠ v.ownBlock := fun e => by have := hv g e.symm; omega
  refine ⟨⟨by simp [h.1], by simp [h.2.1], by rw [qvals_snoc]; exact own4, fun i hi => ?_, ?_, ?_⟩, ?_⟩
  · by_cases e : i = m
    · subst e
      have e1 : (L ++ [x]).getD i [] = x := by simp [← h.2.1]
      have e2 : (gs ++ [(g, cap)]).getD i (0, 0) = (g, cap) := by simp [← h.1]
      rw [e1, e2]
      exact ⟨hx, q_at_block (owns_low own1 hbase) (old g g1 hgv)⟩
    · have hi' : i < m := by omega
      have e1 : (L ++ [x]).getD i [] = L.getD i [] := by simp [List.getElem?_append, h.2.1, hi']
      have e2 : (gs ++ [(g, cap)]).getD i (0, 0) = gs.getD i (0, 0) := by simp [List.getElem?_append, h.1, hi']
      rw [e1, e2]
      have hm := h.at_mem hi'
      have hlt := h.lt hm
      refine ⟨(h.2.2.2.1 i hi').1, q_at_block (o_own (h.2.2.2.1 i hi').2 hb) (old _ (by omega) fun e => ?_)⟩
      exact h.2.2.2.2.2 _ e.symm hm
  · rw [List.map_append, List.nodup_append]
    refine ⟨h.2.2.2.2.1, by simp, fun a ha b hb' => ?_⟩
    simp at hb'
    have := h.lt ha
    omega
  · intro k hk
    simp only [Value.ownBlock, Option.some.injEq] at hk
    subst hk
    rw [List.map_append, List.mem_append]
    rintro (hm | hm)
    · rcases hat with e | e
      · exact h.2.2.2.2.2 _ e hm
      · have := h.lt hm; omega
    · simp at hm
      rcases hat with e | e
      · rw [hm] at e; exact hgv e.symm
      · omega
  · refine (hb.mono hbase).trans (((Below.refl _ _).alloc (by omega) o).trans ⟨hg.os, hg.tape, hg.output, hg.size, fun k hk => hg.block k (by simp; omega) fun e => ?_⟩)
    have := hv k e.symm; omega
theorem QOwn.outer {w : World} {base n m G C : Nat} {gs : List (Nat × Nat)} {L : List (List Int)} (h : QOwn w base n m (.slice (some ⟨G, 0, none⟩) m C) gs L) {i : Nat} (hi : i < m) : w.cell? ⟨G, i, none⟩ = some (qv n (gs.getD i (0, 0))) := by
  rw [h.2.2.1.cellAt i (by omega), qvals_get n gs (by rw [h.1]; exact hi)]
theorem QOwn.orow {w : World} {base n m : Nat} {G C : Nat} {gs : List (Nat × Nat)} {L : List (List Int)} (h : QOwn w base n m (.slice (some ⟨G, 0, none⟩) m C) gs L) : ORow w (some ⟨G, 0, none⟩) L := by
  refine Or.inr ⟨G, 0, rfl, (h.2.2.1.lt G rfl).2, fun i hi => ?_⟩
  have hi' : i < m := by rw [← h.2.1]; exact hi
  obtain ⟨h1, h2⟩ := h.2.2.2.1 i hi'
  refine ⟨_, (gs.getD i (0, 0)).2, ?_, arow_owns h1.symm h2⟩
  rw [Nat.zero_add, h.outer hi', h1]
  rfl
end Go.Proofs.Ytdlpbemjbmgbeaa
