/-
  Lists of lists of whole numbers in memory, each list in a block of its own; what eqIntSS, markIntSS and heldIntSS of the laws answer over them.
-/
import Derived.Test.YtljccbnkibfimaaSi
import Derived.Test.YtljccbnkibfimaaSf
import Derived.Test.YtljccbnkibfimaaPg
import Derived.Deep.AppendLies
namespace Go.Proofs.Ytljccbnkibfimaa
open Go.RowKit

def rv (n : Nat) (g : Nat × Nat) : Value := .slice (some ⟨g.1, 0, none⟩) n g.2
def vals (n : Nat) (gs : List (Nat × Nat)) : List Value := gs.map (rv n)
theorem vals_snoc (n : Nat) (gs : List (Nat × Nat)) (g : Nat × Nat) : vals n (gs ++ [g]) = vals n gs ++ [rv n g] := by simp [vals]
theorem vals_get (n : Nat) (gs : List (Nat × Nat)) {i : Nat} (h : i < gs.length) : (vals n gs)[i]? = some (rv n (gs.getD i (0, 0))) := by simp [vals, h]
/-- Lists of n numbers each, in a list, all of them owned, no two in one block. -/
def NOwn (w : World) (base n m : Nat) (v : Value) (gs : List (Nat × Nat)) (L : List (List Int)) : Prop :=
  gs.length = m ∧ L.length = m ∧ w.ownsRow base 23 1 v m (vals n gs) ∧ (∀ i, i < m → (L.getD i []).length = n ∧ w.ownsRow base 3 1 (rv n (gs.getD i (0, 0))) n (ints (L.getD i []))) ∧
    (gs.map Prod.fst).Nodup ∧ ∀ g, v.ownBlock = some g → g ∉ gs.map Prod.fst
theorem NOwn.nil (w : World) (base n : Nat) : NOwn w base n 0 (.slice none 0 0) [] [] :=
  ⟨rfl, rfl, World.ownsRow_nil _ _ _ _, fun i hi => absurd hi (Nat.not_lt_zero _), by simp, fun g h => by simp [Value.ownBlock] at h⟩
theorem NOwn.below {w w' : World} {base n m : Nat} {v : Value} {gs : List (Nat × Nat)} {L : List (List Int)} (h : NOwn w base n m v gs L) (hb : Below w.heap.size w w') : NOwn w' base n m v gs L :=
  ⟨h.1, h.2.1, own_below h.2.2.1 hb, fun i hi => ⟨(h.2.2.2.1 i hi).1, own_below (h.2.2.2.1 i hi).2 hb⟩, h.2.2.2.2⟩
theorem NOwn.lt {w : World} {base n m : Nat} {v : Value} {gs : List (Nat × Nat)} {L : List (List Int)} (h : NOwn w base n m v gs L) {b : Nat} (hb : b ∈ gs.map Prod.fst) : base ≤ b ∧ b < w.heap.size := by
  obtain ⟨g, hg, rfl⟩ := List.mem_map.1 hb
  obtain ⟨i, hi, rfl⟩ := List.getElem_of_mem hg
  have := (h.2.2.2.1 i (by rw [← h.1]; exact hi)).2
  rw [Pf.getD_lt _ _ hi] at this
  exact this.lt _ rfl
theorem NOwn.at_mem {w : World} {base n m : Nat} {v : Value} {gs : List (Nat × Nat)} {L : List (List Int)} (h : NOwn w base n m v gs L) {i : Nat} (hi : i < m) : (gs.getD i (0, 0)).1 ∈ gs.map Prod.fst :=
  List.mem_map.2 ⟨_, Sh.getD_mem gs (0, 0) (by rw [h.1]; exact hi), rfl⟩
theorem own_at_block {w w' : World} {base e s n g c : Nat} {xs : List Value} (h : w.ownsRow base e s (.slice (some ⟨g, 0, none⟩) n c) n xs) (hb : w'.heap[g]? = w.heap[g]?) : w'.ownsRow base e s (.slice (some ⟨g, 0, none⟩) n c) n xs := owns_keep h hb
/-- One list more. -/
theorem NOwn.snoc {w w1 w4 : World} {base n m g cap G C : Nat} {v : Value} {gs : List (Nat × Nat)} {L : List (List Int)} {x : List Int} {o : Obj} (h : NOwn w base n m v gs L) (hb : Below w.heap.size w w1) (hbase : base ≤ w.heap.size)
    (own1 : w1.ownsRow w.heap.size 3 1 (rv n (g, cap)) n (ints x)) (hx : x.length = n)
    (own4 : w4.ownsRow base 23 1 (.slice (some ⟨G, 0, none⟩) (m + 1) C) (m + 1) (vals n gs ++ [rv n (g, cap)])) (hg : (w1.alloc o).grownBy w4 v.ownBlock) (hat : v.ownBlock = some G ∨ G = w1.heap.size + 1) :
    NOwn w4 base n (m + 1) (.slice (some ⟨G, 0, none⟩) (m + 1) C) (gs ++ [(g, cap)]) (L ++ [x]) ∧ Below base w w4 := by
  obtain ⟨g0, g1⟩ := own1.lt g rfl
  have hsz := hb.size
  have hv : ∀ k, v.ownBlock = some k → base ≤ k ∧ k < w.heap.size := h.2.2.1.lt
  have old : ∀ b, b < w1.heap.size → some b ≠ v.ownBlock → w4.heap[b]? = w1.heap[b]? := fun b h1 h2 => by
    rw [hg.block b (by simp; omega) h2]
    exact (Below.heap_alloc w1 o b h1)
  have hgv : some g ≠ v.ownBlock := fun e => by have := hv g e.symm; omega
  refine ⟨⟨by simp [h.1], by simp [h.2.1], by rw [vals_snoc]; exact own4, fun i hi => ?_, ?_, ?_⟩, ?_⟩
  · by_cases e : i = m
    · subst e
      have e1 : (L ++ [x]).getD i [] = x := by simp [← h.2.1]
      have e2 : (gs ++ [(g, cap)]).getD i (0, 0) = (g, cap) := by simp [← h.1]
      rw [e1, e2]
      exact ⟨hx, own_at_block (owns_low own1 hbase) (old g g1 hgv)⟩
    · have hi' : i < m := by omega
      have e1 : (L ++ [x]).getD i [] = L.getD i [] := by simp [List.getElem?_append, h.2.1, hi']
      have e2 : (gs ++ [(g, cap)]).getD i (0, 0) = gs.getD i (0, 0) := by simp [List.getElem?_append, h.1, hi']
      rw [e1, e2]
      have hm := h.at_mem hi'
      have hlt := h.lt hm
      refine ⟨(h.2.2.2.1 i hi').1, own_at_block (own_below (h.2.2.2.1 i hi').2 hb) (old _ (by omega) fun e => ?_)⟩
      exact h.2.2.2.2.2 _ e.symm hm
  · rw [List.map_append, List.nodup_append]
    refine ⟨h.2.2.2.2.1, by simp, fun a ha b hb' => ?_⟩
    simp at hb'
    have := h.lt ha
    omega
  · intro k hk
    simp only [Value.ownBlock, Option.some.injEq] at hk
    subst hk
    rw [List.map_append, List.mem_append]
    rintro (hm | hm)
    · rcases hat with e | e
      · exact h.2.2.2.2.2 _ e hm
      · have := h.lt hm; omega
    · simp at hm
      rcases hat with e | e
      · rw [hm] at e; exact hgv e.symm
      · omega
  · refine (hb.mono hbase).trans (((Below.refl _ _).alloc (by omega) o).trans ⟨hg.os, hg.tape, hg.output, hg.size, fun k hk => hg.block k (by simp; omega) fun e => ?_⟩)
    have := hv k e.symm; omega
/-- What is owned stays when another block is written that lies ahead of all of it. -/
theorem NOwn.far {w w' : World} {base n m g : Nat} {v : Value} {gs : List (Nat × Nat)} {L : List (List Int)} (h : NOwn w base n m v gs L) (hg : w.grownBy w' (some g)) (hB : g < base) : NOwn w' base n m v gs L := by
  have hne : ∀ {e s k : Nat} {u : Value} {xs : List Value}, w.ownsRow base e s u k xs → u.ownBlock = none ∨ u.ownBlock ≠ some g := fun {e s k u xs} own => by
    cases hu : u.ownBlock with
    | none => exact Or.inl rfl
    | some b =>
      refine Or.inr fun h' => ?_
      have := own.lt b hu
      simp at h'
      omega
  exact ⟨h.1, h.2.1, h.2.2.1.kept hg (hne h.2.2.1), fun i hi => ⟨(h.2.2.2.1 i hi).1, (h.2.2.2.1 i hi).2.kept hg (hne (h.2.2.2.1 i hi).2)⟩, h.2.2.2.2⟩
/-- Lists in a list, to be read. -/
def ASS (w : World) (a : Option Addr) (L : List (List Int)) : Prop :=
  L = [] ∨ ∃ b off, a = some ⟨b, off, none⟩ ∧ b < w.heap.size ∧ ∀ i, i < L.length → ∃ ai ci, w.cell? ⟨b, off + i, none⟩ = some (.slice ai (L.getD i []).length ci) ∧ ARow w ai (L.getD i [])
theorem ASS.below {w w' : World} {a : Option Addr} {L : List (List Int)} (h : ASS w a L) (hb : Below w.heap.size w w') : ASS w' a L := by
  rcases h with h | ⟨b, off, ha, hl, hc⟩
  · exact Or.inl h
  · refine Or.inr ⟨b, off, ha, Nat.lt_of_lt_of_le hl hb.size, fun i hi => ?_⟩
    obtain ⟨ai, ci, h1, h2⟩ := hc i hi
    exact ⟨ai, ci, (hb.cell (p := ⟨b, off + i, none⟩) hl).trans h1, h2.below hb⟩
theorem NOwn.ass {w : World} {base n m G C : Nat} {gs : List (Nat × Nat)} {L : List (List Int)} (h : NOwn w base n m (.slice (some ⟨G, 0, none⟩) m C) gs L) : ASS w (some ⟨G, 0, none⟩) L := by
  refine Or.inr ⟨G, 0, rfl, (h.2.2.1.lt G rfl).2, fun i hi => ?_⟩
  have hi' : i < m := by rw [← h.2.1]; exact hi
  obtain ⟨h1, h2⟩ := h.2.2.2.1 i hi'
  refine ⟨_, (gs.getD i (0, 0)).2, ?_, arow_owns h1.symm h2⟩
  rw [Nat.zero_add, h.2.2.1.cellAt i (by omega), vals_get n gs (by rw [h.1]; exact hi'), h1]
  rfl
theorem NOwn.outer {w : World} {base n m G C : Nat} {gs : List (Nat × Nat)} {L : List (List Int)} (h : NOwn w base n m (.slice (some ⟨G, 0, none⟩) m C) gs L) {i : Nat} (hi : i < m) : w.cell? ⟨G, i, none⟩ = some (rv n (gs.getD i (0, 0))) := by
  rw [h.2.2.1.cellAt i (by omega), vals_get n gs (by rw [h.1]; exact hi)]
/-- Lists whose numbers count on from k. -/
def MHeld (w : World) (n m G : Nat) (gs : List (Nat × Nat)) (k : Int) : Prop :=
  G < w.heap.size ∧ ∀ i, i < m → w.cell? ⟨G, i, none⟩ = some (rv n (gs.getD i (0, 0))) ∧ (gs.getD i (0, 0)).1 < w.heap.size ∧ ∀ j : Nat, j < n → w.cell? ⟨(gs.getD i (0, 0)).1, j, none⟩ = some (.int .i64 (k + ((i * n : Nat) : Int) + j))
theorem MHeld.below {w w' : World} {n m G : Nat} {gs : List (Nat × Nat)} {k : Int} (h : MHeld w n m G gs k) (hb : Below w.heap.size w w') : MHeld w' n m G gs k :=
  ⟨Nat.lt_of_lt_of_le h.1 hb.size, fun i hi => ⟨(hb.cell (p := ⟨G, i, none⟩) h.1).trans (h.2 i hi).1, Nat.lt_of_lt_of_le (h.2 i hi).2.1 hb.size, fun j hj => (hb.cell (p := ⟨_, j, none⟩) (h.2 i hi).2.1).trans ((h.2 i hi).2.2 j hj)⟩⟩
/-- What is marked so far. -/
def MSo (w w' : World) (base n m G : Nat) (gs : List (Nat × Nat)) (L : List (List Int)) (k : Int) (i : Nat) : Prop :=
  (∀ t, t < i → ∀ j : Nat, j < n → w'.cell? ⟨(gs.getD t (0, 0)).1, j, none⟩ = some (.int .i64 (k + ((t * n : Nat) : Int) + j))) ∧ (∀ t, i ≤ t → t < m → w'.ownsRow base 3 1 (rv n (gs.getD t (0, 0))) n (ints (L.getD t []))) ∧
    (∀ t, t < m → w'.cell? ⟨G, t, none⟩ = some (rv n (gs.getD t (0, 0)))) ∧ Below base w w' ∧ w.heap.size ≤ w'.heap.size ∧ ∀ b, b < w.heap.size → b ∉ gs.map Prod.fst → w'.heap[b]? = w.heap[b]?
theorem nodup_ne {gs : List (Nat × Nat)} (h : (gs.map Prod.fst).Nodup) {i t : Nat} (hi : i < gs.length) (ht : t < gs.length) (hne : i ≠ t) : (gs.getD i (0, 0)).1 ≠ (gs.getD t (0, 0)).1 := by
  intro e
  rw [Pf.getD_lt _ _ hi, Pf.getD_lt _ _ ht] at e
  have hp := List.pairwise_iff_getElem.1 h
  rcases Nat.lt_or_gt_of_ne hne with hl | hl
  · exact hp i t (by simpa using hi) (by simpa using ht) hl (by simpa using e)
  · exact hp t i (by simpa using ht) (by simpa using hi) hl (by simpa using e.symm)
end Go.Proofs.Ytljccbnkibfimaa
