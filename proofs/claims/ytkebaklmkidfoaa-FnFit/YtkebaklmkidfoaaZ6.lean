/-
  In one: Jc, Qx, Qz, Qza, Qzb, Qc, Dc9, Dp9, Dq9.
-/
import Derived.Test.YtkebaklmkidfoaaZ5
import Derived.Test.YtkebaklmkidfoaaZ1
import Derived.Deep.RegionHeld3
import Derived.Test.YtkebaklmkidfoaaZ3
import Derived.Test.YtkebaklmkidfoaaZ2
namespace Go.Proofs.Ytkebaklmkidfoaa
open Go.RowKit

/-- A slice of yes and no, wherever it lies. -/
def BRow (w : World) (a : Option Addr) (xs : List Bool) : Prop := xs = [] ∨ ∃ b off, a = some ⟨b, off, none⟩ ∧ b < w.heap.size ∧ ∀ i, i < xs.length → w.cell? ⟨b, off + i, none⟩ = some (.bool (xs.getD i false))
theorem BRow.below {w w' : World} {a : Option Addr} {xs : List Bool} (h : BRow w a xs) (hB : Below w.heap.size w w') : BRow w' a xs := by
  rcases h with h | ⟨b, off, ha, hb, hc⟩
  · exact Or.inl h
  · exact Or.inr ⟨b, off, ha, Nat.lt_of_lt_of_le hb hB.size, fun i hi => (hB.cell (p := ⟨b, off + i, none⟩) hb).trans (hc i hi)⟩
theorem BRow.at {w : World} {a : Option Addr} {xs : List Bool} (h : BRow w a xs) {i : Nat} (hi : i < xs.length) : ∃ b off, a = some ⟨b, off, none⟩ ∧ b < w.heap.size ∧ w.cell? ⟨b, off + i, none⟩ = some (.bool (xs.getD i false)) := by
  rcases h with h | ⟨b, off, ha, hb, hc⟩
  · rw [h] at hi; simp at hi
  · exact ⟨b, off, ha, hb, hc i hi⟩
theorem brow_owns {w : World} {base e g n cap : Nat} {xs : List Bool} (hn : n = xs.length) (h : w.ownsRow base e 1 (.slice (some ⟨g, 0, none⟩) n cap) n (bls xs)) : BRow w (some ⟨g, 0, none⟩) xs := by
  subst hn
  refine Or.inr ⟨g, 0, rfl, (h.lt g rfl).2, fun i hi => ?_⟩
  rw [Nat.zero_add, h.cellAt i (by simpa using hi), bls_get xs i hi false]
/-- Fits, to be read: a list of lists. -/
def GRow (w : World) (a : Option Addr) (F : List (List Bool)) : Prop :=
  F = [] ∨ ∃ b off, a = some ⟨b, off, none⟩ ∧ b < w.heap.size ∧ ∀ i, i < F.length → ∃ ai ci, w.cell? ⟨b, off + i, none⟩ = some (.slice ai (F.getD i []).length ci) ∧ BRow w ai (F.getD i [])
theorem GRow.below {w w' : World} {a : Option Addr} {F : List (List Bool)} (h : GRow w a F) (hb : Below w.heap.size w w') : GRow w' a F := by
  rcases h with h | ⟨b, off, ha, hl, hc⟩
  · exact Or.inl h
  · refine Or.inr ⟨b, off, ha, Nat.lt_of_lt_of_le hl hb.size, fun i hi => ?_⟩
    obtain ⟨ai, ci, h1, h2⟩ := hc i hi
    exact ⟨ai, ci, (hb.cell (p := ⟨b, off + i, none⟩) hl).trans h1, h2.below hb⟩
theorem GRow.at {w : World} {a : Option Addr} {F : List (List Bool)} (h : GRow w a F) {i : Nat} (hi : i < F.length) : ∃ b off ai ci, a = some ⟨b, off, none⟩ ∧ b < w.heap.size ∧ w.cell? ⟨b, off + i, none⟩ = some (.slice ai (F.getD i []).length ci) ∧ BRow w ai (F.getD i []) := by
  rcases h with h | ⟨b, off, ha, hl, hc⟩
  · rw [h] at hi; simp at hi
  · obtain ⟨ai, ci, h1, h2⟩ := hc i hi
    exact ⟨b, off, ai, ci, ha, hl, h1, h2⟩
def GFits (F : List (List Bool)) : Prop := ∀ i, (F.getD i []).length ≤ maxLen
def gv (gs : List Nat) (F : List (List Bool)) (i : Nat) : Value := .slice (some ⟨gs.getD i 0, 0, none⟩) (F.getD i []).length (F.getD i []).length
def gvals (gs : List Nat) (F : List (List Bool)) (k m : Nat) : List Value := (List.range m).map fun i => if i < k then gv gs F i else .slice none 0 0
/-- The first k of m rows, each in a block of its own, all of them owned. -/
def GSo (w : World) (base B : Nat) (gs : List Nat) (F : List (List Bool)) (k m : Nat) : Prop :=
  gs.length = k ∧ w.ownsRow base 41 1 (.slice (some ⟨B, 0, none⟩) m m) m (gvals gs F k m) ∧ (∀ i, i < k → w.ownsRow base 4 1 (gv gs F i) (F.getD i []).length (bls (F.getD i []))) ∧ gs.Pairwise (· < ·) ∧ ∀ g ∈ gs, B < g
theorem GSo.below {w w' : World} {base B k m : Nat} {gs : List Nat} {F : List (List Bool)} (h : GSo w base B gs F k m) (hb : Below w.heap.size w w') : GSo w' base B gs F k m :=
  ⟨h.1, g_own h.2.1 hb, fun i hi => g_own (h.2.2.1 i hi) hb, h.2.2.2⟩
theorem GSo.at_mem {w : World} {base B k m : Nat} {gs : List Nat} {F : List (List Bool)} (h : GSo w base B gs F k m) {i : Nat} (hi : i < k) : gs.getD i 0 ∈ gs := by
  have hi' : i < gs.length := by rw [h.1]; exact hi
  rw [Pf.getD_lt _ _ hi']; exact List.getElem_mem _
theorem GSo.lt {w : World} {base B k m : Nat} {gs : List Nat} {F : List (List Bool)} (h : GSo w base B gs F k m) {g : Nat} (hg : g ∈ gs) : base ≤ g ∧ g < w.heap.size := by
  obtain ⟨i, hi, rfl⟩ := List.getElem_of_mem hg
  have := h.2.2.1 i (by rw [← h.1]; exact hi)
  have := this.lt (gs.getD i 0) rfl
  rwa [Pf.getD_lt _ _ hi] at this
theorem gvals_snoc {gs : List Nat} {F : List (List Bool)} {k m g n : Nat} (hk : gs.length = k) (hn : (F.getD k []).length = n) : (gvals gs F k m).set k (.slice (some ⟨g, 0, none⟩) n n) = gvals (gs ++ [g]) F (k + 1) m := by
  apply List.ext_getElem
  · simp [gvals]
  · intro i h1 h2
    simp only [gvals, List.length_map, List.length_range] at h2
    rw [List.getElem_set]
    by_cases e : k = i
    · subst e
      simp [gvals, gv, ← hn, ← hk]
    · simp only [e, if_false, gvals, List.getElem_map, List.getElem_range]
      by_cases hi : i < k
      · simp [hi, show i < k + 1 by omega, gv, hk]
      · simp [hi, show ¬ i < k + 1 by omega]
theorem GSo.step {w w2 : World} {base B k m g n : Nat} {gs : List Nat} {F : List (List Bool)} (h : GSo w base B gs F k m) (hb : Below w.heap.size w w2) (hbase : base ≤ w.heap.size)
    (own : w2.ownsRow w.heap.size 4 1 (.slice (some ⟨g, 0, none⟩) n n) n (bls (F.getD k []))) (hn : (F.getD k []).length = n) :
    GSo (w2.setCell ⟨B, k, none⟩ (.slice (some ⟨g, 0, none⟩) n n)) base B (gs ++ [g]) F (k + 1) m := by
  obtain ⟨hB0, hB1⟩ := h.2.1.lt B rfl
  obtain ⟨hg0, hg1⟩ := own.lt g rfl
  obtain ⟨st1, st2⟩ := (g_own h.2.1 hb).stored k (.slice (some ⟨g, 0, none⟩) n n)
  rw [gvals_snoc h.1 hn] at st1
  refine ⟨by simp [h.1], st1, fun i hi => ?_, ?_, ?_⟩
  · by_cases e : i = k
    · subst e
      have e1 : gv (gs ++ [g]) F i = .slice (some ⟨g, 0, none⟩) n n := by simp [gv, ← h.1, ← hn]
      rw [e1, hn]
      exact (owns_low own hbase).kept st2 (Or.inr (by simp [Value.ownBlock]; omega))
    · have hi' : i < k := by omega
      have e1 : gv (gs ++ [g]) F i = gv gs F i := by simp [gv, List.getElem?_append, h.1, hi']
      rw [e1]
      have hm := h.2.2.2.2 _ (h.at_mem hi')
      exact (g_own (h.2.2.1 i hi') hb).kept st2 (Or.inr (by simp only [gv, Value.ownBlock, ne_eq, Option.some.injEq]; omega))
  · rw [List.pairwise_append]
    refine ⟨h.2.2.2.1, by simp, fun a ha b hb' => ?_⟩
    simp at hb'
    have := (h.lt ha).2
    omega
  · intro x hx
    rcases List.mem_append.1 hx with hx | hx
    · exact h.2.2.2.2 x hx
    · simp at hx; omega
/-- Fits of one's own, all of them below hi. -/
def GOw (w : World) (B hi : Nat) (F : List (List Bool)) : Prop := hi ≤ w.heap.size ∧ B < hi ∧ ∃ gs, (∀ g ∈ gs, g < hi) ∧ GSo w B B gs F F.length F.length
theorem GOw.below {w w' : World} {B hi : Nat} {F : List (List Bool)} (h : GOw w B hi F) (hb : Below w.heap.size w w') : GOw w' B hi F := by
  obtain ⟨h1, h2, gs, h3, h4⟩ := h
  exact ⟨Nat.le_trans h1 hb.size, h2, gs, h3, h4.below hb⟩
theorem GOw.row {w : World} {B hi : Nat} {F : List (List Bool)} (h : GOw w B hi F) : GRow w (some ⟨B, 0, none⟩) F := by
  obtain ⟨h1, h2, gs, h3, h⟩ := h
  refine Or.inr ⟨B, 0, rfl, (h.2.1.lt B rfl).2, fun i hi => ⟨_, (F.getD i []).length, ?_, brow_owns rfl (h.2.2.1 i hi)⟩⟩
  rw [Nat.zero_add, h.2.1.cellAt i (by omega)]
  simp [gvals, hi, gv]
end Go.Proofs.Ytkebaklmkidfoaa
namespace Go.Proofs.Ytkebaklmkidfoaa
open Go.RowKit

def rvb9 (n : Nat) (g : Nat × Nat) : Value := .slice (some ⟨g.1, 0, none⟩) n g.2
def valsb9 (n : Nat) (gs : List (Nat × Nat)) : List Value := gs.map (rvb9 n)
theorem valsb9_snoc (n : Nat) (gs : List (Nat × Nat)) (g : Nat × Nat) : valsb9 n (gs ++ [g]) = valsb9 n gs ++ [rvb9 n g] := by simp [valsb9]
theorem valsb9_get (n : Nat) (gs : List (Nat × Nat)) {i : Nat} (h : i < gs.length) : (valsb9 n gs)[i]? = some (rvb9 n (gs.getD i (0, 0))) := by simp [valsb9, h]
/-- Lists of n numbers each, in a list, all of them owned, no two in one block. -/
def NOb9 (w : World) (base n m : Nat) (v : Value) (gs : List (Nat × Nat)) (L : List (List Bool)) : Prop :=
  gs.length = m ∧ L.length = m ∧ w.ownsRow base 41 1 v m (valsb9 n gs) ∧ (∀ i, i < m → (L.getD i []).length = n ∧ w.ownsRow base 4 1 (rvb9 n (gs.getD i (0, 0))) n (bls (L.getD i []))) ∧
    (gs.map Prod.fst).Nodup ∧ ∀ g, v.ownBlock = some g → g ∉ gs.map Prod.fst
theorem NOb9.nil (w : World) (base n : Nat) : NOb9 w base n 0 (.slice none 0 0) [] [] :=
  ⟨rfl, rfl, World.ownsRow_nil _ _ _ _, fun i hi => absurd hi (Nat.not_lt_zero _), by simp, fun g h => by simp [Value.ownBlock] at h⟩
theorem NOb9.below {w w' : World} {base n m : Nat} {v : Value} {gs : List (Nat × Nat)} {L : List (List Bool)} (h : NOb9 w base n m v gs L) (hb : Below w.heap.size w w') : NOb9 w' base n m v gs L :=
  ⟨h.1, h.2.1, g_own h.2.2.1 hb, fun i hi => ⟨(h.2.2.2.1 i hi).1, g_own (h.2.2.2.1 i hi).2 hb⟩, h.2.2.2.2⟩
theorem NOb9.lt {w : World} {base n m : Nat} {v : Value} {gs : List (Nat × Nat)} {L : List (List Bool)} (h : NOb9 w base n m v gs L) {b : Nat} (hb : b ∈ gs.map Prod.fst) : base ≤ b ∧ b < w.heap.size := by
  obtain ⟨g, hg, rfl⟩ := List.mem_map.1 hb
  obtain ⟨i, hi, rfl⟩ := List.getElem_of_mem hg
  have := (h.2.2.2.1 i (by rw [← h.1]; exact hi)).2
  rw [Pf.getD_lt _ _ hi] at this
  exact this.lt _ rfl
theorem NOb9.at_mem {w : World} {base n m : Nat} {v : Value} {gs : List (Nat × Nat)} {L : List (List Bool)} (h : NOb9 w base n m v gs L) {i : Nat} (hi : i < m) : (gs.getD i (0, 0)).1 ∈ gs.map Prod.fst :=
  List.mem_map.2 ⟨_, mem9 gs (0, 0) (by rw [h.1]; exact hi), rfl⟩
theorem own_atb9 {w w' : World} {base e s n g c : Nat} {xs : List Value} (h : w.ownsRow base e s (.slice (some ⟨g, 0, none⟩) n c) n xs) (hb : w'.heap[g]? = w.heap[g]?) : w'.ownsRow base e s (.slice (some ⟨g, 0, none⟩) n c) n xs := owns_keep h hb
/-- One list more. -/
theorem NOb9.snoc {w w1 w4 : World} {base n m g cap G C : Nat} {v : Value} {gs : List (Nat × Nat)} {L : List (List Bool)} {x : List Bool} {o : Obj} (h : NOb9 w base n m v gs L) (hb : Below w.heap.size w w1) (hbase : base ≤ w.heap.size)
    (own1 : w1.ownsRow w.heap.size 4 1 (rvb9 n (g, cap)) n (bls x)) (hx : x.length = n)
    (own4 : w4.ownsRow base 41 1 (.slice (some ⟨G, 0, none⟩) (m + 1) C) (m + 1) (valsb9 n gs ++ [rvb9 n (g, cap)])) (hg : (w1.alloc o).grownBy w4 v.ownBlock) (hat : v.ownBlock = some G ∨ G = w1.heap.size + 1) :
    NOb9 w4 base n (m + 1) (.slice (some ⟨G, 0, none⟩) (m + 1) C) (gs ++ [(g, cap)]) (L ++ [x]) ∧ Below base w w4 := by
  obtain ⟨g0, g1⟩ := own1.lt g rfl
  have hsz := hb.size
  have hv : ∀ k, v.ownBlock = some k → base ≤ k ∧ k < w.heap.size := h.2.2.1.lt
  have old : ∀ b, b < w1.heap.size → some b ≠ v.ownBlock → w4.heap[b]? = w1.heap[b]? := fun b h1 h2 => by
    rw [hg.block b (by simp; omega) h2]
    exact (Below.heap_alloc w1 o b h1)
  have hgv : some g ≠ v.ownBlock := fun e => by have := hv g e.symm; omega
  refine ⟨⟨by simp [h.1], by simp [h.2.1], by rw [valsb9_snoc]; exact own4, fun i hi => ?_, ?_, ?_⟩, ?_⟩
  · by_cases e : i = m
    · subst e
      have e1 : (L ++ [x]).getD i [] = x := by simp [← h.2.1]
      have e2 : (gs ++ [(g, cap)]).getD i (0, 0) = (g, cap) := by simp [← h.1]
      rw [e1, e2]
      exact ⟨hx, own_atb9 (owns_low own1 hbase) (old g g1 hgv)⟩
    · have hi' : i < m := by omega
      have e1 : (L ++ [x]).getD i [] = L.getD i [] := by simp [List.getElem?_append, h.2.1, hi']
      have e2 : (gs ++ [(g, cap)]).getD i (0, 0) = gs.getD i (0, 0) := by simp [List.getElem?_append, h.1, hi']
      rw [e1, e2]
      have hm := h.at_mem hi'
      have hlt := h.lt hm
      refine ⟨(h.2.2.2.1 i hi').1, own_atb9 (g_own (h.2.2.2.1 i hi').2 hb) (old _ (by omega) fun e => ?_)⟩
      exact h.2.2.2.2.2 _ e.symm hm
  · rw [List.map_append, List.nodup_append]
    refine ⟨h.2.2.2.2.1, by simp, fun a ha b hb' => ?_⟩
    simp at hb'
    have := h.lt ha
    omega
  · intro k hk
    simp only [Value.ownBlock, Option.some.injEq] at hk
    subst hk
    rw [List.map_append, List.mem_append]
    rintro (hm | hm)
    · rcases hat with e | e
      · exact h.2.2.2.2.2 _ e hm
      · have := h.lt hm; omega
    · simp at hm
      rcases hat with e | e
      · rw [hm] at e; exact hgv e.symm
      · omega
  · refine (hb.mono hbase).trans (((Below.refl _ _).alloc (by omega) o).trans ⟨hg.os, hg.tape, hg.output, hg.size, fun k hk => hg.block k (by simp; omega) fun e => ?_⟩)
    have := hv k e.symm; omega
/-- What is owned stays when another block is written that lies ahead of all of it. -/
theorem NOb9.far {w w' : World} {base n m g : Nat} {v : Value} {gs : List (Nat × Nat)} {L : List (List Bool)} (h : NOb9 w base n m v gs L) (hg : w.grownBy w' (some g)) (hB : g < base) : NOb9 w' base n m v gs L := by
  have hne : ∀ {e s k : Nat} {u : Value} {xs : List Value}, w.ownsRow base e s u k xs → u.ownBlock = none ∨ u.ownBlock ≠ some g := fun {e s k u xs} own => by
    cases hu : u.ownBlock with
    | none => exact Or.inl rfl
    | some b =>
      refine Or.inr fun h' => ?_
      have := own.lt b hu
      simp at h'
      omega
  exact ⟨h.1, h.2.1, h.2.2.1.kept hg (hne h.2.2.1), fun i hi => ⟨(h.2.2.2.1 i hi).1, (h.2.2.2.1 i hi).2.kept hg (hne (h.2.2.2.1 i hi).2)⟩, h.2.2.2.2⟩
theorem NOb9.row {w : World} {base n m G C : Nat} {gs : List (Nat × Nat)} {L : List (List Bool)} (h : NOb9 w base n m (.slice (some ⟨G, 0, none⟩) m C) gs L) : GRow w (some ⟨G, 0, none⟩) L := by
  refine Or.inr ⟨G, 0, rfl, (h.2.2.1.lt G rfl).2, fun i hi => ?_⟩
  have hi' : i < m := by rw [← h.2.1]; exact hi
  obtain ⟨h1, h2⟩ := h.2.2.2.1 i hi'
  refine ⟨_, (gs.getD i (0, 0)).2, ?_, brow_owns h1.symm h2⟩
  rw [Nat.zero_add, h.2.2.1.cellAt i (by omega), valsb9_get n gs (by rw [h.1]; exact hi'), h1]
  rfl
/-- One list more: its block is laid into the outer list first, and filled behind that. -/
theorem GSo.fill {w w2 w4 : World} {base B k m g n : Nat} {gs : List Nat} {F : List (List Bool)} (h : GSo w base B gs F k m) (hb : Below w.heap.size w w2) (hg : w.heap.size ≤ g) (hB4 : (w2.setCell ⟨B, k, none⟩ (.slice (some ⟨g, 0, none⟩) n n)).grownBy w4 (some g))
    (own : w4.ownsRow base 4 1 (.slice (some ⟨g, 0, none⟩) n n) n (bls (F.getD k []))) (hn : (F.getD k []).length = n) : GSo w4 base B (gs ++ [g]) F (k + 1) m := by
  obtain ⟨hB0, hB1⟩ := h.2.1.lt B rfl
  obtain ⟨st1, st2⟩ := (g_own h.2.1 hb).stored k (.slice (some ⟨g, 0, none⟩) n n)
  rw [gvals_snoc h.1 hn] at st1
  refine ⟨by simp [h.1], st1.kept hB4 (Or.inr (by simp [Value.ownBlock]; omega)), fun i hi => ?_, ?_, ?_⟩
  · by_cases e : i = k
    · subst e
      have e1 : gv (gs ++ [g]) F i = .slice (some ⟨g, 0, none⟩) n n := by simp [gv, ← h.1, ← hn]
      rw [e1, hn]
      exact own
    · have hi' : i < k := by omega
      have e1 : gv (gs ++ [g]) F i = gv gs F i := by simp [gv, List.getElem?_append, h.1, hi']
      rw [e1]
      have hm := h.2.2.2.2 _ (h.at_mem hi')
      have hl := (h.lt (h.at_mem hi')).2
      exact ((g_own (h.2.2.1 i hi') hb).kept st2 (Or.inr (by simp only [gv, Value.ownBlock, ne_eq, Option.some.injEq]; omega))).kept hB4 (Or.inr (by simp only [gv, Value.ownBlock, ne_eq, Option.some.injEq]; omega))
  · rw [List.pairwise_append]
    refine ⟨h.2.2.2.1, by simp, fun a ha b hb' => ?_⟩
    simp at hb'
    have := (h.lt ha).2
    omega
  · intro x hx
    rcases List.mem_append.1 hx with hx | hx
    · exact h.2.2.2.2 x hx
    · simp at hx; omega
/-- Lists of one length that a call made in turn. -/
theorem GSo.now {w : World} {B l n : Nat} {gs : List Nat} {F : List (List Bool)} (h : GSo w B B gs F l l) (hl : F.length = l) (hn : ∀ i, i < l → (F.getD i []).length = n) : NOb9 w B n l (.slice (some ⟨B, 0, none⟩) l l) (gs.map fun g => (g, n)) F := by
  have e1 : ∀ i, i < l → (gs.map fun g => (g, n)).getD i (0, 0) = (gs.getD i 0, n) := fun i hi => by
    have : i < gs.length := by rw [h.1]; exact hi
    simp [this]
  have e2 : (gs.map fun g => (g, n)).map Prod.fst = gs := by simp [Function.comp_def]
  have e3 : gvals gs F l l = valsb9 n (gs.map fun g => (g, n)) := by
    apply List.ext_getElem
    · simp [gvals, valsb9, h.1]
    · intro i h1 h2
      simp [gvals] at h1
      have hg : i < gs.length := by rw [h.1]; exact h1
      have := hn i h1
      rw [List.getD_eq_getElem?_getD] at this
      simp [gvals, valsb9, rvb9, gv, h1, hg, this]
  refine ⟨by simp [h.1], hl, by rw [← e3]; exact h.2.1, fun i hi => ⟨hn i hi, ?_⟩, ?_, ?_⟩
  · rw [e1 i hi]
    have := h.2.2.1 i hi
    rwa [gv, hn i hi] at this
  · rw [e2]
    exact h.2.2.2.1.imp fun h => Nat.ne_of_lt h
  · intro g hg
    rw [e2]
    simp only [Value.ownBlock, Option.some.injEq] at hg
    subst hg
    intro hm
    exact Nat.lt_irrefl _ (h.2.2.2.2 _ hm)
/-- A row that is written lies from the outer list on. -/
theorem NOb9.from {w : World} {base n m : Nat} {v : Value} {gs : List (Nat × Nat)} {F : List (List Bool)} (h : NOb9 w base n m v gs F) : ∀ b, b ∈ gs.map Prod.fst → base ≤ b := fun _ hb => (h.lt hb).1
theorem GOw.rng {w w' : World} {B hi a b : Nat} {F : List (List Bool)} (h : GOw w B hi F) (hr : Rng a b w w') (hd : b ≤ B) : GOw w' B hi F := by
  obtain ⟨h1, h2, gs, h3, h4⟩ := h
  have kp : ∀ {e s n g c : Nat} {xs : List Value}, B ≤ g → w.ownsRow B e s (.slice (some ⟨g, 0, none⟩) n c) n xs → w'.ownsRow B e s (.slice (some ⟨g, 0, none⟩) n c) n xs := fun hg ho => owns_keep ho (hr.2.2.2.2 _ (ho.lt _ rfl).2 (Or.inr (by omega)))
  refine ⟨Nat.le_trans h1 hr.2.2.2.1, h2, gs, h3, h4.1, kp (Nat.le_refl _) h4.2.1, fun i hi => ?_, h4.2.2.2⟩
  have hm := h4.2.2.2.2 _ (h4.at_mem hi)
  exact kp (Nat.le_of_lt hm) (h4.2.2.1 i hi)
theorem GOw.now {w : World} {B hi l n : Nat} {F : List (List Bool)} (h : GOw w B hi F) (hl : F.length = l) (hn : ∀ i, i < l → (F.getD i []).length = n) : ∃ gs, NOb9 w B n l (.slice (some ⟨B, 0, none⟩) l l) gs F := by
  obtain ⟨h1, h2, gs, h3, h4⟩ := h
  rw [hl] at h4
  exact ⟨_, h4.now hl hn⟩
/-- The mark of a number. -/
def mkB (k : Int) : Bool := k % 3 == 0
theorem NOb9.outer {w : World} {base n m G C : Nat} {gs : List (Nat × Nat)} {L : List (List Bool)} (h : NOb9 w base n m (.slice (some ⟨G, 0, none⟩) m C) gs L) {i : Nat} (hi : i < m) : w.cell? ⟨G, i, none⟩ = some (rvb9 n (gs.getD i (0, 0))) := by
  rw [h.2.2.1.cellAt i (by omega), valsb9_get n gs (by rw [h.1]; exact hi)]
/-- Lists whose numbers count on from k. -/
def MHb9 (w : World) (n m G : Nat) (gs : List (Nat × Nat)) (k : Int) : Prop :=
  G < w.heap.size ∧ ∀ i, i < m → w.cell? ⟨G, i, none⟩ = some (rvb9 n (gs.getD i (0, 0))) ∧ (gs.getD i (0, 0)).1 < w.heap.size ∧ ∀ j : Nat, j < n → w.cell? ⟨(gs.getD i (0, 0)).1, j, none⟩ = some (.bool (mkB (k + ((i * n : Nat) : Int) + j)))
theorem MHb9.below {w w' : World} {n m G : Nat} {gs : List (Nat × Nat)} {k : Int} (h : MHb9 w n m G gs k) (hb : Below w.heap.size w w') : MHb9 w' n m G gs k :=
  ⟨Nat.lt_of_lt_of_le h.1 hb.size, fun i hi => ⟨(hb.cell (p := ⟨G, i, none⟩) h.1).trans (h.2 i hi).1, Nat.lt_of_lt_of_le (h.2 i hi).2.1 hb.size, fun j hj => (hb.cell (p := ⟨_, j, none⟩) (h.2 i hi).2.1).trans ((h.2 i hi).2.2 j hj)⟩⟩
/-- What is marked so far. -/
def MSb9 (w w' : World) (base n m G : Nat) (gs : List (Nat × Nat)) (L : List (List Bool)) (k : Int) (i : Nat) : Prop :=
  (∀ t, t < i → ∀ j : Nat, j < n → w'.cell? ⟨(gs.getD t (0, 0)).1, j, none⟩ = some (.bool (mkB (k + ((t * n : Nat) : Int) + j)))) ∧ (∀ t, i ≤ t → t < m → w'.ownsRow base 4 1 (rvb9 n (gs.getD t (0, 0))) n (bls (L.getD t []))) ∧
    (∀ t, t < m → w'.cell? ⟨G, t, none⟩ = some (rvb9 n (gs.getD t (0, 0)))) ∧ Below base w w' ∧ w.heap.size ≤ w'.heap.size ∧ ∀ b, b < w.heap.size → b ∉ gs.map Prod.fst → w'.heap[b]? = w.heap[b]?
theorem nodup_neb9 {gs : List (Nat × Nat)} (h : (gs.map Prod.fst).Nodup) {i t : Nat} (hi : i < gs.length) (ht : t < gs.length) (hne : i ≠ t) : (gs.getD i (0, 0)).1 ≠ (gs.getD t (0, 0)).1 := by
  intro e
  rw [Pf.getD_lt _ _ hi, Pf.getD_lt _ _ ht] at e
  have hp := List.pairwise_iff_getElem.1 h
  rcases Nat.lt_or_gt_of_ne hne with hl | hl
  · exact hp i t (by simpa using hi) (by simpa using ht) hl (by simpa using e)
  · exact hp t i (by simpa using ht) (by simpa using hi) hl (by simpa using e.symm)
end Go.Proofs.Ytkebaklmkidfoaa
namespace Go.Proofs.Ytkebaklmkidfoaa
open Go.RowKit

theorem tightL_len (C : List (List Int)) (us vs : List Int) : (Hu.tightL C us vs).length = C.length := by simp [Hu.tightL]
theorem tightR_len (C : List (List Int)) (us vs : List Int) (i : Nat) : (Hu.tightR C us vs i).length = C.length := by simp [Hu.tightR]
theorem tightL_get (C : List (List Int)) (us vs : List Int) {i : Nat} (h : i < C.length) : (Hu.tightL C us vs).getD i [] = Hu.tightR C us vs i := by simp [Hu.tightL, h]
theorem tight_set (C : List (List Int)) (us vs : List Int) (i : Nat) (zs : List Bool) (k : Nat) (hz : zs.length = C.length) (hk : k < C.length) (h : zs.take k = (Hu.tightR C us vs i).take k) : (zs.set k (Hu.tightAt C us vs i k)).take (k + 1) = (Hu.tightR C us vs i).take (k + 1) := by
  apply List.ext_getElem
  · simp [hz, Hu.tightR]
  · intro j h1 h2
    simp at h1 h2
    simp only [List.getElem_take, List.getElem_set]
    by_cases e : k = j
    · subst e; simp [Hu.tightR]
    · simp only [e, if_false]
      have : (zs.take k)[j]? = ((Hu.tightR C us vs i).take k)[j]? := by rw [h]
      simp [show j < k by omega, show j < zs.length by omega, show j < (Hu.tightR C us vs i).length by rw [tightR_len]; omega] at this
      exact this
theorem tight_snoc (C : List (List Int)) (us vs : List Int) (i : Nat) {j : Nat} (hj : j < C.length) : (Hu.tightR C us vs i).take j ++ [Hu.tightAt C us vs i j] = (Hu.tightR C us vs i).take (j + 1) := by
  rw [List.take_add_one, List.getElem?_eq_getElem (by rw [tightR_len]; exact hj)]
  simp [Hu.tightR]
theorem tightL_snoc (C : List (List Int)) (us vs : List Int) {k : Nat} (hk : k < C.length) : (Hu.tightL C us vs).take k ++ [Hu.tightR C us vs k] = (Hu.tightL C us vs).take (k + 1) := by
  rw [List.take_add_one, List.getElem?_eq_getElem (by rw [tightL_len]; exact hk)]
  simp [Hu.tightL]
theorem bls_snoc (xs : List Bool) (x : Bool) : bls (xs ++ [x]) = bls xs ++ [.bool x] := by simp [bls]
theorem infoB : ∃ i, Try.prog.info? 4 = some i ∧ i.zero = some (.bool false) ∧ i.size = 1 ∧ i.bytes = 1 := by
  have h : (Try.prog.info? 4).map (fun i => (i.zero, i.size, i.bytes)) = some (some (.bool false), 1, 1) := by kernel_rfl
  obtain ⟨i, hi, hzz⟩ := Option.map_eq_some_iff.1 h
  simp only [Prod.mk.injEq] at hzz
  exact ⟨i, hi, hzz.1, hzz.2.1, hzz.2.2⟩
theorem infoBs : ∃ i, Try.prog.info? 41 = some i ∧ i.zero = some (.slice none 0 0) ∧ i.size = 1 ∧ i.bytes = 24 := by
  have h : (Try.prog.info? 41).map (fun i => (i.zero, i.size, i.bytes)) = some (some (.slice none 0 0), 1, 24) := by kernel_rfl
  obtain ⟨i, hi, hzz⟩ := Option.map_eq_some_iff.1 h
  simp only [Prod.mk.injEq] at hzz
  exact ⟨i, hi, hzz.1, hzz.2.1, hzz.2.2⟩
theorem makeGs_run (n : Nat) (hn : n ≤ 1048576) (w : World) : (Instr.makeSlice 38 (.int .i64 (n : Int)) (.int .i64 (n : Int))).run Try.prog w = .ok (.slice (some ⟨w.heap.size, 0, none⟩) n n) (w.alloc (.cells (madeCells #[.slice none 0 0] n) 41)) := by
  obtain ⟨i, hi, hz, hs, hb⟩ := infoBs
  have := run_make (P := Try.prog) w 38 41 i _ Try.underlying38 hi hz .i64 .i64 (n : Int) (n : Int) (by omega) (by omega) (by rw [hb]; omega) (by omega)
  simpa [hs, Value.cells] using this
theorem madeGs_own (w : World) (n : Nat) (hn : n ≤ 1048576) (gs : List Nat) (F : List (List Bool)) : (w.alloc (.cells (madeCells #[.slice none 0 0] n) 41)).ownsRow w.heap.size 41 1 (.slice (some ⟨w.heap.size, 0, none⟩) n n) n (gvals gs F 0 n) := by
  have h := World.ownsRow_lit (base := w.heap.size) (e := 41) (size := 1) w (madeCells #[.slice none 0 0] n) n (Nat.le_refl _) (by unfold maxLen; omega) (by simp [madeCells])
  rw [toList_madeCells_one] at h
  have e : gvals gs F 0 n = List.replicate n (.slice none 0 0) := by
    apply List.ext_getElem <;> simp [gvals]
  rw [e]
  simpa using h
set_option maxRecDepth 20000 in
set_option maxHeartbeats 8000000 in
theorem ta_yes {e a b : Option Addr} {l f c d : Nat} {C : List (List Int)} {us vs : List Int} {w : World} (hg : Hu.bothB C us vs = true) (hl : C.length = l) (hn : us.length = l) (hm : vs.length = l) (hc : CRow w e C) (ha : ARow w a us) (hb : ARow w b vs) :
    Calls Try.prog 14 #[.slice e l f, .agg #[.slice a l c, .slice b l d]] w fun e w' => ∃ B, e = .returned (.tuple #[.slice (some ⟨B, 0, none⟩) l l, .bool true]) ∧ w.heap.size ≤ B ∧ Below w.heap.size w w' ∧ GOw w' B w'.heap.size (Hu.tightL C us vs) := by
  obtain ⟨g1, g2, g3⟩ := Hu.bothB_yes hg
  obtain ⟨g4, g5, g6, g7⟩ := Hu.prB_yes g2
  have gl := Hu.costB_len g1
  rw [hl] at gl
  obtain ⟨l1, l10⟩ := gl
  have bn := below_new w (.cells #[.slice a l c, .slice b l d] 27)
  have HC := hide (hc.below bn)
  have HA := hide (ha.below bn)
  have HB := hide (hb.below bn)
  have HL := hide hl
  have HN := hide hn
  have HM := hide hm
  have HG := hide hg
  have HBP := hide fun (W : World) (i : Nat) (hi : i < l) (r1 : ARow W a us) (r2 : ARow W b vs) => bp_any (c := c) (d := d) hn hm l1 l10 hi g6 g7 r1 r2
  have HCL := hide fun (i : Nat) (hi : i < l) => (Hu.costB_row g1 (show i < C.length by rw [hl]; exact hi)).1.trans hl
  have HTL : Hid ((Hu.tightL C us vs).length = l) := hide (by rw [tightL_len, hl])
  have HTG := hide fun (i : Nat) (hi : i < l) => tightL_get C us vs (show i < C.length by rw [hl]; exact hi)
  have HTR := hide fun (i : Nat) => (tightR_len C us vs i).trans hl
  have HTS := hide fun (i : Nat) (zs : List Bool) (k : Nat) (hz : zs.length = l) (hk : k < l) => tight_set C us vs i zs k (by rw [hz, hl]) (by rw [hl]; exact hk)
  have HTA : Hid (∀ i, i < l → ∀ j, j < l → ((Hu.bothR us vs i).getD j 0 == (C.getD i []).getD j 0) = Hu.tightAt C us vs i j) := hide fun i hi j hj => by
    rw [Hu.bothR_get _ _ _ (by omega), Hu.bothAt, if_pos (by omega)]
    unfold Hu.tightAt Hu.ct
    by_cases h : vs.getD j 0 + us.getD i 0 = (C.getD i []).getD j 0
    · rw [decide_eq_true (show us.getD i 0 + vs.getD j 0 = (C.getD i []).getD j 0 by omega), beq_iff_eq.2 h]
    · rw [decide_eq_false (show ¬ us.getD i 0 + vs.getD j 0 = (C.getD i []).getD j 0 by omega), beq_eq_false_iff_ne.2 h]
  have hmk := makeGs_run l (by omega)
  have HMI := hide (makeB_run l (by omega))
  generalize Hu.tightL C us vs = F at *
  clear hc ha hb hl hn hm hg g1 g2 g3 g4 g5 g6 g7 bn
  go_enter Try.func14, Try.ntmps14
  go_wp2_with fail
  refine (bo_eq HL HN HM HC HA HB HG).mono ?_
  rintro e w1 ⟨rfl, hb1⟩
  have HB1 := hide ((below_new w (.cells #[.slice a l c, .slice b l d] 27)).trans (hb1.mono (by simp)))
  have HP1 := hide ((PBox.new w (.slice a l c) (.slice b l d) 27).below hb1)
  have HC1 := hide (HC.out.below hb1)
  have HA1 := hide (HA.out.below hb1)
  have HV1 := hide (HB.out.below hb1)
  clear hb1 HC HA HB
  have q2 := HP1.out.2.2
  have hz1 := HB1.out.size
  go_wp2_with fail
  clear hmk
  go_loopw [7, 8, 9, 10, 11, 21] (fun _ _ _ _ _ s wr => ∃ (k : Nat) (gs : List Nat), s = .int .i64 k ∧ k ≤ l ∧ Hid (GSo wr w1.heap.size w1.heap.size gs F k l) ∧ Hid (Below w1.heap.size w1 wr)) (fun _ _ _ _ _ s _ => l - (intOf s).toNat)
  case atStart => exact ⟨0, [], rfl, Nat.zero_le _, hide ⟨rfl, madeGs_own w1 l (by omega) [] _, fun i hi => absurd hi (Nat.not_lt_zero _), by simp, by simp⟩, hide (below_new _ _)⟩
  case round =>
    obtain ⟨k, gs, rfl, hk, HS, HBr⟩ := hrel
    by_cases hlt : k < l
    · obtain ⟨b1, off, ai, ci, rfl, hb, r0, R1⟩ := HC1.out.at (i := k) (by rw [HL.out]; exact hlt)
      have r1 := (HBr.out.cell (p := ⟨b1, off + k, none⟩) hb).trans r0
      have HR := hide R1
      have HCk := hide (HCL.out k hlt)
      rw [HCL.out k hlt] at r1
      obtain ⟨p0, p1, p2⟩ := HP1.out.below HBr.out
      have HTk := hide (HTG.out k hlt)
      have HTAk := hide (HTA.out k hlt)
      have j0 : (0 : Int) ≤ (k : Int) := by omega
      have j1 : (k : Int) < (l : Int) := by omega
      clear R1 r0
      go_wp2_with fail
      refine (HBP.out _ k hlt (HA1.out.below HBr.out) (HV1.out.below HBr.out)).mono ?_
      rintro e w2 ⟨rfl, hb2⟩
      have HB2 := hide hb2
      clear hb2
      go_wp2_with (refine wr_store rfl _ _ rfl rfl rfl (hide (z10_new _ _)) (Hu.bothR_len _ _ _) ?_; intro w3 A3 T3; have hb3 := (below_new w2 _).trans (T3.2.1 _ (Nat.le_refl _)); clear T3; have HS3 := HS.out.below (below_in HB2.out hb3); have oB := HS3.2.1; obtain ⟨hB0, hB1⟩ := oB.lt _ rfl; have c0 : w3.cell? ⟨w1.heap.size, k, none⟩ = some (.slice none 0 0) := (by rw [oB.cellAt k (by omega)]; simp [gvals, hlt]); have f0 := oB.frozenAt k; have ca : ∀ o, (w3.alloc o).cell? ⟨w1.heap.size, k, none⟩ = some (.slice none 0 0) := (fun o => ((below_new w3 o).cell (p := ⟨w1.heap.size, k, none⟩) hB1).trans c0); have fa : ∀ o, (w3.alloc o).frozen? ⟨w1.heap.size, k, none⟩ = false := (fun o => ((below_new w3 o).frozen (p := ⟨w1.heap.size, k, none⟩) hB1).trans f0); have hmk2 := HMI.out; clear oB)
      have HE3 := hide (World.setCell_alloc_past (w := w3) (.cells (madeCells #[.bool false] l) 4) w1.heap.size k (.slice (some ⟨w3.heap.size, 0, none⟩) l l) hB1)
      have own4 := madeB_own (w3.setCell ⟨w1.heap.size, k, none⟩ (.slice (some ⟨w3.heap.size, 0, none⟩) l l)) l (by omega)
      have d0 : ((w3.setCell ⟨w1.heap.size, k, none⟩ (.slice (some ⟨w3.heap.size, 0, none⟩) l l)).alloc (.cells (madeCells #[.bool false] l) 4)).cell? ⟨w1.heap.size, k, none⟩ = some (.slice (some ⟨w3.heap.size, 0, none⟩) l l) := ((below_new _ _).cell (p := ⟨w1.heap.size, k, none⟩) (by simpa using hB1)).trans (World.cell?_setCell_same _ _ _ c0)
      have HBw3 := hide (HBr.out.trans ((below_in HB2.out hb3).mono HBr.out.size))
      have HB4 := hide ((HBw3.out.setCell (p := ⟨w1.heap.size, k, none⟩) (Nat.le_refl _) (.slice (some ⟨w3.heap.size, 0, none⟩) l l)).trans ((below_new (w3.setCell ⟨w1.heap.size, k, none⟩ (.slice (some ⟨w3.heap.size, 0, none⟩) l l)) (.cells (madeCells #[.bool false] l) 4)).mono (by simpa using HBw3.out.size)))
      have hz3 := A3.2.1
      have hzb := HBr.out.size
      have hzc := HB2.out.size
      have A4 := (A3.other (b' := w1.heap.size) (k := k) (v := .slice (some ⟨w3.heap.size, 0, none⟩) l l) (by have := (HS.out.2.1.lt w1.heap.size rfl).2; omega)).below (below_new _ (.cells (madeCells #[.bool false] l) 4))
      rw [World.size_setCell] at own4
      obtain ⟨w4, hw4⟩ : ∃ w4, w4 = (w3.setCell ⟨w1.heap.size, k, none⟩ (.slice (some ⟨w3.heap.size, 0, none⟩) l l)).alloc (.cells (madeCells #[.bool false] l) 4) := ⟨_, rfl⟩
      rw [← hw4] at own4 d0 HB4 HE3 A4 ⊢
      have hz4 : w3.heap.size < w4.heap.size := (own4.lt _ rfl).2
      obtain ⟨X, hX⟩ : ∃ X, X = w3.heap.size := ⟨_, rfl⟩
      obtain ⟨R, hR⟩ : ∃ R, R = w2.heap.size := ⟨_, rfl⟩
      rw [← hX] at own4 d0 HE3 hz4 hB1 hz3 ⊢
      rw [← hR] at A4 hz3 ⊢
      have HO4 := hide (owns_low own4 (show w1.heap.size ≤ X by omega))
      have HA4 := hide A4
      have HXe := hide hX
      have HS3' := hide HS3
      clear own4 hw4 hmk2 ca fa c0 f0 hX hR A3 A4 HS3 hb3
      go_loopw [10, 11, 37] (fun _ _ s wi => ∃ (j : Nat) (zs : List Bool), s = .int .i64 j ∧ j ≤ l ∧ zs.length = l ∧ Hid (zs.take j = (Hu.tightR C us vs k).take j) ∧ Hid (wi.ownsRow w1.heap.size 4 1 (.slice (some ⟨X, 0, none⟩) l l) l (bls zs)) ∧ Hid (w4.grownBy wi (some X)) ∧ Hid (Below w1.heap.size w1 wi)) (fun _ _ s _ => l - (intOf s).toNat)
      case atStart => exact ⟨0, List.replicate l false, rfl, Nat.zero_le _, by simp, hide (by simp), HO4, hide (World.grownBy.refl _ _), HB4⟩
      case round =>
        clear HO4 HB4
        obtain ⟨j, zs, rfl, hj, hzl, HT, HO, HGr, HBi⟩ := hrel
        by_cases hjl : j < l
        · obtain ⟨b2, o2, rfl, hb2, hr2⟩ := HR.out.resolve_left (by intro e; have := HCk.out; rw [e] at this; simp at this; omega)
          have r2 := (HBi.out.cell (p := ⟨b2, o2 + j, none⟩) hb2).trans (hr2 j (by rw [HCk.out]; exact hjl))
          have t0 : (0 : Int) ≤ (j : Int) := by omega
          have t1 : (j : Int) < (l : Int) := by omega
          have t2 : (j : Int) < 10 := by omega
          have d1 : wr.cell? ⟨w1.heap.size, k, none⟩ = some (.slice (some ⟨X, 0, none⟩) l l) := (World.cell?_of_block (w := w4) (a := ⟨w1.heap.size, k, none⟩) (HGr.out.block w1.heap.size (by omega) (by simp; omega))).trans d0
          have a1 : wr.cell? ⟨R, j, none⟩ = some (.int .i64 ((Hu.bothR us vs k).getD j 0)) := (World.cell?_of_block (w := w4) (a := ⟨R, j, none⟩) (HGr.out.block R (by omega) (by simp; omega))).trans (HA4.out.2.2 j (by omega)).1
          have c3 : wr.cell? ⟨X, j, none⟩ = some (.bool (zs.getD j false)) := by rw [HO.out.cellAt j (by omega), bls_get zs j (by omega) false]
          have f3 := HO.out.frozenAt j
          have HSET := hide (HTS.out k zs j hzl hjl HT.out)
          rw [← HTAk.out j hjl] at HSET
          generalize (C.getD k []).getD j 0 = x at *
          generalize (Hu.bothR us vs k).getD j 0 = y at *
          obtain ⟨st1, st2⟩ := HO.out.stored j (.bool (y == x))
          rw [bls_set] at st1
          have HST := hide st1
          have HG2 : Hid (w4.grownBy (wr.setCell ⟨X, j, none⟩ (.bool (y == x))) (some X)) := hide ⟨st2.os.trans HGr.out.os, st2.tape.trans HGr.out.tape, st2.output.trans HGr.out.output, Nat.le_trans HGr.out.size st2.size, fun b hb hne => (st2.block b (Nat.lt_of_lt_of_le hb HGr.out.size) hne).trans (HGr.out.block b hb hne)⟩
          have HB5 := hide (HBi.out.setCell (p := ⟨X, j, none⟩) (by show w1.heap.size ≤ X; omega) (.bool (y == x)))
          clear hr2 st1 st2
          generalize zs.getD j false = z at c3
          go_wp2_with fail
          go_region
          go_wp2_with fail
          go_roundw
          case rel => exact ⟨j + 1, zs.set j (y == x), by go_num, by omega, by simpa using hzl, HSET, HST, hide ⟨HG2.out.os, HG2.out.tape, HG2.out.output, HG2.out.size, HG2.out.block⟩, hide HB5.out.drew⟩
          case measure => simp only [intOf]; omega
        · have hje : j = l := by omega
          subst hje
          have HE : Hid (zs = F.getD k []) := hide (by
            have := HT.out
            rw [HTk.out]
            rwa [List.take_of_length_le (by omega), List.take_of_length_le (by rw [HTR.out]; omega)] at this)
          have HS2 := hide (HS3'.out.fill (w2 := _) (w4 := wr) (g := X) (n := j) (below_new _ (.cells (madeCells #[.bool false] j) 4)) (by rw [HXe.out]; exact Nat.le_refl _) (by rw [HE3.out]; exact HGr.out) (by rw [← HE.out]; exact HO.out) (by rw [← HE.out]; exact hzl))
          go_wp2_with fail
          go_roundw
          case rel => exact ⟨k + 1, gs ++ [X], by go_num, by omega, HS2, HBi⟩
          case measure => simp only [intOf]; omega
    · have hke : k = l := by omega
      subst hke
      have HO : Hid (GOw wr w1.heap.size wr.heap.size F) := hide ⟨Nat.le_refl _, (HS.out.2.1.lt _ rfl).2, gs, fun g hg => (HS.out.lt hg).2, by rw [HTL.out]; exact HS.out⟩
      have HBe := hide (HB1.out.trans (HBr.out.mono HB1.out.size))
      go_wp2_with fail
      go_ret2
      exact ⟨w1.heap.size, rfl, hz1, HBe.out, HO.out⟩
set_option maxRecDepth 100000 in
set_option maxHeartbeats 2000000 in
theorem ta_no {e a b : Option Addr} {l n m f c d : Nat} {C : List (List Int)} {us vs : List Int} {w : World} (hg : Hu.bothB C us vs = false) (hl : C.length = l) (hn : us.length = n) (hm : vs.length = m) (hc : CRow w e C) (ha : ARow w a us) (hb : ARow w b vs) :
    Calls Try.prog 14 #[.slice e l f, .agg #[.slice a n c, .slice b m d]] w fun e w' => e = .returned (.tuple #[.slice none 0 0, .bool false]) ∧ Below w.heap.size w w' := by
  have bn := below_new w (.cells #[.slice a n c, .slice b m d] 27)
  have HC := hide (hc.below bn)
  have HA := hide (ha.below bn)
  have HB := hide (hb.below bn)
  have HL := hide hl
  have HN := hide hn
  have HM := hide hm
  have HG := hide hg
  clear hc ha hb hl hn hm hg bn
  go_enter Try.func14, Try.ntmps14
  go_wp2_with fail
  refine (bo_eq HL HN HM HC HA HB HG).mono ?_
  rintro e w1 ⟨rfl, hb1⟩
  have HB1 := hide ((below_new w (.cells #[.slice a n c, .slice b m d] 27)).trans (hb1.mono (by simp)))
  clear hb1 HC HA HB
  go_wp2_with fail
  go_ret2
  exact ⟨rfl, HB1.out⟩
end Go.Proofs.Ytkebaklmkidfoaa
namespace Go.Proofs.Ytkebaklmkidfoaa
open Go.RowKit

set_option maxRecDepth 20000 in
set_option maxHeartbeats 8000000 in
theorem sta_yes {e a b : Option Addr} {l f c d : Nat} {C : List (List Int)} {us vs : List Int} {w : World} (hg : Hu.bothB C us vs = true) (hl : C.length = l) (hn : us.length = l) (hm : vs.length = l) (hc : CRow w e C) (ha : ARow w a us) (hb : ARow w b vs) :
    Calls Try.prog 20 #[.slice e l f, .agg #[.slice a l c, .slice b l d]] w fun e w' => ∃ G D, e = .returned (.tuple #[.slice (some ⟨G, 0, none⟩) l D, .bool true]) ∧ Below w.heap.size w w' ∧ GRow w' (some ⟨G, 0, none⟩) (Hu.tightL C us vs) := by
  obtain ⟨g1, g2, g3⟩ := Hu.bothB_yes hg
  obtain ⟨g4, g5, g6, g7⟩ := Hu.prB_yes g2
  have gl := Hu.costB_len g1
  rw [hl] at gl
  obtain ⟨l1, l10⟩ := gl
  have bn := below_new w (.cells #[.slice a l c, .slice b l d] 27)
  have HC := hide (hc.below bn)
  have HA := hide (ha.below bn)
  have HB := hide (hb.below bn)
  have HL := hide hl
  have HN := hide hn
  have HM := hide hm
  have HG := hide hg
  have HBU := hide fun (i : Nat) (hi : i < l) => Pf.inB_yes (Pf.allB_get g6 (show i < us.length by omega))
  have HBV := hide fun (i : Nat) (hi : i < l) => Pf.inB_yes (Pf.allB_get g7 (show i < vs.length by omega))
  have HCL := hide fun (i : Nat) (hi : i < l) => (Hu.costB_row g1 (show i < C.length by rw [hl]; exact hi)).1.trans hl
  have HTL : Hid ((Hu.tightL C us vs).length = l) := hide (by rw [tightL_len, hl])
  have HTR := hide fun (i : Nat) => (tightR_len C us vs i).trans hl
  have HLS := hide fun (i : Nat) (hi : i < l) => tightL_snoc C us vs (show i < C.length by rw [hl]; exact hi)
  have HRS := hide fun (i j : Nat) (hj : j < l) => tight_snoc C us vs i (show j < C.length by rw [hl]; exact hj)
  have HTA : Hid (∀ i j : Nat, (us.getD i 0 + vs.getD j 0 == (C.getD i []).getD j 0) = Hu.tightAt C us vs i j) := hide fun i j => by
    unfold Hu.tightAt Hu.ct
    by_cases h : us.getD i 0 + vs.getD j 0 = (C.getD i []).getD j 0
    · rw [decide_eq_true h, beq_iff_eq.2 h]
    · rw [decide_eq_false h, beq_eq_false_iff_ne.2 h]
  generalize Hu.tightL C us vs = F at *
  clear hc ha hb hl hn hm hg g1 g2 g3 g4 g5 g6 g7 bn
  go_enter Try.func20, Try.ntmps20
  go_wp2_with fail
  refine (sbo_eq HL (by omega) HN HM HC HA HB HG).mono ?_
  rintro e w1 ⟨rfl, hb1⟩
  have HB1 := hide ((below_new w (.cells #[.slice a l c, .slice b l d] 27)).trans (hb1.mono (by simp)))
  have HP1 := hide ((PBox.new w (.slice a l c) (.slice b l d) 27).below hb1)
  have HC1 := hide (HC.out.below hb1)
  have HA1 := hide (HA.out.below hb1)
  have HV1 := hide (HB.out.below hb1)
  clear hb1 HC HA HB
  go_wp2_with fail
  go_loopw [6, 7, 8, 9, 10, 11, 18] (fun v _ _ _ _ _ s wr => ∃ (k : Nat) (gs : List (Nat × Nat)), s = .int .i64 k ∧ k ≤ l ∧ Hid (NOb9 wr w1.heap.size l k v gs (F.take k)) ∧ Hid (k = 0 ∨ ∃ G D, v = .slice (some ⟨G, 0, none⟩) k D) ∧ Hid (Below w1.heap.size w1 wr)) (fun _ _ _ _ _ _ s _ => l - (intOf s).toNat)
  case atStart => exact ⟨0, [], rfl, Nat.zero_le _, hide (NOb9.nil _ _ _), hide (Or.inl rfl), hide (Below.refl _ _)⟩
  case round =>
    obtain ⟨k, gs, rfl, hk, HS, HV, HBr⟩ := hrel
    by_cases hlt : k < l
    · obtain ⟨b1, off, ai, ci, rfl, hb, r0, R1⟩ := HC1.out.at (i := k) (by rw [HL.out]; exact hlt)
      have r1 := (HBr.out.cell (p := ⟨b1, off + k, none⟩) hb).trans r0
      have HCk := hide (HCL.out k hlt)
      rw [HCL.out k hlt] at r1
      obtain ⟨b2, o2, rfl, hb2, hr2⟩ := R1.resolve_left (by intro e; have := HCk.out; rw [e] at this; simp at this; omega)
      have HR2 := hide hr2
      obtain ⟨b3, o3, rfl, hb3, hr3⟩ := HA1.out.resolve_left (by intro e; have := HN.out; rw [e] at this; simp at this; omega)
      obtain ⟨b4, o4, rfl, hb4, hr4⟩ := HV1.out.resolve_left (by intro e; have := HM.out; rw [e] at this; simp at this; omega)
      have r3 := hide (hr3 k (by rw [HN.out]; exact hlt))
      have HR4 := hide hr4
      have bx := HBU.out k hlt
      have HTAk := hide (HTA.out k)
      have HSN := hide (HLS.out k hlt)
      generalize us.getD k 0 = x at r3 bx HTAk
      have j0 : (0 : Int) ≤ (k : Int) := by omega
      have j1 : (k : Int) < (l : Int) := by omega
      have hwrs := HBr.out.size
      have q2 := HP1.out.2.2
      clear R1 r0 hr2 hr3 hr4
      go_wp2_with fail
      go_loopw [9, 10, 11, 25] (fun v _ _ s wi => ∃ (t : Nat), s = .int .i64 t ∧ t ≤ l ∧ Hid (wi.ownsRow wr.heap.size 4 1 v t (bls ((Hu.tightR C us vs k).take t))) ∧ Hid (t = 0 ∨ ∃ g cap, v = .slice (some ⟨g, 0, none⟩) t cap) ∧ Hid (Below wr.heap.size wr wi)) (fun _ _ _ s _ => l - (intOf s).toNat)
      case atStart => exact ⟨0, rfl, Nat.zero_le _, hide (World.ownsRow_nil _ _ _ _), hide (Or.inl rfl), hide (Below.refl _ _)⟩
      case round =>
        obtain ⟨t, rfl, ht, HO, HF, HBi⟩ := hrel
        have HBz := hide (below_in HBr.out HBi.out)
        by_cases htl : t < l
        · have r2 := (HBz.out.cell (p := ⟨b2, o2 + t, none⟩) hb2).trans (HR2.out t (by rw [HCk.out]; exact htl))
          have r4 := (HBz.out.cell (p := ⟨b4, o4 + t, none⟩) hb4).trans (HR4.out t (by rw [HM.out]; exact htl))
          have r3' := (HBz.out.cell (p := ⟨b3, o3 + k, none⟩) hb3).trans r3.out
          obtain ⟨p0, p1, p2⟩ := HP1.out.below HBz.out
          have t0 : (0 : Int) ≤ (t : Int) := by omega
          have t1 : (t : Int) < (l : Int) := by omega
          have by1 := HBV.out t htl
          have HS9 := hide (HRS.out k t htl)
          rw [← HTAk.out t] at HS9
          generalize vs.getD t 0 = y at *
          generalize (C.getD k []).getD t 0 = z at *
          have ww : IntKind.i64.wrap (x + y) = x + y := by rw [IntKind.wrap_i64]; omega
          obtain ⟨g3, cap3, w3, hr3, own3, hg3, _⟩ := push_9 (t := 41) (x := .bool (x + y == z)) Try.underlying41 infoB rfl rfl (by decide) (HO.out.drew) (by omega) HBi.out.size
          have HO3 : Hid (w3.ownsRow _ 4 1 (.slice (some ⟨g3, 0, none⟩) (t + 1) cap3) (t + 1) (bls ((Hu.tightR C us vs k).take (t + 1)))) := hide (by rw [← HS9.out, bls_snoc]; exact own3)
          have HB3 := hide (HBi.out.trans (((Below.refl _ wr).drew.trans ((below_new wr.drew (.cells #[.bool (x + y == z)] 4)).mono HBi.out.size)).trans (grown_under' hg3 (HO.out.drew.alloc _) (Nat.le_refl _) (by have := HBi.out.size; simp; omega))))
          have HR3 := hide hr3
          clear own3 hg3 hr3
          go_wp2_with fail
          go_region_law ((refine step_append_run9 (by rfl) (.tmp 30) (.tmp 44) 41 41 (by rfl) u9 (.slice (some ⟨wr.heap.size, 0, none⟩) 1 1) (by simp [go_sem]) (by simp [go_sem]) (.slice (some ⟨g3, 0, none⟩) (t + 1) cap3) w3 (HR3.out _) ?_))
          all_goals (go_wp2_with fail; exact ⟨⟨t + 1, by go_num, by omega, HO3, hide (Or.inr ⟨_, _, rfl⟩), HB3⟩, by simp only [intOf]; omega⟩)
        · have hte : t = l := by omega
          subst hte
          obtain ⟨g, cap, rfl⟩ : ∃ g cap, u9 = .slice (some ⟨g, 0, none⟩) t cap := HF.out.resolve_left (by omega)
          have HO' : Hid (wr.ownsRow _ 4 1 (rvb9 t (g, cap)) t (bls (Hu.tightR C us vs k))) := hide (by
            have := HO.out
            rwa [List.take_of_length_le (by rw [HTR.out]; omega)] at this)
          obtain ⟨G4, C4, w4, hr4, own4, hg4, hat4⟩ := push_9 (t := 38) (x := .slice (some ⟨g, 0, none⟩) t cap) Try.underlying38 infoBs rfl rfl (by decide) (g_own HS.out.2.2.1 HBi.out) (by omega) (Nat.le_trans hwrs HBi.out.size)
          obtain ⟨sn1, sn2⟩ := HS.out.snoc HBi.out hwrs HO'.out (HTR.out k) own4 hg4 hat4
          rw [HSN.out] at sn1
          have HN4 := hide sn1
          have HB4 := hide (HBr.out.trans sn2)
          clear own4 hg4 hat4 sn1 sn2 HO HO'
          go_wp2_with (first | (at_builtin; refine Lib.wpList_append_run _ rfl _ _ _ _ rfl _ _ rfl rfl _ _ (hr4 _) ?_))
          go_roundw
          case rel => exact ⟨k + 1, _, by go_num, by omega, HN4, hide (Or.inr ⟨_, _, rfl⟩), HB4⟩
          case measure => simp only [intOf]; omega
    · have hke : k = l := by omega
      subst hke
      obtain ⟨G, D, rfl⟩ : ∃ G D, u6 = .slice (some ⟨G, 0, none⟩) k D := HV.out.resolve_left (by omega)
      have HR : Hid (GRow wr (some ⟨G, 0, none⟩) F) := hide (by
        have := HS.out.row
        rwa [List.take_of_length_le (by rw [HTL.out]; omega)] at this)
      have HBe := hide (HB1.out.trans (HBr.out.mono HB1.out.size))
      go_wp2_with fail
      go_ret2
      exact ⟨G, D, rfl, HBe.out, HR.out⟩
set_option maxRecDepth 100000 in
set_option maxHeartbeats 2000000 in
theorem sta_no {e a b : Option Addr} {l n m f c d : Nat} {C : List (List Int)} {us vs : List Int} {w : World} (hg : Hu.bothB C us vs = false) (hl : C.length = l) (hl1 : l ≤ 1048576) (hn : us.length = n) (hm : vs.length = m) (hc : CRow w e C) (ha : ARow w a us) (hb : ARow w b vs) :
    Calls Try.prog 20 #[.slice e l f, .agg #[.slice a n c, .slice b m d]] w fun e w' => e = .returned (.tuple #[.slice none 0 0, .bool false]) ∧ Below w.heap.size w w' := by
  have bn := below_new w (.cells #[.slice a n c, .slice b m d] 27)
  have HC := hide (hc.below bn)
  have HA := hide (ha.below bn)
  have HB := hide (hb.below bn)
  have HL := hide hl
  have HN := hide hn
  have HM := hide hm
  have HG := hide hg
  clear hc ha hb hl hn hm hg bn
  go_enter Try.func20, Try.ntmps20
  go_wp2_with fail
  refine (sbo_eq HL hl1 HN HM HC HA HB HG).mono ?_
  rintro e w1 ⟨rfl, hb1⟩
  have HB1 := hide ((below_new w (.cells #[.slice a n c, .slice b m d] 27)).trans (hb1.mono (by simp)))
  clear hb1 HC HA HB
  go_wp2_with fail
  go_ret2
  exact ⟨rfl, HB1.out⟩
end Go.Proofs.Ytkebaklmkidfoaa
namespace Go.Proofs.Ytkebaklmkidfoaa
open Go.RowKit

/-- An answer that can be read. -/
def GRd (w : World) (v : Value) (F : List (List Bool)) : Prop := ∃ a c, v = .slice a F.length c ∧ GRow w a F
theorem GRd.below {w w' : World} {v : Value} {F : List (List Bool)} (h : GRd w v F) (hb : Below w.heap.size w w') : GRd w' v F := by
  obtain ⟨a, c, h1, h2⟩ := h
  exact ⟨a, c, h1, h2.below hb⟩
/-- An answer of one's own, from lo on and below hi. -/
def GA (w : World) (lo hi : Nat) (v : Value) (F : List (List Bool)) : Prop := (F = [] ∧ v = .slice none 0 0) ∨ ∃ B, v = .slice (some ⟨B, 0, none⟩) F.length F.length ∧ lo ≤ B ∧ GOw w B hi F
theorem GA.below {w w' : World} {lo hi : Nat} {v : Value} {F : List (List Bool)} (h : GA w lo hi v F) (hb : Below w.heap.size w w') : GA w' lo hi v F := by
  rcases h with h | ⟨B, h1, h2, h3⟩
  · exact Or.inl h
  · exact Or.inr ⟨B, h1, h2, h3.below hb⟩
theorem GA.rng {w w' : World} {lo hi a b : Nat} {v : Value} {F : List (List Bool)} (h : GA w lo hi v F) (hr : Rng a b w w') (hd : b ≤ lo) : GA w' lo hi v F := by
  rcases h with h | ⟨B, h1, h2, h3⟩
  · exact Or.inl h
  · exact Or.inr ⟨B, h1, h2, h3.rng hr (by omega)⟩
theorem GA.rd {w : World} {lo hi : Nat} {v : Value} {F : List (List Bool)} (h : GA w lo hi v F) : GRd w v F := by
  rcases h with ⟨h1, h2⟩ | ⟨B, h1, h2, h3⟩
  · subst h1; exact ⟨none, 0, h2, Or.inl rfl⟩
  · exact ⟨_, _, h1, h3.row⟩
/-- What is marked and held from 1 on. -/
def GH (w : World) (v : Value) (m n : Nat) : Prop := (m = 0 ∧ v = .slice none 0 0) ∨ ∃ B gs, v = .slice (some ⟨B, 0, none⟩) m m ∧ MHb9 w n m B gs 1
theorem GH.below {w w' : World} {v : Value} {m n : Nat} (h : GH w v m n) (hb : Below w.heap.size w w') : GH w' v m n := by
  rcases h with h | ⟨B, gs, h1, h2⟩
  · exact Or.inl h
  · exact Or.inr ⟨B, gs, h1, h2.below hb⟩
theorem Off2.rng {w w' : World} {x y a b : Nat} (h : Off2 w w' x y) (h1 : a ≤ x) (h2 : x < b) (h3 : a ≤ y) (h4 : y < b) : Rng a b w w' := ⟨h.os, h.tape, h.output, h.size, fun c hc hd => h.block c hc (by omega) (by omega)⟩
theorem taL_len (C : List (List Int)) (us vs : List Int) : (Hu.taL C us vs).length = if Hu.bothB C us vs then C.length else 0 := by
  unfold Hu.taL
  split
  · exact tightL_len C us vs
  · rfl
theorem taL_row {C : List (List Int)} {us vs : List Int} {i : Nat} (h : i < (Hu.taL C us vs).length) : ((Hu.taL C us vs).getD i []).length = (Hu.taL C us vs).length := by
  unfold Hu.taL at h ⊢
  split
  · rename_i hb
    rw [if_pos hb, tightL_len] at h
    rw [tightL_get _ _ _ h, tightR_len, tightL_len]
  · rename_i hb
    rw [if_neg hb] at h
    simp at h
theorem taL_le {C : List (List Int)} {us vs : List Int} : (Hu.taL C us vs).length ≤ 10 := by
  rw [taL_len]
  split
  · rename_i h; exact (Hu.costB_len (Hu.bothB_yes h).1).2
  · omega
theorem ta_w {e a b : Option Addr} {l n m f c d : Nat} {C : List (List Int)} {us vs : List Int} {w : World} (hl : C.length = l) (hn : us.length = n) (hm : vs.length = m) (hc : CRow w e C) (ha : ARow w a us) (hb : ARow w b vs) :
    Calls Try.prog 14 #[.slice e l f, .agg #[.slice a n c, .slice b m d]] w fun e w' => ∃ v, e = .returned (.tuple #[v, .bool (Hu.bothB C us vs)]) ∧ Below w.heap.size w w' ∧ GA w' w.heap.size w'.heap.size v (Hu.taL C us vs) := by
  cases hg : Hu.bothB C us vs
  · exact (ta_no hg hl hn hm hc ha hb).mono fun e w' h => ⟨_, h.1, h.2, Or.inl ⟨by simp [Hu.taL, hg], rfl⟩⟩
  · obtain ⟨g1, g2, g3⟩ := Hu.bothB_yes hg
    have g4 := (Hu.prB_yes g2).1
    obtain rfl : n = l := by omega
    obtain rfl : m = n := by omega
    refine (ta_yes hg hl hn hm hc ha hb).mono ?_
    rintro e w' ⟨B, h1, h2, h3, h4⟩
    have e1 : Hu.taL C us vs = Hu.tightL C us vs := by simp [Hu.taL, hg]
    exact ⟨_, h1, h3, Or.inr ⟨B, by rw [e1, tightL_len, hl], h2, by rw [e1]; exact h4⟩⟩
theorem sta_w {e a b : Option Addr} {l n m f c d : Nat} {C : List (List Int)} {us vs : List Int} {w : World} (hl : C.length = l) (hl1 : l ≤ 1048576) (hn : us.length = n) (hm : vs.length = m) (hc : CRow w e C) (ha : ARow w a us) (hb : ARow w b vs) :
    Calls Try.prog 20 #[.slice e l f, .agg #[.slice a n c, .slice b m d]] w fun e w' => ∃ v, e = .returned (.tuple #[v, .bool (Hu.bothB C us vs)]) ∧ Below w.heap.size w w' ∧ GRd w' v (Hu.taL C us vs) := by
  cases hg : Hu.bothB C us vs
  · exact (sta_no hg hl hl1 hn hm hc ha hb).mono fun e w' h => ⟨_, h.1, h.2, ⟨none, 0, by simp [Hu.taL, hg], Or.inl (by simp [Hu.taL, hg])⟩⟩
  · obtain ⟨g1, g2, g3⟩ := Hu.bothB_yes hg
    have g4 := (Hu.prB_yes g2).1
    obtain rfl : n = l := by omega
    obtain rfl : m = n := by omega
    refine (sta_yes hg hl hn hm hc ha hb).mono ?_
    rintro e w' ⟨G, D, h1, h2, h3⟩
    have e1 : Hu.taL C us vs = Hu.tightL C us vs := by simp [Hu.taL, hg]
    exact ⟨_, h1, h2, ⟨_, D, by rw [e1, tightL_len, hl], by rw [e1]; exact h3⟩⟩
end Go.Proofs.Ytkebaklmkidfoaa
namespace Go.Proofs.Ytkebaklmkidfoaa
open Go.RowKit

theorem ord9_cast {os : List Int} {n i : Nat} (h : Od.ordB os n = true) (hi : i < n) : os.getD i 0 = ((Od.nth os i : Nat) : Int) := Od.nth_cast h hi
theorem fit9_bd {C : List (List Int)} {os : List Int} (h : Hu.costB C = true) (ho : Od.ordB os C.length = true) (k : Nat) (hk : k ≤ C.length) : 0 ≤ Hu.costTo C os k ∧ Hu.costTo C os k ≤ 1000 := by
  have h1 := Hu.costTo_bd h ho k hk
  have h2 := (Hu.costB_len h).2
  omega
set_option maxRecDepth 100000 in
set_option maxHeartbeats 4000000 in
theorem fc_w {a b : Option Addr} {n m c d : Nat} {C : List (List Int)} {os : List Int} {w : World} (hn : C.length = n) (hm : os.length = m) (h : CRow w a C) (ho : ARow w b os) :
    Calls Try.prog 11 #[.slice a n c, .slice b m d] w fun e w' => e = .returned (.tuple #[.int .i64 (Hu.fcI C os), .bool (Hu.fcB C os)]) ∧ Below w.heap.size w w' := by
  have HN := hide hn
  have HM := hide hm
  have H := hide h
  have HO := hide ho
  cases hg : Hu.costB C
  · have HG := hide hg
    have e1 : Hu.fcB C os = false := by simp [Hu.fcB, hg]
    have e2 : Hu.fcI C os = 0 := by simp [Hu.fcI, e1]
    rw [e1, e2]
    clear h ho hn hm hg e1 e2
    go_enter Try.func11, Try.ntmps11
    go_wp2_with fail
    refine (gc_eq HN H HG).mono ?_
    rintro e w1 ⟨rfl, hw1⟩
    obtain rfl : w = w1 := hw1.symm
    go_wp2_with fail
    go_ret2
    exact ⟨rfl, Below.refl _ _⟩
  · have hl := Hu.costB_len hg
    rw [hn] at hl
    have h10 := hl.2
    cases hod : Od.ordB os n
    · have HG := hide hg
      have HOD := hide hod
      have e1 : Hu.fcB C os = false := by simp [Hu.fcB, hg, hn, hod]
      have e2 : Hu.fcI C os = 0 := by simp [Hu.fcI, e1]
      rw [e1, e2]
      clear h ho hn hm hg e1 e2 hod hl
      go_enter Try.func11, Try.ntmps11
      go_wp2_with fail
      refine (gc_eq HN H HG).mono ?_
      rintro e w1 ⟨rfl, hw1⟩
      obtain rfl : w = w1 := hw1.symm
      go_wp2_with fail
      refine (eo_eq HM h10 HO HOD).mono ?_
      rintro e w1 ⟨rfl, hb1⟩
      go_wp2_with fail
      go_ret2
      exact ⟨rfl, hb1⟩
    · have HG := hide hg
      have HOD := hide hod
      have e1 : Hu.fcB C os = true := by simp [Hu.fcB, hg, hn, hod]
      have e2 : Hu.fcI C os = Hu.costTo C os n := by simp [Hu.fcI, e1, hn]
      rw [e1, e2]
      have hmn : m = n := by rw [← hm]; exact (Od.ordB_iff.1 hod).1
      subst hmn
      have HCT := hide fun (k : Nat) (hk : k ≤ m) => fit9_bd hg (by rw [hn]; exact hod) k (by rw [hn]; exact hk)
      have HZ : Hid (Hu.costTo C os 0 = 0) := hide rfl
      have HSU := hide fun (k : Nat) => (show Hu.costTo C os (k + 1) = Hu.costTo C os k + Hu.ct C k (Od.nth os k) from rfl)
      have HCL := hide fun (i : Nat) (hi : i < m) => (Hu.costB_row hg (show i < C.length by rw [hn]; exact hi)).1.trans hn
      have HLT := hide fun (i : Nat) (hi : i < m) => Od.nth_lt hod hi
      have HCA := hide fun (i : Nat) (hi : i < m) => ord9_cast hod hi
      clear h ho hn hm hg e1 e2 hod hl
      go_enter Try.func11, Try.ntmps11
      go_wp2_with fail
      refine (gc_eq HN H HG).mono ?_
      rintro e w1 ⟨rfl, hw1⟩
      obtain rfl : w = w1 := hw1.symm
      go_wp2_with fail
      refine (eo_eq HM h10 HO HOD).mono ?_
      rintro e w1 ⟨rfl, hb1⟩
      have H1 := hide (H.out.below hb1)
      have HO1 := hide (HO.out.below hb1)
      have HB1 := hide hb1
      clear hb1 H HO
      go_wp2_with fail
      go_loop [6, 7, 8, 21] (fun s6 _ _ s => ∃ (k : Nat) (q : Int), s6 = .int .i64 q ∧ s = .int .i64 k ∧ k ≤ m ∧ Hid (q = Hu.costTo C os k)) (fun _ _ _ s => m - (intOf s).toNat)
      case atStart => exact ⟨0, 0, rfl, rfl, Nat.zero_le _, hide HZ.out.symm⟩
      case round =>
        obtain ⟨k, q, rfl, rfl, hk, HQ⟩ := hrel
        by_cases hlt : k < m
        · obtain ⟨b1, off, ai, ci, rfl, hb, r1, R1⟩ := H1.out.at (i := k) (by rw [HN.out]; exact hlt)
          obtain ⟨b2, off2, rfl, r2⟩ := HO1.out.at (i := k) (by rw [HM.out]; exact hlt)
          rw [HCA.out k hlt] at r2
          rw [HCL.out k hlt] at r1
          have hnl := HLT.out k hlt
          obtain ⟨b3, off3, rfl, r3⟩ := R1.at (i := Od.nth os k) (by rw [HCL.out k hlt]; exact hnl)
          have HQ1 : Hid (q + (C.getD k []).getD (Od.nth os k) 0 = Hu.costTo C os (k + 1)) := hide (by rw [HSU.out k, HQ.out]; rfl)
          have c1 := HCT.out k hk
          have c2 := HCT.out (k + 1) (by omega)
          rw [← HQ.out] at c1
          rw [← HQ1.out] at c2
          generalize (C.getD k []).getD (Od.nth os k) 0 = x at *
          generalize Od.nth os k = y at *
          have j0 : (0 : Int) ≤ (k : Int) := by omega
          have j1 : (k : Int) < (m : Int) := by omega
          have y0 : (0 : Int) ≤ (y : Int) := by omega
          have y1 : (y : Int) < (m : Int) := by omega
          clear R1
          go_wp2_with fail
          go_round
          case rel => exact ⟨k + 1, q + x, by go_num, by go_num, by omega, HQ1⟩
          case measure => simp only [intOf]; omega
        · have hke : k = m := by omega
          subst hke
          go_wp2_with fail
          go_ret2
          exact ⟨congrArg (fun z => Ending.returned (.tuple #[.int .i64 z, .bool true])) HQ.out, HB1.out⟩
set_option maxRecDepth 100000 in
set_option maxHeartbeats 4000000 in
theorem sfc_w {a b : Option Addr} {n m c d : Nat} {C : List (List Int)} {os : List Int} {w : World} (hn : C.length = n) (hm : os.length = m) (hn1 : n ≤ 1048576) (hd : m ≤ d) (h : CRow w a C) (ho : ARow w b os) :
    Calls Try.prog 16 #[.slice a n c, .slice b m d] w fun e w' => e = .returned (.tuple #[.int .i64 (Hu.fcI C os), .bool (Hu.fcB C os)]) ∧ w' = w := by
  have HN := hide hn
  have HM := hide hm
  have H := hide h
  have HO := hide ho
  cases hg : Hu.costB C
  · have HG := hide hg
    have e1 : Hu.fcB C os = false := by simp [Hu.fcB, hg]
    have e2 : Hu.fcI C os = 0 := by simp [Hu.fcI, e1]
    rw [e1, e2]
    clear h ho hn hm hg e1 e2
    go_enter Try.func16, Try.ntmps16
    go_wp2_with fail
    refine (sgc_eq HN hn1 H HG).mono ?_
    rintro e w1 ⟨rfl, hw1⟩
    obtain rfl : w = w1 := hw1.symm
    go_wp2_with fail
    go_ret2
    exact ⟨rfl, rfl⟩
  · have hl := Hu.costB_len hg
    rw [hn] at hl
    have h10 := hl.2
    cases hod : Od.ordB os n
    · have HG := hide hg
      have HOD := hide hod
      have e1 : Hu.fcB C os = false := by simp [Hu.fcB, hg, hn, hod]
      have e2 : Hu.fcI C os = 0 := by simp [Hu.fcI, e1]
      rw [e1, e2]
      clear h ho hn hm hg e1 e2 hod hl
      go_enter Try.func16, Try.ntmps16
      go_wp2_with fail
      refine (sgc_eq HN hn1 H HG).mono ?_
      rintro e w1 ⟨rfl, hw1⟩
      obtain rfl : w = w1 := hw1.symm
      go_wp2_with fail
      refine (seo_eq HM h10 hd HO HOD).mono ?_
      rintro e w1 ⟨rfl, hw1⟩
      obtain rfl : w = w1 := hw1.symm
      go_wp2_with fail
      go_ret2
      exact ⟨rfl, rfl⟩
    · have HG := hide hg
      have HOD := hide hod
      have e1 : Hu.fcB C os = true := by simp [Hu.fcB, hg, hn, hod]
      have e2 : Hu.fcI C os = Hu.costTo C os n := by simp [Hu.fcI, e1, hn]
      rw [e1, e2]
      have hmn : m = n := by rw [← hm]; exact (Od.ordB_iff.1 hod).1
      subst hmn
      have HCT := hide fun (k : Nat) (hk : k ≤ m) => fit9_bd hg (by rw [hn]; exact hod) k (by rw [hn]; exact hk)
      have HZ : Hid (Hu.costTo C os 0 = 0) := hide rfl
      have HSU := hide fun (k : Nat) => (show Hu.costTo C os (k + 1) = Hu.costTo C os k + Hu.ct C k (Od.nth os k) from rfl)
      have HCL := hide fun (i : Nat) (hi : i < m) => (Hu.costB_row hg (show i < C.length by rw [hn]; exact hi)).1.trans hn
      have HLT := hide fun (i : Nat) (hi : i < m) => Od.nth_lt hod hi
      have HCA := hide fun (i : Nat) (hi : i < m) => ord9_cast hod hi
      clear h ho hn hm hg e1 e2 hod hl
      go_enter Try.func16, Try.ntmps16
      go_wp2_with fail
      refine (sgc_eq HN hn1 H HG).mono ?_
      rintro e w1 ⟨rfl, hw1⟩
      obtain rfl : w = w1 := hw1.symm
      go_wp2_with fail
      refine (seo_eq HM h10 hd HO HOD).mono ?_
      rintro e w1 ⟨rfl, hw1⟩
      obtain rfl : w = w1 := hw1.symm
      go_wp2_with fail
      go_loop [6, 7, 8, 21] (fun s6 _ _ s => ∃ (k : Nat) (q : Int), s6 = .int .i64 q ∧ s = .int .i64 k ∧ k ≤ m ∧ Hid (q = Hu.costTo C os k)) (fun _ _ _ s => m - (intOf s).toNat)
      case atStart => exact ⟨0, 0, rfl, rfl, Nat.zero_le _, hide HZ.out.symm⟩
      case round =>
        obtain ⟨k, q, rfl, rfl, hk, HQ⟩ := hrel
        by_cases hlt : k < m
        · obtain ⟨b1, off, ai, ci, rfl, hb, r1, R1⟩ := H.out.at (i := k) (by rw [HN.out]; exact hlt)
          obtain ⟨b2, off2, rfl, r2⟩ := HO.out.at (i := k) (by rw [HM.out]; exact hlt)
          rw [HCA.out k hlt] at r2
          rw [HCL.out k hlt] at r1
          have hnl := HLT.out k hlt
          obtain ⟨b3, off3, rfl, r3⟩ := R1.at (i := Od.nth os k) (by rw [HCL.out k hlt]; exact hnl)
          have HQ1 : Hid (q + (C.getD k []).getD (Od.nth os k) 0 = Hu.costTo C os (k + 1)) := hide (by rw [HSU.out k, HQ.out]; rfl)
          have c1 := HCT.out k hk
          have c2 := HCT.out (k + 1) (by omega)
          rw [← HQ.out] at c1
          rw [← HQ1.out] at c2
          generalize (C.getD k []).getD (Od.nth os k) 0 = x at *
          generalize Od.nth os k = y at *
          have j0 : (0 : Int) ≤ (k : Int) := by omega
          have j1 : (k : Int) < (m : Int) := by omega
          have y0 : (0 : Int) ≤ (y : Int) := by omega
          have y1 : (y : Int) < (m : Int) := by omega
          clear R1
          go_wp2_with fail
          go_round
          case rel => exact ⟨k + 1, q + x, by go_num, by go_num, by omega, HQ1⟩
          case measure => simp only [intOf]; omega
        · have hke : k = m := by omega
          subst hke
          go_wp2_with fail
          go_ret2
          exact ⟨congrArg (fun z => Ending.returned (.tuple #[.int .i64 z, .bool true])) HQ.out, rfl⟩
end Go.Proofs.Ytkebaklmkidfoaa
namespace Go.Proofs.Ytkebaklmkidfoaa
open Go.RowKit

/-- Three lists that are read, the prices in a variable B. -/
structure Cf9 (w W : World) (B : Nat) (a0 a1 a2 : Option Addr) (c1 c2 N : Nat) (fs us vs : List Int) : Prop where
  r0 : ARow W a0 fs
  r1 : ARow W a1 us
  r2 : ARow W a2 vs
  box : PBox W B (.slice a1 N c1) (.slice a2 N c2)
  b : Below w.heap.size w W
theorem Cf9.below {w W W' : World} {B : Nat} {a0 a1 a2 : Option Addr} {c1 c2 N : Nat} {fs us vs : List Int} (h : Cf9 w W B a0 a1 a2 c1 c2 N fs us vs) (hb : Below W.heap.size W W') : Cf9 w W' B a0 a1 a2 c1 c2 N fs us vs :=
  ⟨h.r0.below hb, h.r1.below hb, h.r2.below hb, h.box.below hb, h.b.trans (hb.mono h.b.size)⟩
theorem cf_var {w w' : World} {v p q : Value} {N : Nat} {fs us vs : List Int} (h : CfW w w' v p q N fs us vs) (l0 : fs.length = N) (l1 : us.length = N) (l2 : vs.length = N) :
    ∃ a0 c0 a1 c1 a2 c2, v = .slice a0 N c0 ∧ p = .slice a1 N c1 ∧ q = .slice a2 N c2 ∧ N ≤ c0 ∧ Cf9 w (w'.alloc (.cells #[.slice a1 N c1, .slice a2 N c2] 27)) w'.heap.size a0 a1 a2 c1 c2 N fs us vs := by
  obtain ⟨a0, c0, rfl, h0, r0⟩ := own_cap l0 h.o0
  obtain ⟨a1, c1, rfl, _, r1⟩ := own_cap l1 h.o1
  obtain ⟨a2, c2, rfl, _, r2⟩ := own_cap l2 h.o2
  have hb := below_new w' (.cells #[.slice a1 N c1, .slice a2 N c2] 27)
  exact ⟨a0, c0, a1, c1, a2, c2, rfl, rfl, rfl, h0, r0.below hb, r1.below hb, r2.below hb, PBox.new _ _ _ _, h.b.trans (hb.mono h.b.size)⟩
theorem tight_len (C : List (List Int)) (us vs : List Int) : (Hu.tightL C us vs).length = C.length := by simp [Hu.tightL]
theorem tight_at {C : List (List Int)} {us vs : List Int} {i b : Nat} (hi : i < C.length) (hb : b < C.length) : ((Hu.tightL C us vs).getD i []).length = C.length ∧ ((Hu.tightL C us vs).getD i []).getD b false = Hu.tightAt C us vs i b := by
  have e : (Hu.tightL C us vs).getD i [] = Hu.tightR C us vs i := by simp [Hu.tightL, hi]
  rw [e]
  exact ⟨by simp [Hu.tightR], by simp [Hu.tightR, hb]⟩
theorem cfN_yes {C : List (List Int)} (h : Hu.costB C = true) : cfN C = C.length := by unfold cfN; rw [if_pos h]
/-- What holds of the cheapest fit. -/
theorem ft_facts {C : List (List Int)} (h : Hu.costB C = true) : Hu.fcB C (cfA C) = true ∧ Hu.prB (cfB C) (cfC C) = true ∧ Hu.bothB C (cfB C) (cfC C) = true ∧ Hu.phI C (cfB C) (cfC C) = true ∧ Hu.fcI C (cfA C) = Hu.psI (cfB C) (cfC C) := by
  refine ⟨Hu.cf_fit h, Hu.cf_pr h, Hu.cf_prices h, ?_, Hu.cf_cost h⟩
  unfold Hu.phI
  rw [show Hu.bothB C (cfB C) (cfC C) = true from Hu.cf_prices h, show Hu.holdB C (cfB C) (cfC C) = true from Hu.cf_hold h]; rfl
theorem ft_tight {C : List (List Int)} (h : Hu.costB C = true) {i : Nat} (hi : i < C.length) : ∃ b : Nat, (cfA C).getD i 0 = (b : Int) ∧ b < C.length ∧ (Hu.taL C (cfB C) (cfC C)).length = C.length ∧ ((Hu.taL C (cfB C) (cfC C)).getD i []).length = C.length ∧ ((Hu.taL C (cfB C) (cfC C)).getD i []).getD b false = true := by
  have ho : Od.ordB (cfA C) C.length = true := by
    have := Hu.cf_fit h
    simp only [Hu.fcB, Bool.and_eq_true] at this; exact this.2
  have et : Hu.taL C (cfB C) (cfC C) = Hu.tightL C (cfB C) (cfC C) := by unfold Hu.taL; rw [if_pos (show Hu.bothB C (cfB C) (cfC C) = true from Hu.cf_prices h)]
  have hb := Od.nth_lt ho hi
  obtain ⟨t1, t2⟩ := tight_at (us := cfB C) (vs := cfC C) hi hb
  rw [et]
  exact ⟨Od.nth (cfA C) i, Od.nth_cast ho hi, hb, tight_len _ _ _, t1, t2.trans (Hu.cf_tight h hi)⟩
theorem ft_weak {C : List (List Int)} {os : List Int} (h : Hu.fcB C os = true) : Hu.costB C = true ∧ Hu.prB (cfB C) (cfC C) = true ∧ Hu.psI (cfB C) (cfC C) ≤ Hu.fcI C os := by
  have hc : Hu.costB C = true := by simp only [Hu.fcB, Bool.and_eq_true] at h; exact h.1
  exact ⟨hc, Hu.cf_pr hc, Hu.cf_least h⟩
end Go.Proofs.Ytkebaklmkidfoaa
namespace Go.Proofs.Ytkebaklmkidfoaa
open Go.RowKit

def PHPost (w : World) (e : Ending) (w' : World) : Prop := ∃ ao co ap cp aq cq, ∃ (C : List (List Int)) (us vs : List Int), e = .returned (.tuple #[.slice ao C.length co, .agg #[.slice ap us.length cp, .slice aq vs.length cq]]) ∧ C.length ≤ 11 ∧ us.length ≤ 11 ∧ vs.length ≤ 11 ∧ CRow w' ao C ∧ ARow w' ap us ∧ ARow w' aq vs ∧ Below w.heap.size w w'
theorem ph_post {w w' : World} {ao ap aq : Option Addr} {co cp cq n N M : Nat} {C : List (List Int)} {us vs : List Int} (hn : C.length = n) (hN : us.length = N) (hM : vs.length = M) (h1 : n ≤ 11) (h2 : N ≤ 11) (h3 : M ≤ 11) (h : CRow w' ao C ∧ ARow w' ap us ∧ ARow w' aq vs ∧ Below w.heap.size w w') :
    PHPost w (.returned (.tuple #[.slice ao n co, .agg #[.slice ap N cp, .slice aq M cq]])) w' := by
  subst hn; subst hN; subst hM
  exact ⟨ao, co, ap, cp, aq, cq, C, us, vs, rfl, h1, h2, h3, h.1, h.2.1, h.2.2.1, h.2.2.2⟩
theorem ph_fin {w w0 W : World} {o : Obj} {ao a1 a2 : Option Addr} {n co N M c1 c2 b1 R : Nat} {gs : List (Nat × Nat)} {C : List (List Int)} {us vs : List Int} (hR : R = w.heap.size) (hb0 : Below w.heap.size w w0) (hs0 : w0.heap.size = w.heap.size + 1) (hk : Kp w0.heap.size (w0.alloc o) W) (hF : NOw9 W (w0.alloc o).heap.size n n (.slice ao n co) gs C)
    (l1 : us.length = N) (l2 : vs.length = M) (o1 : W.ownsRow b1 3 1 (.slice a1 N c1) N (ints us)) (o2 : W.ownsRow b1 3 1 (.slice a2 M c2) M (ints vs)) (hb1 : R < b1) (x y : Value) :
    CRow ((W.setCell ⟨R, 0, none⟩ x).setCell ⟨R, 1, none⟩ y).drew ao C ∧ ARow ((W.setCell ⟨R, 0, none⟩ x).setCell ⟨R, 1, none⟩ y).drew a1 us ∧ ARow ((W.setCell ⟨R, 0, none⟩ x).setCell ⟨R, 1, none⟩ y).drew a2 vs ∧ Below w.heap.size w ((W.setCell ⟨R, 0, none⟩ x).setCell ⟨R, 1, none⟩ y).drew := by
  subst hR
  have kS : Kp w.heap.size W ((W.setCell ⟨w.heap.size, 0, none⟩ x).setCell ⟨w.heap.size, 1, none⟩ y) := ((Kp.refl _ W).setCell 0 x).setCell 1 y
  have kR : Kp w.heap.size W ((W.setCell ⟨w.heap.size, 0, none⟩ x).setCell ⟨w.heap.size, 1, none⟩ y).drew := ⟨kS.os, kS.tape, kS.output, kS.size, kS.block⟩
  obtain ⟨ao', co', e1, hr⟩ := (hF.kp kR (by simp; omega)).any
  cases e1
  obtain ⟨_, _, e2, _, r1⟩ := own_cap l1 (own_kp o1 kR hb1)
  cases e2
  obtain ⟨_, _, e3, _, r2⟩ := own_cap l2 (own_kp o2 kR hb1)
  cases e3
  have hsz := hk.size
  rw [World.size_alloc] at hsz
  refine ⟨hr, r1, r2, ?_⟩
  refine hb0.trans (((Below.refl w.heap.size w0).alloc (by omega) o).trans ((hk.below (by omega) (by simp; omega)).trans (kR.below (Nat.le_refl _) (by omega))))
theorem us_bd (C : List (List Int)) {i : Nat} (hi : i < (cfB C).length) : 0 ≤ (cfB C).getD i 0 ∧ (cfB C).getD i 0 ≤ 100 := by
  cases hg : Hu.costB C
  · have : cfB C = [] := by unfold cfB; simp [hg]
    rw [this] at hi; simp at hi
  · exact Pf.inB_yes (Pf.allB_get (Hu.cf_bd hg).1 hi)
theorem own_ne9 {w w' : World} {base e s n g : Nat} {v : Value} {xs : List Value} (h : w.ownsRow base e s v n xs) (hg : w.grownBy w' (some g)) (hne : v.ownBlock ≠ some g) : w'.ownsRow base e s v n xs :=
  h.kept hg (Or.inr hne)
theorem kp_drew {c : Nat} {a b : World} (h : Kp c a.drew b) : Kp c a b := ⟨h.os, h.tape, h.output, h.size, h.block⟩
theorem kp_lit {c : Nat} {a b : World} (h : Kp c (a.alloc (.cells #[.int .i64 1, .int .i64 (-1), .int .i64 100000] 3)) b) : Kp c a b := ((Kp.refl c a).alloc _).trans h
theorem lit_new (w : World) {c : Nat} (hc : c < w.heap.size) : w.heap.size < (w.alloc (.cells #[.int .i64 1, .int .i64 (-1), .int .i64 100000] 3)).heap.size ∧ w.heap.size ≠ c ∧ ∀ i, i < 3 → ∃ z : Int, (w.alloc (.cells #[.int .i64 1, .int .i64 (-1), .int .i64 100000] 3)).cell? ⟨w.heap.size, i, none⟩ = some (.int .i64 z) ∧ -1 ≤ z ∧ z ≤ 100000 :=
  ⟨by simp, by omega, three_cells w 3 (by omega) (by omega) (by omega)⟩
theorem lit_old {w w5 : World} {c : Nat} (hk : Kp c (w.drew.alloc (.cells #[.int .i64 1, .int .i64 (-1), .int .i64 100000] 3)) w5) (hc : c < w.heap.size) : w.heap.size < w5.heap.size ∧ w.heap.size ≠ c ∧ ∀ i, i < 3 → ∃ z : Int, w5.cell? ⟨w.heap.size, i, none⟩ = some (.int .i64 z) ∧ -1 ≤ z ∧ z ≤ 100000 := by
  obtain ⟨h1, h2, h3⟩ := lit_new w.drew (c := c) hc
  refine ⟨Nat.lt_of_lt_of_le h1 hk.size, h2, fun i hi => ?_⟩
  obtain ⟨z, hz, hz2⟩ := h3 i hi
  exact ⟨z, (hk.cell h1 h2).trans hz, hz2⟩
set_option maxRecDepth 100000 in
set_option maxHeartbeats 8000000 in
theorem drawPH_any {a : Option Addr} {len cap : Nat} {w : World} (hs : Hid (Src w a len)) :
    Calls Try.prog 17 #[.slice a len cap] w (PHPost w) := by
  have bn0 := below_new w (.cells #[.slice none 0 0, .slice none 0 0] 27)
  have r0 : (w.alloc (.cells #[.slice none 0 0, .slice none 0 0] 27)).cell? ⟨w.heap.size, 0, none⟩ = some (.slice none 0 0) := by simp
  have r1 : (w.alloc (.cells #[.slice none 0 0, .slice none 0 0] 27)).cell? ⟨w.heap.size, 1, none⟩ = some (.slice none 0 0) := by simp
  have r2 : (w.alloc (.cells #[.slice none 0 0, .slice none 0 0] 27)).frozen? ⟨w.heap.size, 0, none⟩ = false := by simp
  have r3 : (w.alloc (.cells #[.slice none 0 0, .slice none 0 0] 27)).frozen? ⟨w.heap.size, 1, none⟩ = false := by simp
  have hs0 : (w.alloc (.cells #[.slice none 0 0, .slice none 0 0] 27)).heap.size = w.heap.size + 1 := World.size_alloc _ _
  have hsr := hs.out.below bn0
  obtain ⟨w0, hw0⟩ : ∃ w0, w0 = w.alloc (.cells #[.slice none 0 0, .slice none 0 0] 27) := ⟨_, rfl⟩
  rw [← hw0] at bn0 r0 r1 r2 r3 hs0 hsr
  have HW0 := hide hw0.symm
  have HB0 := hide bn0
  have HS0 := hide hs0
  have HC := hide (cur_new (cap := cap) hsr)
  have hR0 : w.heap.size < w0.heap.size := by omega
  obtain ⟨R, hR⟩ : ∃ R, R = w.heap.size := ⟨_, rfl⟩
  have HR := hide hR
  clear bn0 hw0 hs0 hsr
  go_enter Try.func17, Try.ntmps17
  go_upto_region 1 with fail
  rw [HW0.out, ← hR]
  rw [← hR] at r0 r1 r2 r3 hR0
  clear HW0 hR
  go_wp2_with fail
  refine (costs_any HC.out (by omega)).mono ?_
  rintro e w1 ⟨v, n, gs, C, rfl, hl, hF, hc1, hk1⟩
  obtain ⟨ao, co, rfl, hr⟩ := hF.any
  have HF1 := hide hF
  have HC1 := hide hc1
  have HK1 := hide hk1
  have HCL := hide hF.2.1
  have hs1 := hk1.size
  rw [World.size_alloc] at hs1
  have HCS := hide (scf_w (ce := co) HCL (by omega) (hide hr))
  have HUB := hide fun (i : Nat) (hi : i < (cfB C).length) => us_bd C hi
  have HLB := hide (cfB_len C)
  have HLC := hide (cfC_len C)
  have hN11 : cfN C ≤ 11 := by unfold cfN; split <;> (have := HCL.out; omega)
  generalize Hu.costB C = G at HCS
  generalize cfA C = fs at *
  generalize cfB C = us at *
  generalize cfC C = vs at *
  generalize cfN C = N at *
  have hRc : R ≠ w0.heap.size := by omega
  have s0 := (hk1.cell (o := 0) (by rw [World.size_alloc]; omega) hRc).trans (((below_new w0 (.cells #[.slice a len cap, .int .i64 0, .int .u64 0] 70)).cell (p := ⟨R, 0, none⟩) hR0).trans r0)
  have s1 := (hk1.cell (o := 1) (by rw [World.size_alloc]; omega) hRc).trans (((below_new w0 (.cells #[.slice a len cap, .int .i64 0, .int .u64 0] 70)).cell (p := ⟨R, 1, none⟩) hR0).trans r1)
  have s2 := (hk1.frozen (o := 0) (by rw [World.size_alloc]; omega) hRc).trans (((below_new w0 (.cells #[.slice a len cap, .int .i64 0, .int .u64 0] 70)).frozen (p := ⟨R, 0, none⟩) hR0).trans r2)
  have s3 := (hk1.frozen (o := 1) (by rw [World.size_alloc]; omega) hRc).trans (((below_new w0 (.cells #[.slice a len cap, .int .i64 0, .int .u64 0] 70)).frozen (p := ⟨R, 1, none⟩) hR0).trans r3)
  have hR1 : R < w1.heap.size := by omega
  have hc01 : w0.heap.size < w1.heap.size := by omega
  clear hF hr hc1 hk1 HC r0 r1 r2 r3
  go_wp2_with fail
  refine HCS.out.mono ?_
  rintro e w2 ⟨v0, p, q, rfl, hO⟩
  obtain ⟨a1, c1, rfl, hc1, _⟩ := own_cap HLB.out hO.o1
  obtain ⟨a2, c2, rfl, _, _⟩ := own_cap HLC.out hO.o2
  have hb2 := hO.b
  have bZ := below_new w2 (.cells #[.slice a1 N c1, .slice a2 N c2] 27)
  have bw := hb2.trans (bZ.mono hb2.size)
  have hbx := PBox.new w2 (.slice a1 N c1) (.slice a2 N c2) 27
  have oA := g_own hO.o1 bZ
  have oB := g_own hO.o2 bZ
  have hd12 := hO.d12
  obtain ⟨WP, hWP⟩ : ∃ W, W = w2.alloc (.cells #[.slice a1 N c1, .slice a2 N c2] 27) := ⟨_, rfl⟩
  have hPs : w2.heap.size < WP.heap.size := by rw [hWP]; simp
  rw [← hWP] at bw hbx oA oB
  obtain ⟨P, hP⟩ : ∃ P, P = w2.heap.size := ⟨_, rfl⟩
  have hP1 : w1.heap.size ≤ P := by rw [hP]; exact hb2.size
  have hgP : ∀ g, a1 = some ⟨g, 0, none⟩ → g ≠ P := fun g e h => by
    subst e
    have := (hO.o1.lt g rfl).2
    omega
  rw [← hP] at hbx hPs
  have HWP := hide hWP.symm
  have HP := hide hP.symm
  have s0 := (bw.cell (p := ⟨R, 0, none⟩) hR1).trans s0
  have s1 := (bw.cell (p := ⟨R, 1, none⟩) hR1).trans s1
  have s2 := (bw.frozen (p := ⟨R, 0, none⟩) hR1).trans s2
  have s3 := (bw.frozen (p := ⟨R, 1, none⟩) hR1).trans s3
  have p0 := hbx.1
  have p1 := hbx.2.1
  have HKP := hide (HK1.out.trans (Kp.of_below bw))
  have HFW : Hid (∀ W, Kp w0.heap.size w1 W → NOw9 W (w0.alloc (.cells #[.slice a len cap, .int .i64 0, .int .u64 0] 70)).heap.size n n (.slice ao n co) gs C) := hide fun W hW => HF1.out.kp hW (by simp)
  have HKWP : Hid (Kp w0.heap.size w1 WP) := hide (Kp.of_below bw)
  have HCP := hide (HC1.out.below bw)
  have HOA := hide oA
  have HOB := hide oB
  have hWs := bw.size
  have hRP : P ≠ R := by omega
  clear hO hb2 bZ bw hbx oA oB HF1 HC1 HK1 HCS hWP hP
  go_upto_region 4 with fail
  rw [HWP.out, HP.out]
  clear HWP HP
  by_cases h0 : N = 0
  · have z1 : ¬ (0 : Int) < (N : Int) := by omega
    have HEND := hide fun (x y : Value) => ph_fin HR.out HB0.out HS0.out HKP.out (HFW.out _ HKWP.out) HLB.out HLC.out HOA.out HOB.out hR1 x y
    clear h0 HKP HFW HKWP HCP HOA HOB
    go_wp2_with fail
    go_region
    all_goals
      go_wp2_with fail
      exact bodyPost_ret (v := .tuple #[.slice ao n co, .agg #[.slice a1 N c1, .slice a2 N c2]]) (by simp [results, Try.results17, go_sem, *]) rfl (ph_post HCL.out HLB.out HLC.out hl hN11 hN11 (HEND.out _ _))
  · obtain ⟨g, cc, e1, hg0, hg1⟩ := own_some HOA.out h0
    cases e1
    have z1 : (0 : Int) < (N : Int) := by omega
    go_wp2_with fail
    refine (one_any 2 (by omega) HCP.out (by omega)).mono ?_
    rintro e w4 ⟨r4, rfl, hc4, hk4⟩
    have hPc : P ≠ w0.heap.size := by omega
    have s0 := (hk4.cell (o := 0) (by omega) hRc).trans s0
    have s1 := (hk4.cell (o := 1) (by omega) hRc).trans s1
    have s2 := (hk4.frozen (o := 0) (by omega) hRc).trans s2
    have s3 := (hk4.frozen (o := 1) (by omega) hRc).trans s3
    have p0 := (hk4.cell (o := 0) (by omega) hPc).trans p0
    have p1 := (hk4.cell (o := 1) (by omega) hPc).trans p1
    have HK4 := hide (HKP.out.trans hk4)
    have HKW4 := hide (HKWP.out.trans hk4)
    have HC4 := hide hc4
    have HOA4 := hide (own_kp HOA.out hk4 hc01)
    have HOB4 := hide (own_kp HOB.out hk4 hc01)
    have hs4 := hk4.size
    have hdq : (Value.slice a2 N c2).ownBlock ≠ some g := hd12 g rfl
    clear hc4 hk4 HKP HKWP HCP HOA HOB hd12
    cases r4
    · have HEND := hide fun (x y : Value) => ph_fin HR.out HB0.out HS0.out HK4.out (HFW.out _ HKW4.out) HLB.out HLC.out HOA4.out HOB4.out hR1 x y
      clear HK4 HFW HKW4 HC4 HOA4 HOB4
      go_wp2_with fail
      go_region
      all_goals
        go_wp2_with fail
        exact bodyPost_ret (v := .tuple #[.slice ao n co, .agg #[.slice (some ⟨g, 0, none⟩) N c1, .slice a2 N c2]]) (by simp [results, Try.results17, go_sem, *]) rfl (ph_post HCL.out HLB.out HLC.out hl hN11 hN11 (HEND.out _ _))
    · have hP4 : P < w4.heap.size := by omega
      have hgc : g ≠ w0.heap.size := by omega
      have hgP' : g ≠ P := hgP g rfl
      have hgR : g ≠ R := by omega
      have hg4 : g < w4.heap.size := by omega
      have HCX : Hid (Cur w4.drew w0.heap.size a len cap (0 + 500 + 2)) := hide (HC4.out.blocks (w' := w4.drew) (Nat.le_refl _) rfl (fun _ _ _ _ => rfl))
      have HCY : Hid (Cur (w4.drew.alloc (.cells #[.int .i64 1, .int .i64 (-1), .int .i64 100000] 3)) w0.heap.size a len cap (0 + 500 + 2)) := hide (HCX.out.below (below_alloc _ _))
      have pA : ∀ o, (w4.drew.alloc o).cell? ⟨P, 0, none⟩ = some (.slice (some ⟨g, 0, none⟩) N c1) := fun o => ((below_alloc w4.drew o).cell (p := ⟨P, 0, none⟩) hP4).trans p0
      have hc4' : w0.heap.size < w4.heap.size := by omega
      have hR4 : R < w4.heap.size := by omega
      go_upto_region 5 with fail
      refine wp_region_noPanic ?_
      refine wp_region_held_drew (S := fun w' => w'.cell? ⟨P, 0, none⟩ = some (.slice (some ⟨g, 0, none⟩) N c1)) (by kernel_rfl) p0 (fun hHeld => ?_)
      refine wpAnyH_take (i := 0) (oi := ⟨some 28, _, _, _, _, none⟩) (v := .pointer (some ⟨P, 0, none⟩)) rfl (by kernel_rfl) (by kernel_rfl) (by kernel_rfl) (fun _ _ _ h => h) (Or.inl ⟨by rfl, fun w' hSw => by clear hSw; go_simp⟩) hHeld ?_
      simp only [Act.put, List.setIfInBounds_toArray, List.set_cons_zero, List.set_cons_succ]
      refine wpAnyH_take (i := 1) (oi := ⟨some 29, _, _, _, _, none⟩) (v := .slice (some ⟨g, 0, none⟩) N c1) rfl (by kernel_rfl) (by kernel_rfl) (by kernel_rfl) (fun _ _ _ h => h) (Or.inl ⟨by rfl, fun w' hSw => by have hS1 : w'.cell? ⟨P, 0, none⟩ = some (.slice (some ⟨g, 0, none⟩) N c1) := hSw; clear hSw; go_simp⟩) hHeld ?_
      simp only [Act.put, List.setIfInBounds_toArray, List.set_cons_zero, List.set_cons_succ]
      refine wpAnyH_take (i := 2) (oi := ⟨some 30, _, _, _, _, none⟩) (v := .pointer (some ⟨w0.heap.size, 0, none⟩)) rfl (by kernel_rfl) (by kernel_rfl) (by kernel_rfl) (fun _ _ _ h => h) (Or.inl ⟨by rfl, fun w' hSw => by clear hSw; go_simp⟩) hHeld ?_
      simp only [Act.put, List.setIfInBounds_toArray, List.set_cons_zero, List.set_cons_succ]
      refine wpAnyH_take (i := 3) (oi := ⟨some 31, _, _, _, _, none⟩) (v := .pointer (some ⟨P, 0, none⟩)) rfl (by kernel_rfl) (by kernel_rfl) (by kernel_rfl) (fun _ _ _ h => h) (Or.inl ⟨by rfl, fun w' hSw => by clear hSw; go_simp⟩) hHeld ?_
      simp only [Act.put, List.setIfInBounds_toArray, List.set_cons_zero, List.set_cons_succ]
      refine wpAnyH_take (i := 4) (oi := ⟨some 32, _, _, _, _, none⟩) (v := .slice (some ⟨g, 0, none⟩) N c1) rfl (by kernel_rfl) (by kernel_rfl) (by kernel_rfl) (fun _ _ _ h => h) (Or.inl ⟨by rfl, fun w' hSw => by have hS1 : w'.cell? ⟨P, 0, none⟩ = some (.slice (some ⟨g, 0, none⟩) N c1) := hSw; clear hSw; go_simp⟩) hHeld ?_
      simp only [Act.put, List.setIfInBounds_toArray, List.set_cons_zero, List.set_cons_succ]
      refine wpAnyH_take (i := 5) (oi := ⟨some 33, _, _, _, _, none⟩) (v := .int .i64 (N : Int)) rfl (by kernel_rfl) (by kernel_rfl) (by kernel_rfl) (fun _ _ _ h => h) (Or.inl ⟨by rfl, fun w' hSw => by clear hSw; go_simp⟩) hHeld ?_
      simp only [Act.put, List.setIfInBounds_toArray, List.set_cons_zero, List.set_cons_succ]
      refine wpAnyH_take (i := 9) (oi := ⟨some 37, _, _, _, _, none⟩) (v := .pointer (some ⟨w0.heap.size, 0, none⟩)) rfl (by kernel_rfl) (by kernel_rfl) (by kernel_rfl) (fun _ _ _ h => h) (Or.inl ⟨by rfl, fun w' hSw => by clear hSw; go_simp⟩) hHeld ?_
      simp only [Act.put, List.setIfInBounds_toArray, List.set_cons_zero, List.set_cons_succ]
      refine wpAnyH_ready (rs := [6, 10]) (by kernel_rfl) (by simp) ?_
      refine AllReadyH.cons (o := ⟨some 34, _, _, _, _, none⟩) rfl (fun K hK => ?_) (AllReadyH.cons (o := ⟨some 38, _, _, _, _, none⟩) rfl (fun K hK => ?_) AllReadyH.nil)
      · go_simp
        refine (pick_any (N : Int) (by omega) HCX.out (by omega)).mono ?_
        rintro e w5 ⟨r5, rfl, q0, q1, hc5, hk5⟩
        obtain ⟨k, rfl⟩ := Int.eq_ofNat_of_zero_le q0
        have hkN : k < N := by omega
        have hk5' : Kp w0.heap.size w4 w5 := kp_drew hk5
        have p5 := (hk5'.cell (o := 0) hP4 hPc).trans p0
        have hs5 := hk5'.size
        have hP5 : P < w5.heap.size := by omega
        have hg5 : g < w5.heap.size := by omega
        have hc5' : w0.heap.size < w5.heap.size := by omega
        have p5A : ∀ o, (w5.alloc o).cell? ⟨P, 0, none⟩ = some (.slice (some ⟨g, 0, none⟩) N c1) := fun o => ((below_alloc w5 o).cell (p := ⟨P, 0, none⟩) hP5).trans p5
        have own5 := own_kp HOA4.out hk5' hc01
        have k0 : (0 : Int) ≤ (k : Int) := by omega
        have k1 : (k : Int) < (N : Int) := by omega
        obtain ⟨x, hx⟩ : ∃ x, x = us.getD k 0 := ⟨_, rfl⟩
        have hub := HUB.out k (by have := HLB.out; omega)
        rw [← hx] at hub
        have c5 : w5.cell? ⟨g, k, none⟩ = some (.int .i64 x) := by rw [own5.cellAt k (by omega), ints_get _ k (by have := HLB.out; omega), hx]
        have c5A : ∀ o, (w5.alloc o).cell? ⟨g, k, none⟩ = some (.int .i64 x) := fun o => ((below_alloc w5 o).cell (p := ⟨g, k, none⟩) hg5).trans c5
        have HX := hide hx
        have HC5 := hide hc5
        have HK5 := hide hk5'
        have HO5 := hide own5
        clear hc5 hk5 hk5' own5 hx
        refine hK.out _ _ p5 (fun hHeld => ?_)
        clear hK K
        refine wpAnyH_take (i := 7) (oi := ⟨some 35, _, _, _, _, none⟩) (v := .pointer (some ⟨g, k, none⟩)) rfl (by kernel_rfl) (by kernel_rfl) (by kernel_rfl) (fun _ _ _ h => h) (Or.inl ⟨by rfl, fun w' hSw => by clear hSw; go_simp⟩) hHeld ?_
        simp only [Act.put, List.setIfInBounds_toArray, List.set_cons_zero, List.set_cons_succ]
        refine wpAnyH_ready (rs := [8, 10]) (by kernel_rfl) (by simp) ?_
        refine AllReadyH.cons (o := ⟨some 36, _, _, _, _, none⟩) rfl (fun K hK => ?_) (AllReadyH.cons (o := ⟨some 38, _, _, _, _, none⟩) rfl (fun K hK => ?_) AllReadyH.nil)
        · go_simp
          refine hK.out _ _ p5 (fun hHeld => ?_)
          clear hK K
          refine wpAnyH_ready (rs := [10]) (by kernel_rfl) (by simp) ?_
          refine AllReadyH.cons (o := ⟨some 38, _, _, _, _, none⟩) rfl (fun K hK => ?_) AllReadyH.nil
          · go_simp
            refine hK.out _ _ (p5A _) (fun hHeld => ?_)
            clear hK K
            refine wpAnyH_ready (rs := [11]) (by kernel_rfl) (by simp) ?_
            refine AllReadyH.cons (o := ⟨some 39, _, _, _, _, none⟩) rfl (fun K hK => ?_) AllReadyH.nil
            · go_simp
              refine (amongB_any (lo := -1) (hi := 100000) (HC5.out.below (below_alloc w5 _)) (by omega) (by omega) (by omega) (lit_new w5 hc5').1 (lit_new w5 hc5').2.1 (lit_new w5 hc5').2.2).mono ?_
              rintro e w6 ⟨z, rfl, z0, z1', hc6, hk6⟩
              have hk6' : Kp w0.heap.size w5 w6 := kp_lit hk6
              have p6 := (hk6'.cell (o := 0) hP5 hPc).trans p5
              have own6 := own_kp HO5.out hk6' hc01
              have c6 : w6.cell? ⟨g, k, none⟩ = some (.int .i64 x) := by rw [own6.cellAt k (by omega), ints_get _ k (by have := HLB.out; omega), HX.out]
              have f6 := own6.frozenAt k
              have e1 : IntKind.i64.wrap (x + z) = x + z := by rw [IntKind.wrap_i64]; omega
              have e2 : wrap64 (x + z) = x + z := wrap_id' _ (by omega) (by omega)
              have HK6 := hide hk6'
              have HO6 := hide own6
              clear hc6 hk6 hk6' own6
              refine hK.out _ _ p6 (fun hHeld => ?_)
              clear hK K
              refine wpAnyH_take (i := 12) (oi := ⟨some 40, _, _, _, _, none⟩) (v := .int .i64 (x + z)) rfl (by kernel_rfl) (by kernel_rfl) (by kernel_rfl) (fun _ _ _ h => h) (Or.inl ⟨by rfl, fun w' hSw => by clear hSw; go_simp⟩) hHeld ?_
              simp only [Act.put, List.setIfInBounds_toArray, List.set_cons_zero, List.set_cons_succ]
              refine wpAnyH_take (i := 13) (oi := ⟨some 41, _, _, _, _, none⟩) (v := .pointer (some ⟨g, k, none⟩)) rfl (by kernel_rfl) (by kernel_rfl) (by kernel_rfl) (fun _ _ _ h => h) (Or.inl ⟨by rfl, fun w' hSw => by clear hSw; go_simp⟩) hHeld ?_
              simp only [Act.put, List.setIfInBounds_toArray, List.set_cons_zero, List.set_cons_succ]
              refine wpAnyH_ready (rs := [14]) (by kernel_rfl) (by simp) ?_
              refine AllReadyH.cons (o := ⟨none, _, _, _, _, none⟩) rfl (fun K hK => ?_) AllReadyH.nil
              go_simp
              refine hK.out _ _ ((set_ne9 hgP').trans p6) (fun hHeld => ?_)
              clear hK K
              refine wpAnyH_done (by kernel_rfl) ?_ _
              refine NoPanic.normal ?_
              clear hHeld
              obtain ⟨st1, st2⟩ := HO6.out.stored k (.int .i64 (x + z))
              rw [ints_set] at st1
              have hbase : (w0.alloc (.cells #[.slice a len cap, .int .i64 0, .int .u64 0] 70)).heap.size ≤ g := by rw [World.size_alloc]; omega
              have hK46 := HK5.out.trans HK6.out
              have HK7 := kp_set (o := k) (v := .int .i64 (x + z)) (HK4.out.trans hK46) hbase
              have HKW7 := kp_set (o := k) (v := .int .i64 (x + z)) (HKW4.out.trans hK46) hg0
              have HOB6 := own_kp HOB4.out hK46 hc01
              have HEND := hide fun (x' y' : Value) => ph_fin HR.out HB0.out HS0.out HK7 (HFW.out _ HKW7) (by rw [List.length_set]; exact HLB.out) HLC.out st1 (own_ne9 HOB6 st2 hdq) hR1 x' y'
              have s0 := (set_ne9 (o := k) (i := 0) (u := .int .i64 (x + z)) hgR).trans ((hK46.cell (o := 0) hR4 hRc).trans s0)
              have s1 := (set_ne9 (o := k) (i := 1) (u := .int .i64 (x + z)) hgR).trans ((hK46.cell (o := 1) hR4 hRc).trans s1)
              have s2 : (w6.setCell ⟨g, k, none⟩ (.int .i64 (x + z))).frozen? ⟨R, 0, none⟩ = false := by rw [World.frozen?_setCell]; exact (hK46.frozen (o := 0) hR4 hRc).trans s2
              have s3 : (w6.setCell ⟨g, k, none⟩ (.int .i64 (x + z))).frozen? ⟨R, 1, none⟩ = false := by rw [World.frozen?_setCell]; exact (hK46.frozen (o := 1) hR4 hRc).trans s3
              have p0 := (set_ne9 (o := k) (i := 0) (u := .int .i64 (x + z)) hgP').trans p6
              have p1 := (set_ne9 (o := k) (i := 1) (u := .int .i64 (x + z)) hgP').trans ((hK46.cell (o := 1) hP4 hPc).trans p1)
              have HL6 : Hid ((us.set k (x + z)).length = N) := hide (by rw [List.length_set]; exact HLB.out)
              clear st1 st2 hK46 HK7 HKW7 HOB6 hbase f6 c6 e1 e2 p5 p6 p5A c5 c5A pA HC5 HK5 HO5 HK6 HO6 HFW
              generalize w6.setCell ⟨g, k, none⟩ (.int .i64 (x + z)) = W7 at *
              go_wp2_with fail
              go_region
              all_goals
                go_wp2_with fail
                exact bodyPost_ret (v := .tuple #[.slice ao n co, .agg #[.slice (some ⟨g, 0, none⟩) N c1, .slice a2 N c2]]) (by simp [results, Try.results17, go_sem, *]) rfl (ph_post HCL.out HL6.out HLC.out hl hN11 hN11 (HEND.out _ _))
        · go_simp
          refine hK.out _ _ (p5A _) (fun hHeld => ?_)
          clear hK K
          refine wpAnyH_ready (rs := [8, 11]) (by kernel_rfl) (by simp) ?_
          refine AllReadyH.cons (o := ⟨some 36, _, _, _, _, none⟩) rfl (fun K hK => ?_) (AllReadyH.cons (o := ⟨some 39, _, _, _, _, none⟩) rfl (fun K hK => ?_) AllReadyH.nil)
          · go_simp
            refine hK.out _ _ (p5A _) (fun hHeld => ?_)
            clear hK K
            refine wpAnyH_ready (rs := [11]) (by kernel_rfl) (by simp) ?_
            refine AllReadyH.cons (o := ⟨some 39, _, _, _, _, none⟩) rfl (fun K hK => ?_) AllReadyH.nil
            · go_simp
              refine (amongB_any (lo := -1) (hi := 100000) (HC5.out.below (below_alloc w5 _)) (by omega) (by omega) (by omega) (lit_new w5 hc5').1 (lit_new w5 hc5').2.1 (lit_new w5 hc5').2.2).mono ?_
              rintro e w6 ⟨z, rfl, z0, z1', hc6, hk6⟩
              have hk6' : Kp w0.heap.size w5 w6 := kp_lit hk6
              have p6 := (hk6'.cell (o := 0) hP5 hPc).trans p5
              have own6 := own_kp HO5.out hk6' hc01
              have c6 : w6.cell? ⟨g, k, none⟩ = some (.int .i64 x) := by rw [own6.cellAt k (by omega), ints_get _ k (by have := HLB.out; omega), HX.out]
              have f6 := own6.frozenAt k
              have e1 : IntKind.i64.wrap (x + z) = x + z := by rw [IntKind.wrap_i64]; omega
              have e2 : wrap64 (x + z) = x + z := wrap_id' _ (by omega) (by omega)
              have HK6 := hide hk6'
              have HO6 := hide own6
              clear hc6 hk6 hk6' own6
              refine hK.out _ _ p6 (fun hHeld => ?_)
              clear hK K
              refine wpAnyH_take (i := 12) (oi := ⟨some 40, _, _, _, _, none⟩) (v := .int .i64 (x + z)) rfl (by kernel_rfl) (by kernel_rfl) (by kernel_rfl) (fun _ _ _ h => h) (Or.inl ⟨by rfl, fun w' hSw => by clear hSw; go_simp⟩) hHeld ?_
              simp only [Act.put, List.setIfInBounds_toArray, List.set_cons_zero, List.set_cons_succ]
              refine wpAnyH_take (i := 13) (oi := ⟨some 41, _, _, _, _, none⟩) (v := .pointer (some ⟨g, k, none⟩)) rfl (by kernel_rfl) (by kernel_rfl) (by kernel_rfl) (fun _ _ _ h => h) (Or.inl ⟨by rfl, fun w' hSw => by clear hSw; go_simp⟩) hHeld ?_
              simp only [Act.put, List.setIfInBounds_toArray, List.set_cons_zero, List.set_cons_succ]
              refine wpAnyH_ready (rs := [14]) (by kernel_rfl) (by simp) ?_
              refine AllReadyH.cons (o := ⟨none, _, _, _, _, none⟩) rfl (fun K hK => ?_) AllReadyH.nil
              go_simp
              refine hK.out _ _ ((set_ne9 hgP').trans p6) (fun hHeld => ?_)
              clear hK K
              refine wpAnyH_done (by kernel_rfl) ?_ _
              refine NoPanic.normal ?_
              clear hHeld
              obtain ⟨st1, st2⟩ := HO6.out.stored k (.int .i64 (x + z))
              rw [ints_set] at st1
              have hbase : (w0.alloc (.cells #[.slice a len cap, .int .i64 0, .int .u64 0] 70)).heap.size ≤ g := by rw [World.size_alloc]; omega
              have hK46 := HK5.out.trans HK6.out
              have HK7 := kp_set (o := k) (v := .int .i64 (x + z)) (HK4.out.trans hK46) hbase
              have HKW7 := kp_set (o := k) (v := .int .i64 (x + z)) (HKW4.out.trans hK46) hg0
              have HOB6 := own_kp HOB4.out hK46 hc01
              have HEND := hide fun (x' y' : Value) => ph_fin HR.out HB0.out HS0.out HK7 (HFW.out _ HKW7) (by rw [List.length_set]; exact HLB.out) HLC.out st1 (own_ne9 HOB6 st2 hdq) hR1 x' y'
              have s0 := (set_ne9 (o := k) (i := 0) (u := .int .i64 (x + z)) hgR).trans ((hK46.cell (o := 0) hR4 hRc).trans s0)
              have s1 := (set_ne9 (o := k) (i := 1) (u := .int .i64 (x + z)) hgR).trans ((hK46.cell (o := 1) hR4 hRc).trans s1)
              have s2 : (w6.setCell ⟨g, k, none⟩ (.int .i64 (x + z))).frozen? ⟨R, 0, none⟩ = false := by rw [World.frozen?_setCell]; exact (hK46.frozen (o := 0) hR4 hRc).trans s2
              have s3 : (w6.setCell ⟨g, k, none⟩ (.int .i64 (x + z))).frozen? ⟨R, 1, none⟩ = false := by rw [World.frozen?_setCell]; exact (hK46.frozen (o := 1) hR4 hRc).trans s3
              have p0 := (set_ne9 (o := k) (i := 0) (u := .int .i64 (x + z)) hgP').trans p6
              have p1 := (set_ne9 (o := k) (i := 1) (u := .int .i64 (x + z)) hgP').trans ((hK46.cell (o := 1) hP4 hPc).trans p1)
              have HL6 : Hid ((us.set k (x + z)).length = N) := hide (by rw [List.length_set]; exact HLB.out)
              clear st1 st2 hK46 HK7 HKW7 HOB6 hbase f6 c6 e1 e2 p5 p6 p5A c5 c5A pA HC5 HK5 HO5 HK6 HO6 HFW
              generalize w6.setCell ⟨g, k, none⟩ (.int .i64 (x + z)) = W7 at *
              go_wp2_with fail
              go_region
              all_goals
                go_wp2_with fail
                exact bodyPost_ret (v := .tuple #[.slice ao n co, .agg #[.slice (some ⟨g, 0, none⟩) N c1, .slice a2 N c2]]) (by simp [results, Try.results17, go_sem, *]) rfl (ph_post HCL.out HL6.out HLC.out hl hN11 hN11 (HEND.out _ _))
          · go_simp
            refine (amongB_any (lo := -1) (hi := 100000) (HC5.out.below (below_alloc w5 _)) (by omega) (by omega) (by omega) (lit_new w5 hc5').1 (lit_new w5 hc5').2.1 (lit_new w5 hc5').2.2).mono ?_
            rintro e w6 ⟨z, rfl, z0, z1', hc6, hk6⟩
            have hk6' : Kp w0.heap.size w5 w6 := kp_lit hk6
            have p6 := (hk6'.cell (o := 0) hP5 hPc).trans p5
            have own6 := own_kp HO5.out hk6' hc01
            have c6 : w6.cell? ⟨g, k, none⟩ = some (.int .i64 x) := by rw [own6.cellAt k (by omega), ints_get _ k (by have := HLB.out; omega), HX.out]
            have f6 := own6.frozenAt k
            have e1 : IntKind.i64.wrap (x + z) = x + z := by rw [IntKind.wrap_i64]; omega
            have e2 : wrap64 (x + z) = x + z := wrap_id' _ (by omega) (by omega)
            have HK6 := hide hk6'
            have HO6 := hide own6
            clear hc6 hk6 hk6' own6
            refine hK.out _ _ p6 (fun hHeld => ?_)
            clear hK K
            refine wpAnyH_ready (rs := [8]) (by kernel_rfl) (by simp) ?_
            refine AllReadyH.cons (o := ⟨some 36, _, _, _, _, none⟩) rfl (fun K hK => ?_) AllReadyH.nil
            · go_simp
              refine hK.out _ _ p6 (fun hHeld => ?_)
              clear hK K
              refine wpAnyH_take (i := 12) (oi := ⟨some 40, _, _, _, _, none⟩) (v := .int .i64 (x + z)) rfl (by kernel_rfl) (by kernel_rfl) (by kernel_rfl) (fun _ _ _ h => h) (Or.inl ⟨by rfl, fun w' hSw => by clear hSw; go_simp⟩) hHeld ?_
              simp only [Act.put, List.setIfInBounds_toArray, List.set_cons_zero, List.set_cons_succ]
              refine wpAnyH_take (i := 13) (oi := ⟨some 41, _, _, _, _, none⟩) (v := .pointer (some ⟨g, k, none⟩)) rfl (by kernel_rfl) (by kernel_rfl) (by kernel_rfl) (fun _ _ _ h => h) (Or.inl ⟨by rfl, fun w' hSw => by clear hSw; go_simp⟩) hHeld ?_
              simp only [Act.put, List.setIfInBounds_toArray, List.set_cons_zero, List.set_cons_succ]
              refine wpAnyH_ready (rs := [14]) (by kernel_rfl) (by simp) ?_
              refine AllReadyH.cons (o := ⟨none, _, _, _, _, none⟩) rfl (fun K hK => ?_) AllReadyH.nil
              go_simp
              refine hK.out _ _ ((set_ne9 hgP').trans p6) (fun hHeld => ?_)
              clear hK K
              refine wpAnyH_done (by kernel_rfl) ?_ _
              refine NoPanic.normal ?_
              clear hHeld
              obtain ⟨st1, st2⟩ := HO6.out.stored k (.int .i64 (x + z))
              rw [ints_set] at st1
              have hbase : (w0.alloc (.cells #[.slice a len cap, .int .i64 0, .int .u64 0] 70)).heap.size ≤ g := by rw [World.size_alloc]; omega
              have hK46 := HK5.out.trans HK6.out
              have HK7 := kp_set (o := k) (v := .int .i64 (x + z)) (HK4.out.trans hK46) hbase
              have HKW7 := kp_set (o := k) (v := .int .i64 (x + z)) (HKW4.out.trans hK46) hg0
              have HOB6 := own_kp HOB4.out hK46 hc01
              have HEND := hide fun (x' y' : Value) => ph_fin HR.out HB0.out HS0.out HK7 (HFW.out _ HKW7) (by rw [List.length_set]; exact HLB.out) HLC.out st1 (own_ne9 HOB6 st2 hdq) hR1 x' y'
              have s0 := (set_ne9 (o := k) (i := 0) (u := .int .i64 (x + z)) hgR).trans ((hK46.cell (o := 0) hR4 hRc).trans s0)
              have s1 := (set_ne9 (o := k) (i := 1) (u := .int .i64 (x + z)) hgR).trans ((hK46.cell (o := 1) hR4 hRc).trans s1)
              have s2 : (w6.setCell ⟨g, k, none⟩ (.int .i64 (x + z))).frozen? ⟨R, 0, none⟩ = false := by rw [World.frozen?_setCell]; exact (hK46.frozen (o := 0) hR4 hRc).trans s2
              have s3 : (w6.setCell ⟨g, k, none⟩ (.int .i64 (x + z))).frozen? ⟨R, 1, none⟩ = false := by rw [World.frozen?_setCell]; exact (hK46.frozen (o := 1) hR4 hRc).trans s3
              have p0 := (set_ne9 (o := k) (i := 0) (u := .int .i64 (x + z)) hgP').trans p6
              have p1 := (set_ne9 (o := k) (i := 1) (u := .int .i64 (x + z)) hgP').trans ((hK46.cell (o := 1) hP4 hPc).trans p1)
              have HL6 : Hid ((us.set k (x + z)).length = N) := hide (by rw [List.length_set]; exact HLB.out)
              clear st1 st2 hK46 HK7 HKW7 HOB6 hbase f6 c6 e1 e2 p5 p6 p5A c5 c5A pA HC5 HK5 HO5 HK6 HO6 HFW
              generalize w6.setCell ⟨g, k, none⟩ (.int .i64 (x + z)) = W7 at *
              go_wp2_with fail
              go_region
              all_goals
                go_wp2_with fail
                exact bodyPost_ret (v := .tuple #[.slice ao n co, .agg #[.slice (some ⟨g, 0, none⟩) N c1, .slice a2 N c2]]) (by simp [results, Try.results17, go_sem, *]) rfl (ph_post HCL.out HL6.out HLC.out hl hN11 hN11 (HEND.out _ _))
      · go_simp
        refine hK.out _ _ (pA _) (fun hHeld => ?_)
        clear hK K
        refine wpAnyH_ready (rs := [6]) (by kernel_rfl) (by simp) ?_
        refine AllReadyH.cons (o := ⟨some 34, _, _, _, _, none⟩) rfl (fun K hK => ?_) AllReadyH.nil
        · go_simp
          refine (pick_any (N : Int) (by omega) HCY.out (by omega)).mono ?_
          rintro e w5 ⟨r5, rfl, q0, q1, hc5, hk5⟩
          obtain ⟨k, rfl⟩ := Int.eq_ofNat_of_zero_le q0
          have hkN : k < N := by omega
          have HKL := hide (lit_old hk5 hc4')
          have hk5' : Kp w0.heap.size w4 w5 := kp_drew (kp_lit hk5)
          have p5 := (hk5'.cell (o := 0) hP4 hPc).trans p0
          have hs5 := hk5'.size
          have hP5 : P < w5.heap.size := by omega
          have hg5 : g < w5.heap.size := by omega
          have hc5' : w0.heap.size < w5.heap.size := by omega
          have p5A : ∀ o, (w5.alloc o).cell? ⟨P, 0, none⟩ = some (.slice (some ⟨g, 0, none⟩) N c1) := fun o => ((below_alloc w5 o).cell (p := ⟨P, 0, none⟩) hP5).trans p5
          have own5 := own_kp HOA4.out hk5' hc01
          have k0 : (0 : Int) ≤ (k : Int) := by omega
          have k1 : (k : Int) < (N : Int) := by omega
          obtain ⟨x, hx⟩ : ∃ x, x = us.getD k 0 := ⟨_, rfl⟩
          have hub := HUB.out k (by have := HLB.out; omega)
          rw [← hx] at hub
          have c5 : w5.cell? ⟨g, k, none⟩ = some (.int .i64 x) := by rw [own5.cellAt k (by omega), ints_get _ k (by have := HLB.out; omega), hx]
          have c5A : ∀ o, (w5.alloc o).cell? ⟨g, k, none⟩ = some (.int .i64 x) := fun o => ((below_alloc w5 o).cell (p := ⟨g, k, none⟩) hg5).trans c5
          have HX := hide hx
          have HC5 := hide hc5
          have HK5 := hide hk5'
          have HO5 := hide own5
          clear hc5 hk5 hk5' own5 hx
          refine hK.out _ _ p5 (fun hHeld => ?_)
          clear hK K
          refine wpAnyH_take (i := 7) (oi := ⟨some 35, _, _, _, _, none⟩) (v := .pointer (some ⟨g, k, none⟩)) rfl (by kernel_rfl) (by kernel_rfl) (by kernel_rfl) (fun _ _ _ h => h) (Or.inl ⟨by rfl, fun w' hSw => by clear hSw; go_simp⟩) hHeld ?_
          simp only [Act.put, List.setIfInBounds_toArray, List.set_cons_zero, List.set_cons_succ]
          refine wpAnyH_ready (rs := [8, 11]) (by kernel_rfl) (by simp) ?_
          refine AllReadyH.cons (o := ⟨some 36, _, _, _, _, none⟩) rfl (fun K hK => ?_) (AllReadyH.cons (o := ⟨some 39, _, _, _, _, none⟩) rfl (fun K hK => ?_) AllReadyH.nil)
          · go_simp
            refine hK.out _ _ p5 (fun hHeld => ?_)
            clear hK K
            refine wpAnyH_ready (rs := [11]) (by kernel_rfl) (by simp) ?_
            refine AllReadyH.cons (o := ⟨some 39, _, _, _, _, none⟩) rfl (fun K hK => ?_) AllReadyH.nil
            · go_simp
              refine (amongB_any (lo := -1) (hi := 100000) HC5.out (by omega) (by omega) (by omega) HKL.out.1 HKL.out.2.1 HKL.out.2.2).mono ?_
              rintro e w6 ⟨z, rfl, z0, z1', hc6, hk6⟩
              have hk6' : Kp w0.heap.size w5 w6 := hk6
              have p6 := (hk6'.cell (o := 0) hP5 hPc).trans p5
              have own6 := own_kp HO5.out hk6' hc01
              have c6 : w6.cell? ⟨g, k, none⟩ = some (.int .i64 x) := by rw [own6.cellAt k (by omega), ints_get _ k (by have := HLB.out; omega), HX.out]
              have f6 := own6.frozenAt k
              have e1 : IntKind.i64.wrap (x + z) = x + z := by rw [IntKind.wrap_i64]; omega
              have e2 : wrap64 (x + z) = x + z := wrap_id' _ (by omega) (by omega)
              have HK6 := hide hk6'
              have HO6 := hide own6
              clear hc6 hk6 hk6' own6
              refine hK.out _ _ p6 (fun hHeld => ?_)
              clear hK K
              refine wpAnyH_take (i := 12) (oi := ⟨some 40, _, _, _, _, none⟩) (v := .int .i64 (x + z)) rfl (by kernel_rfl) (by kernel_rfl) (by kernel_rfl) (fun _ _ _ h => h) (Or.inl ⟨by rfl, fun w' hSw => by clear hSw; go_simp⟩) hHeld ?_
              simp only [Act.put, List.setIfInBounds_toArray, List.set_cons_zero, List.set_cons_succ]
              refine wpAnyH_take (i := 13) (oi := ⟨some 41, _, _, _, _, none⟩) (v := .pointer (some ⟨g, k, none⟩)) rfl (by kernel_rfl) (by kernel_rfl) (by kernel_rfl) (fun _ _ _ h => h) (Or.inl ⟨by rfl, fun w' hSw => by clear hSw; go_simp⟩) hHeld ?_
              simp only [Act.put, List.setIfInBounds_toArray, List.set_cons_zero, List.set_cons_succ]
              refine wpAnyH_ready (rs := [14]) (by kernel_rfl) (by simp) ?_
              refine AllReadyH.cons (o := ⟨none, _, _, _, _, none⟩) rfl (fun K hK => ?_) AllReadyH.nil
              go_simp
              refine hK.out _ _ ((set_ne9 hgP').trans p6) (fun hHeld => ?_)
              clear hK K
              refine wpAnyH_done (by kernel_rfl) ?_ _
              refine NoPanic.normal ?_
              clear hHeld
              obtain ⟨st1, st2⟩ := HO6.out.stored k (.int .i64 (x + z))
              rw [ints_set] at st1
              have hbase : (w0.alloc (.cells #[.slice a len cap, .int .i64 0, .int .u64 0] 70)).heap.size ≤ g := by rw [World.size_alloc]; omega
              have hK46 := HK5.out.trans HK6.out
              have HK7 := kp_set (o := k) (v := .int .i64 (x + z)) (HK4.out.trans hK46) hbase
              have HKW7 := kp_set (o := k) (v := .int .i64 (x + z)) (HKW4.out.trans hK46) hg0
              have HOB6 := own_kp HOB4.out hK46 hc01
              have HEND := hide fun (x' y' : Value) => ph_fin HR.out HB0.out HS0.out HK7 (HFW.out _ HKW7) (by rw [List.length_set]; exact HLB.out) HLC.out st1 (own_ne9 HOB6 st2 hdq) hR1 x' y'
              have s0 := (set_ne9 (o := k) (i := 0) (u := .int .i64 (x + z)) hgR).trans ((hK46.cell (o := 0) hR4 hRc).trans s0)
              have s1 := (set_ne9 (o := k) (i := 1) (u := .int .i64 (x + z)) hgR).trans ((hK46.cell (o := 1) hR4 hRc).trans s1)
              have s2 : (w6.setCell ⟨g, k, none⟩ (.int .i64 (x + z))).frozen? ⟨R, 0, none⟩ = false := by rw [World.frozen?_setCell]; exact (hK46.frozen (o := 0) hR4 hRc).trans s2
              have s3 : (w6.setCell ⟨g, k, none⟩ (.int .i64 (x + z))).frozen? ⟨R, 1, none⟩ = false := by rw [World.frozen?_setCell]; exact (hK46.frozen (o := 1) hR4 hRc).trans s3
              have p0 := (set_ne9 (o := k) (i := 0) (u := .int .i64 (x + z)) hgP').trans p6
              have p1 := (set_ne9 (o := k) (i := 1) (u := .int .i64 (x + z)) hgP').trans ((hK46.cell (o := 1) hP4 hPc).trans p1)
              have HL6 : Hid ((us.set k (x + z)).length = N) := hide (by rw [List.length_set]; exact HLB.out)
              clear st1 st2 hK46 HK7 HKW7 HOB6 hbase f6 c6 e1 e2 p5 p6 p5A c5 c5A pA HC5 HK5 HO5 HK6 HO6 HFW
              generalize w6.setCell ⟨g, k, none⟩ (.int .i64 (x + z)) = W7 at *
              go_wp2_with fail
              go_region
              all_goals
                go_wp2_with fail
                exact bodyPost_ret (v := .tuple #[.slice ao n co, .agg #[.slice (some ⟨g, 0, none⟩) N c1, .slice a2 N c2]]) (by simp [results, Try.results17, go_sem, *]) rfl (ph_post HCL.out HL6.out HLC.out hl hN11 hN11 (HEND.out _ _))
          · go_simp
            refine (amongB_any (lo := -1) (hi := 100000) HC5.out (by omega) (by omega) (by omega) HKL.out.1 HKL.out.2.1 HKL.out.2.2).mono ?_
            rintro e w6 ⟨z, rfl, z0, z1', hc6, hk6⟩
            have hk6' : Kp w0.heap.size w5 w6 := hk6
            have p6 := (hk6'.cell (o := 0) hP5 hPc).trans p5
            have own6 := own_kp HO5.out hk6' hc01
            have c6 : w6.cell? ⟨g, k, none⟩ = some (.int .i64 x) := by rw [own6.cellAt k (by omega), ints_get _ k (by have := HLB.out; omega), HX.out]
            have f6 := own6.frozenAt k
            have e1 : IntKind.i64.wrap (x + z) = x + z := by rw [IntKind.wrap_i64]; omega
            have e2 : wrap64 (x + z) = x + z := wrap_id' _ (by omega) (by omega)
            have HK6 := hide hk6'
            have HO6 := hide own6
            clear hc6 hk6 hk6' own6
            refine hK.out _ _ p6 (fun hHeld => ?_)
            clear hK K
            refine wpAnyH_ready (rs := [8]) (by kernel_rfl) (by simp) ?_
            refine AllReadyH.cons (o := ⟨some 36, _, _, _, _, none⟩) rfl (fun K hK => ?_) AllReadyH.nil
            · go_simp
              refine hK.out _ _ p6 (fun hHeld => ?_)
              clear hK K
              refine wpAnyH_take (i := 12) (oi := ⟨some 40, _, _, _, _, none⟩) (v := .int .i64 (x + z)) rfl (by kernel_rfl) (by kernel_rfl) (by kernel_rfl) (fun _ _ _ h => h) (Or.inl ⟨by rfl, fun w' hSw => by clear hSw; go_simp⟩) hHeld ?_
              simp only [Act.put, List.setIfInBounds_toArray, List.set_cons_zero, List.set_cons_succ]
              refine wpAnyH_take (i := 13) (oi := ⟨some 41, _, _, _, _, none⟩) (v := .pointer (some ⟨g, k, none⟩)) rfl (by kernel_rfl) (by kernel_rfl) (by kernel_rfl) (fun _ _ _ h => h) (Or.inl ⟨by rfl, fun w' hSw => by clear hSw; go_simp⟩) hHeld ?_
              simp only [Act.put, List.setIfInBounds_toArray, List.set_cons_zero, List.set_cons_succ]
              refine wpAnyH_ready (rs := [14]) (by kernel_rfl) (by simp) ?_
              refine AllReadyH.cons (o := ⟨none, _, _, _, _, none⟩) rfl (fun K hK => ?_) AllReadyH.nil
              go_simp
              refine hK.out _ _ ((set_ne9 hgP').trans p6) (fun hHeld => ?_)
              clear hK K
              refine wpAnyH_done (by kernel_rfl) ?_ _
              refine NoPanic.normal ?_
              clear hHeld
              obtain ⟨st1, st2⟩ := HO6.out.stored k (.int .i64 (x + z))
              rw [ints_set] at st1
              have hbase : (w0.alloc (.cells #[.slice a len cap, .int .i64 0, .int .u64 0] 70)).heap.size ≤ g := by rw [World.size_alloc]; omega
              have hK46 := HK5.out.trans HK6.out
              have HK7 := kp_set (o := k) (v := .int .i64 (x + z)) (HK4.out.trans hK46) hbase
              have HKW7 := kp_set (o := k) (v := .int .i64 (x + z)) (HKW4.out.trans hK46) hg0
              have HOB6 := own_kp HOB4.out hK46 hc01
              have HEND := hide fun (x' y' : Value) => ph_fin HR.out HB0.out HS0.out HK7 (HFW.out _ HKW7) (by rw [List.length_set]; exact HLB.out) HLC.out st1 (own_ne9 HOB6 st2 hdq) hR1 x' y'
              have s0 := (set_ne9 (o := k) (i := 0) (u := .int .i64 (x + z)) hgR).trans ((hK46.cell (o := 0) hR4 hRc).trans s0)
              have s1 := (set_ne9 (o := k) (i := 1) (u := .int .i64 (x + z)) hgR).trans ((hK46.cell (o := 1) hR4 hRc).trans s1)
              have s2 : (w6.setCell ⟨g, k, none⟩ (.int .i64 (x + z))).frozen? ⟨R, 0, none⟩ = false := by rw [World.frozen?_setCell]; exact (hK46.frozen (o := 0) hR4 hRc).trans s2
              have s3 : (w6.setCell ⟨g, k, none⟩ (.int .i64 (x + z))).frozen? ⟨R, 1, none⟩ = false := by rw [World.frozen?_setCell]; exact (hK46.frozen (o := 1) hR4 hRc).trans s3
              have p0 := (set_ne9 (o := k) (i := 0) (u := .int .i64 (x + z)) hgP').trans p6
              have p1 := (set_ne9 (o := k) (i := 1) (u := .int .i64 (x + z)) hgP').trans ((hK46.cell (o := 1) hP4 hPc).trans p1)
              have HL6 : Hid ((us.set k (x + z)).length = N) := hide (by rw [List.length_set]; exact HLB.out)
              clear st1 st2 hK46 HK7 HKW7 HOB6 hbase f6 c6 e1 e2 p5 p6 p5A c5 c5A pA HC5 HK5 HO5 HK6 HO6 HFW
              generalize w6.setCell ⟨g, k, none⟩ (.int .i64 (x + z)) = W7 at *
              go_wp2_with fail
              go_region
              all_goals
                go_wp2_with fail
                exact bodyPost_ret (v := .tuple #[.slice ao n co, .agg #[.slice (some ⟨g, 0, none⟩) N c1, .slice a2 N c2]]) (by simp [results, Try.results17, go_sem, *]) rfl (ph_post HCL.out HL6.out HLC.out hl hN11 hN11 (HEND.out _ _))
end Go.Proofs.Ytkebaklmkidfoaa
namespace Go.Proofs.Ytkebaklmkidfoaa
open Go.RowKit

set_option maxRecDepth 100000 in
set_option maxHeartbeats 2000000 in
theorem rr_no9 {a : Option Addr} {l c : Nat} {C : List (List Int)} {w : World} (hg : Hu.costB C = false) (hl : C.length = l) (hc : CRow w a C) :
    Calls Try.prog 22 #[.slice a l c] w fun e w' => e = .returned (.tuple #[.slice none 0 0, .bool false]) ∧ w' = w := by
  have HC := hide hc
  have HL := hide hl
  have HG := hide hg
  clear hc hl hg
  go_enter Try.func22, Try.ntmps22
  go_wp2_with fail
  refine (gc_eq HL HC HG).mono ?_
  rintro e w1 ⟨rfl, hw1⟩
  obtain rfl : w = w1 := hw1.symm
  go_wp2_with fail
  go_ret2
  exact ⟨rfl, rfl⟩
set_option maxRecDepth 100000 in
set_option maxHeartbeats 2000000 in
theorem srr_no9 {a : Option Addr} {l c : Nat} {C : List (List Int)} {w : World} (hg : Hu.costB C = false) (hl : C.length = l) (hl1 : l ≤ 1048576) (hc : CRow w a C) :
    Calls Try.prog 23 #[.slice a l c] w fun e w' => e = .returned (.tuple #[.slice none 0 0, .bool false]) ∧ w' = w := by
  have HC := hide hc
  have HL := hide hl
  have HG := hide hg
  clear hc hl hg
  go_enter Try.func23, Try.ntmps23
  go_wp2_with fail
  refine (sgc_eq HL hl1 HC HG).mono ?_
  rintro e w1 ⟨rfl, hw1⟩
  obtain rfl : w = w1 := hw1.symm
  go_wp2_with fail
  go_ret2
  exact ⟨rfl, rfl⟩
theorem off_bd {c : List (List Int)} (h : Hu.costB c = true) : ∀ k, k ≤ c.length → 0 ≤ Hu.offTo c k ∧ Hu.offTo c k ≤ 100 * (k : Int)
  | 0, _ => by simp [Hu.offTo]
  | k + 1, hk => by
    have h1 := off_bd h k (by omega)
    have h2 := Hu.red_ct h (show k < c.length by omega) (show 0 < c.length by omega)
    have hr := Hu.costB_row h (show k < c.length by omega)
    have h3 := Hu.lst_bd hr.2 (by rw [hr.1]; omega)
    simp only [Hu.offTo]; omega
/-- What is read of a row and of the reduced one. -/
theorem off_at {c : List (List Int)} (h : Hu.costB c = true) {k : Nat} (hk : k < c.length) : (c.getD k []).length = c.length ∧ ((Hu.redL c).getD k []).length = c.length ∧ 0 ≤ (c.getD k []).getD 0 0 ∧ (c.getD k []).getD 0 0 ≤ 100 ∧ 0 ≤ ((Hu.redL c).getD k []).getD 0 0 ∧ ((Hu.redL c).getD k []).getD 0 0 ≤ 100 ∧ Hu.offTo c (k + 1) = Hu.offTo c k + ((c.getD k []).getD 0 0 - ((Hu.redL c).getD k []).getD 0 0) := by
  have hr := Hu.costB_row h hk
  have hg := Hu.red_good h
  have hl := Hu.redL_len c
  have hr2 := Hu.costB_row hg (show k < (Hu.redL c).length by rw [hl]; exact hk)
  have b1 := Pf.inB_yes (Pf.allB_get hr.2 (show 0 < (c.getD k []).length by rw [hr.1]; omega))
  have b2 := Pf.inB_yes (Pf.allB_get hr2.2 (show 0 < ((Hu.redL c).getD k []).length by rw [hr2.1, hl]; omega))
  exact ⟨hr.1, by rw [hr2.1, hl], b1.1, b1.2, b2.1, b2.2, rfl⟩
theorem fc_bd {c : List (List Int)} (h : Hu.costB c = true) : 0 ≤ Hu.fcI c (cfA c) ∧ Hu.fcI c (cfA c) ≤ 1000 := by
  have hf : Hu.fcB c (cfA c) = true := Hu.cf_fit h
  have ho : Od.ordB (cfA c) c.length = true := by
    have := hf
    simp only [Hu.fcB, Bool.and_eq_true] at this; exact this.2
  have := Hu.costTo_bd h ho c.length (Nat.le_refl _)
  have hl := (Hu.costB_len h).2
  unfold Hu.fcI; rw [if_pos hf]; omega
theorem rr_fit {c : List (List Int)} (h : Hu.costB c = true) : Hu.fcI c (cfA c) = Hu.fcI (Hu.redL c) (cfA (Hu.redL c)) + Hu.offTo c c.length := Hu.red_fit h
/-- Costs, and prices in a variable B. -/
structure Pv9 (w W : World) (B : Nat) (ao a1 a2 : Option Addr) (c1 c2 N M : Nat) (C : List (List Int)) (us vs : List Int) : Prop where
  r0 : CRow W ao C
  r1 : ARow W a1 us
  r2 : ARow W a2 vs
  box : PBox W B (.slice a1 N c1) (.slice a2 M c2)
  b : Below w.heap.size w W
theorem Pv9.below {w W W' : World} {B : Nat} {ao a1 a2 : Option Addr} {c1 c2 N M : Nat} {C : List (List Int)} {us vs : List Int} (h : Pv9 w W B ao a1 a2 c1 c2 N M C us vs) (hb : Below W.heap.size W W') : Pv9 w W' B ao a1 a2 c1 c2 N M C us vs :=
  ⟨h.r0.below hb, h.r1.below hb, h.r2.below hb, h.box.below hb, h.b.trans (hb.mono h.b.size)⟩
theorem pv_new {w : World} {ao a1 a2 : Option Addr} {c1 c2 N M : Nat} {C : List (List Int)} {us vs : List Int} (r0 : CRow w ao C) (r1 : ARow w a1 us) (r2 : ARow w a2 vs) : Pv9 w (w.alloc (.cells #[.slice a1 N c1, .slice a2 M c2] 27)) w.heap.size ao a1 a2 c1 c2 N M C us vs := by
  have hb := below_new w (.cells #[.slice a1 N c1, .slice a2 M c2] 27)
  exact ⟨r0.below hb, r1.below hb, r2.below hb, PBox.new _ _ _ _, hb⟩
/-- Prices that hold. -/
theorem pc_weak {C : List (List Int)} {us vs : List Int} (h : Hu.phI C us vs = true) : Hu.costB C = true ∧ Hu.bothB C us vs = true ∧ Hu.prB us vs = true ∧ Hu.fcB C (cfA C) = true ∧ Hu.psI us vs ≤ Hu.fcI C (cfA C) := by
  simp only [Hu.phI, Bool.and_eq_true] at h
  obtain ⟨h1, h2, _⟩ := Hu.bothB_yes h.1
  exact ⟨h1, h.1, h2, Hu.cf_fit h1, Hu.cf_weak h.1 h.2⟩
end Go.Proofs.Ytkebaklmkidfoaa
