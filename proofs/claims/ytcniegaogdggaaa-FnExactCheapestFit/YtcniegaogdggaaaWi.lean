/-
  What goTo answers.
-/
import Derived.Test.YtcniegaogdggaaaWh
namespace Go.Proofs.Ytcniegaogdggaaa
open Go.RowKit

theorem decX_nil {xs : List Int} {y : Int} (hx : xs.length = 10) : Hu.decX [] xs y = xs := Hu.ext10 (Hu.tab_len _ _) hx fun i hi => by rw [Hu.decX, Hu.tab_get _ hi]; simp
theorem decX_at {lf : List Nat} {xs : List Int} {y : Int} {j : Nat} (hd : lf.Nodup) (hj : j < lf.length) (h10 : lf.getD j 0 < 10) : (Hu.decX (lf.take j) xs y).getD (lf.getD j 0) 0 = xs.getD (lf.getD j 0) 0 := by
  have hn : lf.getD j 0 ∉ lf.take j := by
    intro hm
    obtain ⟨i, hi, e⟩ := List.getElem_of_mem hm
    simp at hi
    rw [List.getElem_take] at e
    rw [List.getD_eq_getElem?_getD, List.getElem?_eq_getElem hj, Option.getD_some] at e
    exact List.pairwise_iff_getElem.1 hd i j (by omega) hj (by omega) e
  rw [Hu.decX, Hu.tab_get _ h10, if_neg hn]
theorem decX_set {lf : List Nat} {xs : List Int} {y : Int} {j : Nat} (hj : j < lf.length) : (Hu.decX (lf.take j) xs y).set (lf.getD j 0) (xs.getD (lf.getD j 0) 0 - y) = Hu.decX (lf.take (j + 1)) xs y := by
  refine Hu.ext10 (by simp [Hu.decX, Hu.tab]) (Hu.tab_len _ _) fun i hi => ?_
  rw [Hu.set_get9 _ _ _ _ (by simp [Hu.decX, Hu.tab]; exact hi), Hu.decX, Hu.decX, Hu.tab_get _ hi, Hu.tab_get _ hi]
  have e1 : lf.take (j + 1) = lf.take j ++ [lf.getD j 0] := by rw [List.take_add_one, List.getElem?_eq_getElem hj]; simp [hj]
  by_cases e : i = lf.getD j 0
  · rw [if_pos e, if_pos (by rw [e1, e]; simp), e]
  · rw [if_neg e]
    have : i ∈ lf.take (j + 1) ↔ i ∈ lf.take j := by rw [e1, List.mem_append, List.mem_singleton]; exact ⟨fun h => h.resolve_right e, Or.inl⟩
    simp only [this]
/-- One more onto the second list, and its place in the variable. -/
theorem Sr.push1 {w w3 : World} {base b g cap : Nat} {v0 v1 v2 : Value} {ls gn lf xs ys : List Int} {x : Int} {o : Obj} (h : Sr w base b v0 v1 v2 ls gn lf xs ys) (hb : base ≤ w.heap.size)
    (own : w3.ownsRow base 3 1 (.slice (some ⟨g, 0, none⟩) (gn.length + 1) cap) (gn.length + 1) (ints gn ++ [.int .i64 x])) (hg : (w.alloc o).grownBy w3 v1.ownBlock) (hat : v1.ownBlock = some g ∨ g = w.heap.size + 1) :
    Sr (w3.setCell ⟨b, 1, none⟩ (.slice (some ⟨g, 0, none⟩) (gn.length + 1) cap)) base b v0 (.slice (some ⟨g, 0, none⟩) (gn.length + 1) cap) v2 ls (gn ++ [x]) lf xs ys ∧ SV w3 b v0 v1 v2 xs ys ∧ Below base w (w3.setCell ⟨b, 1, none⟩ (.slice (some ⟨g, 0, none⟩) (gn.length + 1) cap)) ∧ g ≠ b ∧ v2.ownBlock ≠ some g := by
  have kp : ∀ k, k < w.heap.size → some k ≠ v1.ownBlock → w3.heap[k]? = w.heap[k]? := fun k hk hne => (hg.block k (by simp; omega) hne).trans ((below_new w o).block k hk)
  have hs3 : w.heap.size ≤ w3.heap.size := Nat.le_trans (by simp) hg.size
  have hgb : g ≠ b := by
    rcases hat with e | e
    · intro h'; subst h'; exact h.d1 e
    · have := h.sv.lt; omega
  have A3 : SV w3 b v0 v1 v2 xs ys := h.sv.keep hs3 (kp b h.sv.lt (fun e => h.d1 e.symm))
  have n0 : v0.ownBlock ≠ some g := by
    rcases hat with e | e
    · intro e'; exact h.d01 g e' e
    · exact ne_of_lt_opt h.o0 (by omega)
  have n2 : v2.ownBlock ≠ some g := by
    rcases hat with e | e
    · exact h.d12 g e
    · exact ne_of_lt_opt h.o2 (by omega)
  have k0 : w3.ownsRow base 3 1 v0 ls.length (ints ls) := own_blk h.o0 fun k hk => kp k (h.o0.lt k hk).2 (fun e => h.d01 k hk e.symm)
  have k2 : w3.ownsRow base 3 1 v2 lf.length (ints lf) := own_blk h.o2 fun k hk => kp k (h.o2.lt k hk).2 (fun e => h.d12 k e.symm hk)
  refine ⟨⟨A3.set1 rfl, own_blk k0 fun k hk => Below.heap_setCell _ _ _ _ (by rintro rfl; exact h.d0 hk), ?_, own_blk k2 fun k hk => Below.heap_setCell _ _ _ _ (by rintro rfl; exact h.d2 hk), h.bb, h.d0, by simp [Value.ownBlock]; exact hgb, h.d2, ?_, h.d02, ?_⟩, A3, ?_, hgb, n2⟩
  · rw [ints_snoc, List.length_append]
    exact own_blk own fun k hk => Below.heap_setCell _ _ _ _ (by simp [Value.ownBlock] at hk; subst hk; exact hgb)
  · intro k hk e; simp [Value.ownBlock] at e; subst e; exact n0 hk
  · intro k hk; simp [Value.ownBlock] at hk; subst hk; exact n2
  · refine Below.setCell ?_ (p := ⟨b, 1, none⟩) h.bb _
    exact ((below_new w o).mono hb).trans (grown_under' hg (h.o1.alloc _) (Nat.le_refl _) (by simp; omega))
/-- The third list shortened in its place. -/
theorem Sr.cut2 {w w3 : World} {base b g cap N M : Nat} {v0 v1 : Value} {ls gn lf lf' xs ys : List Int} (h : Sr w base b v0 v1 (.slice (some ⟨g, 0, none⟩) N cap) ls gn lf xs ys) (hM : lf'.length = M)
    (own : w3.ownsRow base 3 1 (.slice (some ⟨g, 0, none⟩) M cap) M (ints lf')) (hg : w.grownBy w3 (some g)) :
    Sr (w3.setCell ⟨b, 2, none⟩ (.slice (some ⟨g, 0, none⟩) M cap)) base b v0 v1 (.slice (some ⟨g, 0, none⟩) M cap) ls gn lf' xs ys ∧ SV w3 b v0 v1 (.slice (some ⟨g, 0, none⟩) N cap) xs ys ∧ Below base w (w3.setCell ⟨b, 2, none⟩ (.slice (some ⟨g, 0, none⟩) M cap)) := by
  have hgb : g ≠ b := fun e => h.d2 (by rw [e]; rfl)
  have kp : ∀ k, k < w.heap.size → k ≠ g → w3.heap[k]? = w.heap[k]? := fun k hk hne => hg.block k hk (by simpa using hne)
  have A3 : SV w3 b v0 v1 (.slice (some ⟨g, 0, none⟩) N cap) xs ys := h.sv.keep hg.size (kp b h.sv.lt (Ne.symm hgb))
  have k0 : w3.ownsRow base 3 1 v0 ls.length (ints ls) := own_blk h.o0 fun k hk => kp k (h.o0.lt k hk).2 (fun e => h.d02 k hk (by rw [e]; rfl))
  have k1 : w3.ownsRow base 3 1 v1 gn.length (ints gn) := own_blk h.o1 fun k hk => kp k (h.o1.lt k hk).2 (fun e => h.d12 k hk (by rw [e]; rfl))
  have hbg := (h.o2.lt g rfl)
  refine ⟨⟨A3.set2 rfl, own_blk k0 fun k hk => Below.heap_setCell _ _ _ _ (by rintro rfl; exact h.d0 hk), own_blk k1 fun k hk => Below.heap_setCell _ _ _ _ (by rintro rfl; exact h.d1 hk), ?_, h.bb, h.d0, h.d1, by simp [Value.ownBlock]; exact hgb, h.d01, h.d02, h.d12⟩, A3, ?_⟩
  · rw [hM]
    exact own_blk own fun k hk => Below.heap_setCell _ _ _ _ (by simp [Value.ownBlock] at hk; subst hk; exact hgb)
  · refine Below.setCell ?_ (p := ⟨b, 2, none⟩) h.bb _
    exact grown_below' hg hbg.1 (by omega)
end Go.Proofs.Ytcniegaogdggaaa
