/-
  What see answers.
-/
import Derived.Test.YtcniegaogdggaaaWb
namespace Go.Proofs.Ytcniegaogdggaaa
open Go.RowKit

/-- A search on its way: what its variable holds, and its three lists, from base on, no two in one block. -/
structure Sr (w : World) (base b : Nat) (v0 v1 v2 : Value) (ls gn lf : List Int) (xs ys : List Int) : Prop where
  sv : SV w b v0 v1 v2 xs ys
  o0 : w.ownsRow base 3 1 v0 ls.length (ints ls)
  o1 : w.ownsRow base 3 1 v1 gn.length (ints gn)
  o2 : w.ownsRow base 3 1 v2 lf.length (ints lf)
  bb : base ≤ b
  d0 : v0.ownBlock ≠ some b
  d1 : v1.ownBlock ≠ some b
  d2 : v2.ownBlock ≠ some b
  d01 : ∀ g, v0.ownBlock = some g → v1.ownBlock ≠ some g
  d02 : ∀ g, v0.ownBlock = some g → v2.ownBlock ≠ some g
  d12 : ∀ g, v1.ownBlock = some g → v2.ownBlock ≠ some g
theorem own_blk {w w' : World} {base e s n : Nat} {v : Value} {xs : List Value} (h : w.ownsRow base e s v n xs) (hb : ∀ g, v.ownBlock = some g → w'.heap[g]? = w.heap[g]?) : w'.ownsRow base e s v n xs := by
  refine ⟨h.1, ?_⟩
  rcases h.2 with h0 | ⟨g, cap, cur, hv, hbg, hg, r⟩
  · exact Or.inl h0
  · exact Or.inr ⟨g, cap, cur, hv, hbg, (hb g (by rw [hv]; rfl)).trans hg, r⟩
theorem Sr.below {w w' : World} {base b : Nat} {v0 v1 v2 : Value} {ls gn lf xs ys : List Int} (h : Sr w base b v0 v1 v2 ls gn lf xs ys) (hb : Below w.heap.size w w') : Sr w' base b v0 v1 v2 ls gn lf xs ys :=
  ⟨h.sv.below hb, g_own h.o0 hb, g_own h.o1 hb, g_own h.o2 hb, h.bb, h.d0, h.d1, h.d2, h.d01, h.d02, h.d12⟩
/-- Only the search's own variable is written. -/
theorem Sr.setx {w : World} {base b : Nat} {v0 v1 v2 : Value} {ls gn lf xs ys : List Int} (h : Sr w base b v0 v1 v2 ls gn lf xs ys) {k : Nat} (hk : k < 10) (x : Int) : Sr (w.setCell ⟨b, 3 + k, none⟩ (.int .i64 x)) base b v0 v1 v2 ls gn lf (xs.set k x) ys :=
  ⟨h.sv.setx hk x, own_blk h.o0 fun g hg => Below.heap_setCell _ _ _ _ (by rintro rfl; exact h.d0 hg), own_blk h.o1 fun g hg => Below.heap_setCell _ _ _ _ (by rintro rfl; exact h.d1 hg), own_blk h.o2 fun g hg => Below.heap_setCell _ _ _ _ (by rintro rfl; exact h.d2 hg), h.bb, h.d0, h.d1, h.d2, h.d01, h.d02, h.d12⟩
theorem Sr.sety {w : World} {base b : Nat} {v0 v1 v2 : Value} {ls gn lf xs ys : List Int} (h : Sr w base b v0 v1 v2 ls gn lf xs ys) {k : Nat} (hk : k < 10) (y : Int) : Sr (w.setCell ⟨b, 13 + k, none⟩ (.int .i64 y)) base b v0 v1 v2 ls gn lf xs (ys.set k y) :=
  ⟨h.sv.sety hk y, own_blk h.o0 fun g hg => Below.heap_setCell _ _ _ _ (by rintro rfl; exact h.d0 hg), own_blk h.o1 fun g hg => Below.heap_setCell _ _ _ _ (by rintro rfl; exact h.d1 hg), own_blk h.o2 fun g hg => Below.heap_setCell _ _ _ _ (by rintro rfl; exact h.d2 hg), h.bb, h.d0, h.d1, h.d2, h.d01, h.d02, h.d12⟩
theorem ne_of_lt_opt {v : Value} {g : Nat} {w : World} {base e s n : Nat} {xs : List Value} (h : w.ownsRow base e s v n xs) (hg : w.heap.size ≤ g) : v.ownBlock ≠ some g := fun e => by have := (h.lt g e).2; omega
/-- One more onto the first list, and its place in the variable. -/
theorem Sr.push0 {w w3 : World} {base b g cap : Nat} {v0 v1 v2 : Value} {ls gn lf xs ys : List Int} {x : Int} {o : Obj} (h : Sr w base b v0 v1 v2 ls gn lf xs ys) (hb : base ≤ w.heap.size)
    (own : w3.ownsRow base 3 1 (.slice (some ⟨g, 0, none⟩) (ls.length + 1) cap) (ls.length + 1) (ints ls ++ [.int .i64 x])) (hg : (w.alloc o).grownBy w3 v0.ownBlock) (hat : v0.ownBlock = some g ∨ g = w.heap.size + 1) :
    Sr (w3.setCell ⟨b, 0, none⟩ (.slice (some ⟨g, 0, none⟩) (ls.length + 1) cap)) base b (.slice (some ⟨g, 0, none⟩) (ls.length + 1) cap) v1 v2 (ls ++ [x]) gn lf xs ys ∧ SV w3 b v0 v1 v2 xs ys ∧ Below base w (w3.setCell ⟨b, 0, none⟩ (.slice (some ⟨g, 0, none⟩) (ls.length + 1) cap)) := by
  have kp : ∀ k, k < w.heap.size → some k ≠ v0.ownBlock → w3.heap[k]? = w.heap[k]? := fun k hk hne => (hg.block k (by simp; omega) hne).trans ((below_new w o).block k hk)
  have hs3 : w.heap.size ≤ w3.heap.size := Nat.le_trans (by simp) hg.size
  have hgb : g ≠ b := by
    rcases hat with e | e
    · intro h'; subst h'; exact h.d0 e
    · have := h.sv.lt; omega
  have A3 : SV w3 b v0 v1 v2 xs ys := h.sv.keep hs3 (kp b h.sv.lt (fun e => h.d0 e.symm))
  have n1 : v1.ownBlock ≠ some g := by
    rcases hat with e | e
    · exact h.d01 g e
    · exact ne_of_lt_opt h.o1 (by omega)
  have n2 : v2.ownBlock ≠ some g := by
    rcases hat with e | e
    · exact h.d02 g e
    · exact ne_of_lt_opt h.o2 (by omega)
  have k1 : w3.ownsRow base 3 1 v1 gn.length (ints gn) := own_blk h.o1 fun k hk => kp k (h.o1.lt k hk).2 (fun e => h.d01 k e.symm hk)
  have k2 : w3.ownsRow base 3 1 v2 lf.length (ints lf) := own_blk h.o2 fun k hk => kp k (h.o2.lt k hk).2 (fun e => h.d02 k e.symm hk)
  refine ⟨⟨A3.set0 rfl, ?_, own_blk k1 fun k hk => Below.heap_setCell _ _ _ _ (by rintro rfl; exact h.d1 hk), own_blk k2 fun k hk => Below.heap_setCell _ _ _ _ (by rintro rfl; exact h.d2 hk), h.bb, by simp [Value.ownBlock]; exact hgb, h.d1, h.d2, ?_, ?_, h.d12⟩, A3, ?_⟩
  · rw [ints_snoc, List.length_append]
    exact own_blk own fun k hk => Below.heap_setCell _ _ _ _ (by simp [Value.ownBlock] at hk; subst hk; exact hgb)
  · intro k hk; simp [Value.ownBlock] at hk; subst hk; exact n1
  · intro k hk; simp [Value.ownBlock] at hk; subst hk; exact n2
  · refine Below.setCell ?_ (p := ⟨b, 0, none⟩) h.bb _
    exact ((below_new w o).mono hb).trans (grown_under' hg (h.o0.alloc _) (Nat.le_refl _) (by simp; omega))
theorem seeX_set {lf : List Nat} {rs xs : List Int} {j : Nat} (hj : j < lf.length) (h : rs.getD (lf.getD j 0) 0 < xs.getD (lf.getD j 0) 0) : (Hu.seeX (lf.take j) rs xs).set (lf.getD j 0) (rs.getD (lf.getD j 0) 0) = Hu.seeX (lf.take (j + 1)) rs xs := by
  refine Hu.ext10 (by simp [Hu.seeX, Hu.tab]) (Hu.tab_len _ _) fun i hi => ?_
  rw [Hu.set_get9 _ _ _ _ (by simp [Hu.seeX, Hu.tab]; exact hi), Hu.seeX, Hu.seeX, Hu.tab_get _ hi, Hu.tab_get _ hi]
  have e1 : lf.take (j + 1) = lf.take j ++ [lf.getD j 0] := by rw [List.take_add_one, List.getElem?_eq_getElem hj]; simp [hj]
  by_cases e : i = lf.getD j 0
  · rw [if_pos e, if_pos ⟨by rw [e1, e]; simp, by rw [e]; exact h⟩, e]
  · rw [if_neg e]
    have : i ∈ lf.take (j + 1) ↔ i ∈ lf.take j := by rw [e1, List.mem_append, List.mem_singleton]; exact ⟨fun h => h.resolve_right e, Or.inl⟩
    simp only [this]
theorem seeX_same {lf : List Nat} {rs xs : List Int} {j : Nat} (hj : j < lf.length) (h : ¬ rs.getD (lf.getD j 0) 0 < xs.getD (lf.getD j 0) 0) : Hu.seeX (lf.take (j + 1)) rs xs = Hu.seeX (lf.take j) rs xs := by
  refine Hu.ext10 (Hu.tab_len _ _) (Hu.tab_len _ _) fun i hi => ?_
  rw [Hu.seeX, Hu.seeX, Hu.tab_get _ hi, Hu.tab_get _ hi]
  have e1 : lf.take (j + 1) = lf.take j ++ [lf.getD j 0] := by rw [List.take_add_one, List.getElem?_eq_getElem hj]; simp [hj]
  have : (i ∈ lf.take (j + 1) ∧ rs.getD i 0 < xs.getD i 0) ↔ (i ∈ lf.take j ∧ rs.getD i 0 < xs.getD i 0) := by
    rw [e1, List.mem_append, List.mem_singleton]
    constructor
    · rintro ⟨h1 | rfl, h2⟩
      · exact ⟨h1, h2⟩
      · exact absurd h2 h
    · rintro ⟨h1, h2⟩; exact ⟨Or.inl h1, h2⟩
  simp only [this]
theorem seeY_set {lf : List Nat} {rs xs ys : List Int} {y : Int} {j : Nat} (hj : j < lf.length) (h : rs.getD (lf.getD j 0) 0 < xs.getD (lf.getD j 0) 0) : (Hu.seeY (lf.take j) rs xs ys y).set (lf.getD j 0) y = Hu.seeY (lf.take (j + 1)) rs xs ys y := by
  refine Hu.ext10 (by simp [Hu.seeY, Hu.tab]) (Hu.tab_len _ _) fun i hi => ?_
  rw [Hu.set_get9 _ _ _ _ (by simp [Hu.seeY, Hu.tab]; exact hi), Hu.seeY, Hu.seeY, Hu.tab_get _ hi, Hu.tab_get _ hi]
  have e1 : lf.take (j + 1) = lf.take j ++ [lf.getD j 0] := by rw [List.take_add_one, List.getElem?_eq_getElem hj]; simp [hj]
  by_cases e : i = lf.getD j 0
  · rw [if_pos e, if_pos ⟨by rw [e1, e]; simp, by rw [e]; exact h⟩]
  · rw [if_neg e]
    have : i ∈ lf.take (j + 1) ↔ i ∈ lf.take j := by rw [e1, List.mem_append, List.mem_singleton]; exact ⟨fun h => h.resolve_right e, Or.inl⟩
    simp only [this]
theorem seeY_same {lf : List Nat} {rs xs ys : List Int} {y : Int} {j : Nat} (hj : j < lf.length) (h : ¬ rs.getD (lf.getD j 0) 0 < xs.getD (lf.getD j 0) 0) : Hu.seeY (lf.take (j + 1)) rs xs ys y = Hu.seeY (lf.take j) rs xs ys y := by
  refine Hu.ext10 (Hu.tab_len _ _) (Hu.tab_len _ _) fun i hi => ?_
  rw [Hu.seeY, Hu.seeY, Hu.tab_get _ hi, Hu.tab_get _ hi]
  have e1 : lf.take (j + 1) = lf.take j ++ [lf.getD j 0] := by rw [List.take_add_one, List.getElem?_eq_getElem hj]; simp [hj]
  have : (i ∈ lf.take (j + 1) ∧ rs.getD i 0 < xs.getD i 0) ↔ (i ∈ lf.take j ∧ rs.getD i 0 < xs.getD i 0) := by
    rw [e1, List.mem_append, List.mem_singleton]
    constructor
    · rintro ⟨h1 | rfl, h2⟩
      · exact ⟨h1, h2⟩
      · exact absurd h2 h
    · rintro ⟨h1, h2⟩; exact ⟨Or.inl h1, h2⟩
  simp only [this]
theorem seeX_nil {rs xs : List Int} (hx : xs.length = 10) : Hu.seeX [] rs xs = xs := Hu.ext10 (Hu.tab_len _ _) hx fun i hi => by rw [Hu.seeX, Hu.tab_get _ hi]; simp
theorem seeY_nil {rs xs ys : List Int} {y : Int} (hy : ys.length = 10) : Hu.seeY [] rs xs ys y = ys := Hu.ext10 (Hu.tab_len _ _) hy fun i hi => by rw [Hu.seeY, Hu.tab_get _ hi]; simp
theorem seeX_at {lf : List Nat} {rs xs : List Int} {j : Nat} (hd : lf.Nodup) (hj : j < lf.length) (h10 : lf.getD j 0 < 10) : (Hu.seeX (lf.take j) rs xs).getD (lf.getD j 0) 0 = xs.getD (lf.getD j 0) 0 := by
  have hn : lf.getD j 0 ∉ lf.take j := by
    intro hm
    obtain ⟨i, hi, e⟩ := List.getElem_of_mem hm
    simp at hi
    rw [List.getElem_take] at e
    rw [List.getD_eq_getElem?_getD, List.getElem?_eq_getElem hj, Option.getD_some] at e
    exact List.pairwise_iff_getElem.1 hd i j (by omega) hj (by omega) e
  rw [Hu.seeX, Hu.tab_get _ h10, if_neg (fun h => hn h.1)]
end Go.Proofs.Ytcniegaogdggaaa
