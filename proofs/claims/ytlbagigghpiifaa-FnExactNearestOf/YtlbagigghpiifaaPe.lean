/-
  What l3Rank of the model answers: the ranks, in memory of its own.
-/
import Derived.Test.YtlbagigghpiifaaPd
import Derived.OwnWalk
import Derived.Laws.AppendOwn
import Derived.WalkMore
namespace Go.Proofs.Ytlbagigghpiifaa
open Go.RowKit Go.Sort

theorem inf3 : (Try.prog.info? 3).map (fun i => (i.zero, i.size, i.bytes)) = some (some (.int .i64 0), 1, 8) := by kernel_rfl
theorem int_cells (xs : List Int) : ∀ u ∈ ints xs, u.oneCell' = true := by
  intro u hu
  simp only [ints, List.mem_map] at hu
  obtain ⟨x, _, rfl⟩ := hu; rfl
theorem new_one (w : World) (x : Int) {H : Nat} (hH : w.heap.size = H) : ∀ (j : Nat) (u : Value), (ints [x])[j]? = some u → (w.alloc (.cells #[.int .i64 x] 3)).cell? ((⟨H, 0, none⟩ : Addr).add j) = some u := by
  intro j u hj
  subst hH
  match j, hj with
  | 0, hj => simp [ints] at hj; subst hj; simp [Addr.add]
theorem add_none (b o j : Nat) : (⟨b, o, none⟩ : Addr).add j = ⟨b, o + j, none⟩ := by unfold Addr.add; split <;> simp_all
/-- What stands from place o on, to be appended. -/
theorem news_at {w : World} {b o : Nat} {xs : List Int} (h : ∀ i, i < xs.length → w.cell? ⟨b, o + i, none⟩ = some (.int .i64 (xs.getD i 0))) : ∀ (j : Nat) (u : Value), (ints xs)[j]? = some u → w.cell? ((⟨b, o, none⟩ : Addr).add j) = some u := by
  intro j u hj
  have hl : j < xs.length := by
    rcases Nat.lt_or_ge j xs.length with h | h
    · exact h
    · rw [List.getElem?_eq_none (by simpa [ints] using h)] at hj; cases hj
  rw [ints_get xs j hl] at hj
  cases hj
  rw [add_none]; exact h j hl
theorem empty_row (w : World) : (w.alloc (.cells #[] 3)).ownsRow w.heap.size 3 1 (.slice (some ⟨w.heap.size, 0, none⟩) 0 0) 0 (ints []) :=
  ⟨rfl, .inr ⟨w.heap.size, 0, #[], rfl, Nat.le_refl _, heap_alloc_new w _, Nat.le_refl _, by unfold maxLen; omega, rfl, rfl⟩⟩
theorem far_block {w : World} {base e n b : Nat} {v : Value} {xs : List Value} (h : w.ownsRow base e 1 v n xs) (hb : b < base) : some b ≠ v.ownBlock := fun he => by
  have := h.lt b he.symm
  omega
theorem own_take {w : World} {b i cap base : Nat} {xs : List Int} (h : w.ownsRow base 3 1 (.slice (some ⟨b, 0, none⟩) i cap) i (ints xs)) (hx : xs.length = i) {j : Nat} (hj : j ≤ i) : ∀ t, t < (xs.take j).length → w.cell? ⟨b, 0 + t, none⟩ = some (.int .i64 ((xs.take j).getD t 0)) := by
  intro t ht
  simp at ht
  rw [Nat.zero_add, h.cellAt t (by omega), ints_get xs t (by omega)]
  simp [show t < j by omega]
theorem own_drop {w : World} {b i cap base : Nat} {xs : List Int} (h : w.ownsRow base 3 1 (.slice (some ⟨b, 0, none⟩) i cap) i (ints xs)) (hx : xs.length = i) (j : Nat) : ∀ t, t < (xs.drop j).length → w.cell? ⟨b, j + t, none⟩ = some (.int .i64 ((xs.drop j).getD t 0)) := by
  intro t ht
  simp at ht
  rw [h.cellAt (j + t) (by omega), ints_get xs (j + t) (by omega)]
  simp
theorem cells_kept {w w' : World} {b o : Nat} {xs : List Int} (hb : w'.heap[b]? = w.heap[b]?) (h : ∀ i, i < xs.length → w.cell? ⟨b, o + i, none⟩ = some (.int .i64 (xs.getD i 0))) : ∀ i, i < xs.length → w'.cell? ⟨b, o + i, none⟩ = some (.int .i64 (xs.getD i 0)) :=
  fun i hi => (World.cell?_of_block (w := w) (a := ⟨b, o + i, none⟩) hb).trans (h i hi)
end Go.Proofs.Ytlbagigghpiifaa
