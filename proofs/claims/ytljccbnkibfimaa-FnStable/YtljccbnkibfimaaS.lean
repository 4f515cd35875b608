/-
  The model's cursor: frac, and what DrawGoodFrac, DrawFloorFrac, DrawAddFrac, DrawLessFrac hand out: some fractions.
-/
import Derived.Test.YtljccbnkibfimaaR
namespace Go.Proofs.Ytljccbnkibfimaa
open Go.RowKit

theorem Kp.alloc {c : Nat} {a w : World} (h : Kp c a w) (o : Obj) : Kp c a (w.alloc o) := h.trans (Kp.of_below (below_alloc w o))
theorem Kp.setNew {c B : Nat} {a w : World} (h : Kp c a w) (hB : a.heap.size ≤ B) (o : Nat) (v : Value) : Kp c a (w.setCell ⟨B, o, none⟩ v) :=
  ⟨h.os, h.tape, h.output, by simpa using h.size, fun k hk hne => (Below.heap_setCell w ⟨B, o, none⟩ v k (by show k ≠ B; omega)).trans (h.block k hk hne)⟩
theorem Cur.set {w : World} {c len cap N B o : Nat} {a : Option Addr} {v : Value} (h : Cur w c a len cap N) (hB : B ≠ c) (hb : ∀ b off, a = some ⟨b, off, none⟩ → 0 < len → b ≠ B) : Cur (w.setCell ⟨B, o, none⟩ v) c a len cap N := by
  obtain ⟨h0, h1, ⟨x, h2, h2'⟩, ⟨y, h3, h3', h3''⟩, h4, h5, h6, h7⟩ := h
  have hc : ∀ i j, i ≠ B → (w.setCell ⟨B, o, none⟩ v).cell? ⟨i, j, none⟩ = w.cell? ⟨i, j, none⟩ := fun i j hi => World.cell?_of_block (w := w) (Below.heap_setCell w ⟨B, o, none⟩ v i hi)
  have hf : ∀ x, (w.setCell ⟨B, o, none⟩ v).frozen? x = w.frozen? x := fun x => World.frozen?_setCell _ _ _ _
  refine ⟨by simpa using h0, (hc _ _ (Ne.symm hB)).trans h1, ⟨x, (hc _ _ (Ne.symm hB)).trans h2, h2'⟩, ⟨y, (hc _ _ (Ne.symm hB)).trans h3, h3', h3''⟩, (hf _).trans h4, (hf _).trans h5, ?_, ?_⟩
  · rcases h6 with h | ⟨b, off, rfl, hbb⟩
    · exact Or.inl h
    · refine Or.inr ⟨b, off, rfl, fun i hi => ?_⟩
      obtain ⟨z, hz, hz'⟩ := hbb i hi
      exact ⟨z, (hc _ _ (hb b off rfl (by omega))).trans hz, hz'⟩
  · intro b off e hl
    obtain ⟨hne, hlt⟩ := h7 b off e hl
    exact ⟨hne, by simpa using hlt⟩
theorem Kp.var {c : Nat} {W w1 : World} (hk : Kp c W w1) (b : Nat) (hb : b < W.heap.size) (hne : b ≠ c) (v0 v1 : Value) (h0 : W.cell? ⟨b, 0, none⟩ = some v0) (h1 : W.cell? ⟨b, 1, none⟩ = some v1) (h2 : W.frozen? ⟨b, 0, none⟩ = false) (h3 : W.frozen? ⟨b, 1, none⟩ = false) :
    w1.cell? ⟨b, 0, none⟩ = some v0 ∧ w1.cell? ⟨b, 1, none⟩ = some v1 ∧ w1.frozen? ⟨b, 0, none⟩ = false ∧ w1.frozen? ⟨b, 1, none⟩ = false :=
  ⟨(hk.cell hb hne).trans h0, (hk.cell hb hne).trans h1, (hk.frozen hb hne).trans h2, (hk.frozen hb hne).trans h3⟩
theorem six_cells (w : World) (t : TypeId) (z0 z1 z2 z3 z4 z5 : Int) : ∀ i, i < 6 → ∃ z : Int, (w.alloc (.cells #[.int .i64 z0, .int .i64 z1, .int .i64 z2, .int .i64 z3, .int .i64 z4, .int .i64 z5] t)).cell? ⟨w.heap.size, i, none⟩ = some (.int .i64 z) := by
  intro i hi
  have : i = 0 ∨ i = 1 ∨ i = 2 ∨ i = 3 ∨ i = 4 ∨ i = 5 := by omega
  rcases this with rfl | rfl | rfl | rfl | rfl | rfl
  · exact ⟨z0, by simp⟩
  · exact ⟨z1, by simp⟩
  · exact ⟨z2, by simp⟩
  · exact ⟨z3, by simp⟩
  · exact ⟨z4, by simp⟩
  · exact ⟨z5, by simp⟩

/-- Bytes that were handed in: they lie in old memory. -/
def Src (w : World) (a : Option Addr) (len : Nat) : Prop := Bytes w a len ∧ ∀ b off, a = some ⟨b, off, none⟩ → 0 < len → b < w.heap.size
theorem Src.below {w w' : World} {a : Option Addr} {len : Nat} (h : Src w a len) (hb : Below w.heap.size w w') : Src w' a len := by
  obtain ⟨h6, h7⟩ := h
  obtain ⟨hc, _⟩ := bcell hb
  refine ⟨?_, fun b off e hl => Nat.lt_of_lt_of_le (h7 b off e hl) hb.size⟩
  rcases h6 with h | ⟨b, off, rfl, hbb⟩
  · exact Or.inl h
  · refine Or.inr ⟨b, off, rfl, fun i hi => ?_⟩
    obtain ⟨z, hz, hz'⟩ := hbb i hi
    exact ⟨z, (hc _ _ (h7 b off rfl (by omega))).trans hz, hz'⟩
theorem cur_new {w : World} {a : Option Addr} {len cap : Nat} (h : Src w a len) : Cur (w.alloc (.cells #[.slice a len cap, .int .i64 0, .int .u64 0] 76)) w.heap.size a len cap 0 := by
  have h' := h.below (below_alloc w (.cells #[.slice a len cap, .int .i64 0, .int .u64 0] 76))
  exact ⟨by simp, by simp, ⟨0, by simp, Nat.le_refl _⟩, ⟨0, by simp, by omega, by omega⟩, by simp [go_sem], by simp [go_sem], h'.1, fun b off e hl => ⟨by have := h.2 b off e hl; omega, h'.2 b off e hl⟩⟩

end Go.Proofs.Ytljccbnkibfimaa
