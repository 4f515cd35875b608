/-
  The model's cursor: frac, and what DrawGoodFrac, DrawFloorFrac, DrawAddFrac, DrawLessFrac hand out: some fractions.
-/
import Derived.Test.YtmhednkbpniphaaBase
namespace Go.Proofs.Ytmhednkbpniphaa
open Go.RowKit

theorem Kp.alloc {c : Nat} {a w : World} (h : Kp c a w) (o : Obj) : Kp c a (w.alloc o) := h.trans (Kp.of_below (below_alloc w o))
theorem Kp.setNew {c B : Nat} {a w : World} (h : Kp c a w) (hB : a.heap.size ≤ B) (o : Nat) (v : Value) : Kp c a (w.setCell ⟨B, o, none⟩ v) :=
  ⟨h.os, h.tape, h.output, by simpa using h.size, fun k hk hne => (Below.heap_setCell w ⟨B, o, none⟩ v k (by show k ≠ B; omega)).trans (h.block k hk hne)⟩
theorem Cur.set {w : World} {c len cap N B o : Nat} {a : Option Addr} {v : Value} (h : Cur w c a len cap N) (hB : B ≠ c) (hb : ∀ b off, a = some ⟨b, off, none⟩ → 0 < len → b ≠ B) : Cur (w.setCell ⟨B, o, none⟩ v) c a len cap N := by
  obtain ⟨h0, h1, ⟨x, h2, h2'⟩, ⟨y, h3, h3', h3''⟩, h4, h5, h6, h7⟩ := h
  have hc : ∀ i j, i ≠ B → (w.setCell ⟨B, o, none⟩ v).cell? ⟨i, j, none⟩ = w.cell? ⟨i, j, none⟩ := fun i j hi => World.cell?_of_block (w := w) (Below.heap_setCell w ⟨B, o, none⟩ v i hi)
  have hf : ∀ x, (w.setCell ⟨B, o, none⟩ v).frozen? x = w.frozen? x := fun x => World.frozen?_setCell _ _ _ _
  refine ⟨by simpa using h0, (hc _ _ (Ne.symm hB)).trans h1, ⟨x, (hc _ _ (Ne.symm hB)).trans h2, h2'⟩, ⟨y, (hc _ _ (Ne.symm hB)).trans h3, h3', h3''⟩, (hf _).trans h4, (hf _).trans h5, ?_, ?_⟩
  · rcases h6 with h | ⟨b, off, rfl, hbb⟩
    · exact Or.inl h
    · refine Or.inr ⟨b, off, rfl, fun i hi => ?_⟩
      obtain ⟨z, hz, hz'⟩ := hbb i hi
      exact ⟨z, (hc _ _ (hb b off rfl (by omega))).trans hz, hz'⟩
  · intro b off e hl
    obtain ⟨hne, hlt⟩ := h7 b off e hl
    exact ⟨hne, by simpa using hlt⟩
theorem Kp.var {c : Nat} {W w1 : World} (hk : Kp c W w1) (b : Nat) (hb : b < W.heap.size) (hne : b ≠ c) (v0 v1 : Value) (h0 : W.cell? ⟨b, 0, none⟩ = some v0) (h1 : W.cell? ⟨b, 1, none⟩ = some v1) (h2 : W.frozen? ⟨b, 0, none⟩ = false) (h3 : W.frozen? ⟨b, 1, none⟩ = false) :
    w1.cell? ⟨b, 0, none⟩ = some v0 ∧ w1.cell? ⟨b, 1, none⟩ = some v1 ∧ w1.frozen? ⟨b, 0, none⟩ = false ∧ w1.frozen? ⟨b, 1, none⟩ = false :=
  ⟨(hk.cell hb hne).trans h0, (hk.cell hb hne).trans h1, (hk.frozen hb hne).trans h2, (hk.frozen hb hne).trans h3⟩
theorem six_cells (w : World) (t : TypeId) (z0 z1 z2 z3 z4 z5 : Int) : ∀ i, i < 6 → ∃ z : Int, (w.alloc (.cells #[.int .i64 z0, .int .i64 z1, .int .i64 z2, .int .i64 z3, .int .i64 z4, .int .i64 z5] t)).cell? ⟨w.heap.size, i, none⟩ = some (.int .i64 z) := by
  intro i hi
  have : i = 0 ∨ i = 1 ∨ i = 2 ∨ i = 3 ∨ i = 4 ∨ i = 5 := by omega
  rcases this with rfl | rfl | rfl | rfl | rfl | rfl
  · exact ⟨z0, by simp⟩
  · exact ⟨z1, by simp⟩
  · exact ⟨z2, by simp⟩
  · exact ⟨z3, by simp⟩
  · exact ⟨z4, by simp⟩
  · exact ⟨z5, by simp⟩

set_option maxRecDepth 100000 in
set_option maxHeartbeats 1000000 in
theorem frac_any {c len cap N : Nat} {a : Option Addr} {w : World} (hc : Cur w c a len cap N) (hN : N ≤ 800000000) :
    Calls Try.prog 61 #[.pointer (some ⟨c, 0, none⟩)] w fun e w' => ∃ n d : Int, e = .returned (.agg #[.int .i64 n, .int .i64 d]) ∧ Cur w' c a len cap (N + 10) ∧ Kp c w w' := by
  have hcs : c < w.heap.size := hc.1
  have hbb : ∀ b off, a = some ⟨b, off, none⟩ → 0 < len → b ≠ w.heap.size := fun b off e hl => by have := (hc.2.2.2.2.2.2.2 b off e hl).2; omega
  have HB := hide hbb
  have HC := hide (hc.below (below_alloc w (.cells #[.int .i64 0, .int .i64 0] 27)))
  clear hc hbb
  go_enter Try.func61, Try.ntmps61
  go_wp2_with fail
  refine (one_any 10 (by omega) HC.out (by omega)).mono ?_
  rintro e w1 ⟨r, rfl, hc1, hk1⟩
  have HC1 := hide hc1
  have HK1 := hide hk1
  obtain ⟨x0, x1, x2, x3⟩ := hk1.var w.heap.size (by simp) (by omega) (.int .i64 0) (.int .i64 0) (by simp) (by simp) (by simp [go_sem]) (by simp [go_sem])
  have hs1 : w.heap.size < w1.heap.size := by have := hk1.size; simp at this; omega
  clear hc1 hk1
  cases r
  · go_wp2_with fail
    refine (pick_any 61 (by omega) HC1.out (by omega)).mono ?_
    rintro e w2 ⟨z, rfl, z0, z1, hc2, hk2⟩
    have HC2 := hide hc2
    have HK2 := hide hk2
    obtain ⟨y0, y1, y2, y3⟩ := hk2.var w.heap.size hs1 (by omega) _ _ x0 x1 x2 x3
    have hs2 : w.heap.size < w2.heap.size := by have := hk2.size; omega
    clear hc2 hk2
    go_wp2_with fail
    refine (pick_any 12 (by omega) HC2.out (by omega)).mono ?_
    rintro e w3 ⟨y, rfl, q0, q1, hc3, hk3⟩
    have HC3 := hide hc3
    have HK3 := hide hk3
    obtain ⟨u0, u1, u2, u3⟩ := hk3.var w.heap.size hs2 (by omega) _ _ y0 y1 y2 y3
    have hs3 : w.heap.size < w3.heap.size := by have := hk3.size; omega
    clear hc3 hk3
    go_wp2_with fail
    refine (make_any (z - 30) (1 + y) _ (by omega) (by omega) (by omega) (by omega) (by omega)).mono ?_
    rintro e w4 ⟨rfl, hb4⟩
    obtain ⟨v0, v1, v2, v3⟩ := new_var hb4 w.heap.size _ _ u0 u1 u2 u3
    have hs4 : w.heap.size < w4.heap.size := by have := hb4.size; omega
    go_wp2_with fail
    refine bodyPost_ret (v := .agg #[.int .i64 (Fr.mkN (z - 30) (1 + y)), .int .i64 (Fr.mkD (z - 30) (1 + y))]) (by simp [results, Try.results61, go_sem, *]) rfl ⟨_, _, rfl, ?_, ?_⟩
    · exact (((HC3.out.below hb4).le (by omega)).set (by omega) HB.out).set (by omega) HB.out
    · exact ((((((Kp.refl c w).alloc _).trans HK1.out).trans HK2.out).trans HK3.out).trans (Kp.of_below hb4)).setNew (Nat.le_refl _) _ _ |>.setNew (Nat.le_refl _) _ _
  · go_wp2_with fail
    refine (among_any (HC1.out.below (below_alloc w1 _)) (by omega) (by omega) (by omega) (by simp) (by omega) (six_cells w1 _ _ _ _ _ _ _)).mono ?_
    rintro e w2 ⟨z, rfl, hc2, hk2⟩
    have hk2' : Kp c w1 w2 := ((Kp.refl c w1).alloc _).trans hk2
    have HC2 := hide hc2
    have HK2 := hide hk2'
    obtain ⟨y0, y1, y2, y3⟩ := hk2'.var w.heap.size hs1 (by omega) _ _ x0 x1 x2 x3
    have hs2 : w.heap.size < w2.heap.size := by have := hk2'.size; omega
    clear hc2 hk2 hk2'
    go_wp2_with fail
    refine (among_any (HC2.out.below (below_alloc w2 _)) (by omega) (by omega) (by omega) (by simp) (by omega) (six_cells w2 _ _ _ _ _ _ _)).mono ?_
    rintro e w3 ⟨y, rfl, hc3, hk3⟩
    have hk3' : Kp c w2 w3 := ((Kp.refl c w2).alloc _).trans hk3
    have HC3 := hide hc3
    have HK3 := hide hk3'
    obtain ⟨u0, u1, u2, u3⟩ := hk3'.var w.heap.size hs2 (by omega) _ _ y0 y1 y2 y3
    have hs3 : w.heap.size < w3.heap.size := by have := hk3'.size; omega
    clear hc3 hk3 hk3'
    go_wp2_with fail
    refine bodyPost_ret (v := .agg #[.int .i64 z, .int .i64 y]) (by simp [results, Try.results61, go_sem, *]) rfl ⟨_, _, rfl, ?_, ?_⟩
    · exact ((HC3.out.le (by omega)).set (by omega) HB.out).set (by omega) HB.out
    · exact ((((((Kp.refl c w).alloc _).trans HK1.out).trans HK2.out).trans HK3.out)).setNew (Nat.le_refl _) _ _ |>.setNew (Nat.le_refl _) _ _

/-- Bytes that were handed in: they lie in old memory. -/
def Src (w : World) (a : Option Addr) (len : Nat) : Prop := Bytes w a len ∧ ∀ b off, a = some ⟨b, off, none⟩ → 0 < len → b < w.heap.size
theorem Src.below {w w' : World} {a : Option Addr} {len : Nat} (h : Src w a len) (hb : Below w.heap.size w w') : Src w' a len := by
  obtain ⟨h6, h7⟩ := h
  obtain ⟨hc, _⟩ := bcell hb
  refine ⟨?_, fun b off e hl => Nat.lt_of_lt_of_le (h7 b off e hl) hb.size⟩
  rcases h6 with h | ⟨b, off, rfl, hbb⟩
  · exact Or.inl h
  · refine Or.inr ⟨b, off, rfl, fun i hi => ?_⟩
    obtain ⟨z, hz, hz'⟩ := hbb i hi
    exact ⟨z, (hc _ _ (h7 b off rfl (by omega))).trans hz, hz'⟩
theorem cur_new {w : World} {a : Option Addr} {len cap : Nat} (h : Src w a len) : Cur (w.alloc (.cells #[.slice a len cap, .int .i64 0, .int .u64 0] 53)) w.heap.size a len cap 0 := by
  have h' := h.below (below_alloc w (.cells #[.slice a len cap, .int .i64 0, .int .u64 0] 53))
  exact ⟨by simp, by simp, ⟨0, by simp, Nat.le_refl _⟩, ⟨0, by simp, by omega, by omega⟩, by simp [go_sem], by simp [go_sem], h'.1, fun b off e hl => ⟨by have := h.2 b off e hl; omega, h'.2 b off e hl⟩⟩

end Go.Proofs.Ytmhednkbpniphaa
