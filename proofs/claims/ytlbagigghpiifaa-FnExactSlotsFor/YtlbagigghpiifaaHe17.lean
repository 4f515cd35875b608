/-
  What the program's order of goods answers: by picks for each slot, the most first. The library's sort by its contract, over a comparison that lays blocks.
-/
import Derived.Test.YtlbagigghpiifaaHd17
import Derived.Test.YtlbagigghpiifaaSc
import Derived.Shelf.SlSortCmp.Insertion1
namespace Go.Proofs.Ytlbagigghpiifaa
open Go.RowKit Go.Sort

theorem drew_zero17 (w : World) : w.drewN 0 = w := rfl
theorem alloc2_grow (w : World) (o1 o2 : Obj) : (w.alloc o1).alloc o2 = grow (w.drewN 0) #[o1, o2] := by
  rw [alloc_eq_grow, alloc_eq_grow, grow_grow]; rfl
set_option maxHeartbeats 400000 in
theorem cmpG_same (n1 d1 : Int) (w : World) :
    Calls Try.prog 68 #[.agg #[.int .i64 n1, .int .i64 d1], .agg #[.int .i64 n1, .int .i64 d1]] w fun e w' => e = .returned (.int .i64 0) ∧ ∃ q os, w' = grow (w.drewN q) os := by
  have q1 := frac_eq n1 d1 n1 d1
  have q2 := fun x y => frac_eqg x y n1 d1 n1 d1
  simp at q1
  go_enter Try.func68, Try.ntmps68
  go_wp2
  go_ret
  exact ⟨rfl, 0, _, alloc2_grow _ _ _⟩
set_option maxHeartbeats 400000 in
theorem cmpG_lt (n1 d1 n2 d2 : Int) (w : World) (h1 : Fr.goodB n1 d1 = true) (h2 : Fr.goodB n2 d2 = true) (h : (n1 == n2 && d1 == d2) = false) (hl : n1 * d2 < n2 * d1) :
    Calls Try.prog 68 #[.agg #[.int .i64 n1, .int .i64 d1], .agg #[.int .i64 n2, .int .i64 d2]] w fun e w' => e = .returned (.int .i64 (-1)) ∧ ∃ q os, w' = grow (w.drewN q) os := by
  obtain ⟨a0, a1, a2, a3⟩ := Fr.good_bd n1 d1 h1
  obtain ⟨b0, b1, b2, b3⟩ := Fr.good_bd n2 d2 h2
  have m1 := wrap_mul n1 d2 (by omega) (by omega) (by omega) (by omega)
  have m2 := wrap_mul n2 d1 (by omega) (by omega) (by omega) (by omega)
  have q1 := frac_eq n1 d1 n2 d2
  have q2 := fun x y => frac_eqg x y n1 d1 n2 d2
  rw [h] at q1
  clear h1 h2 h
  go_enter Try.func68, Try.ntmps68
  go_wp2
  go_ret
  exact ⟨rfl, 0, _, alloc2_grow _ _ _⟩
set_option maxHeartbeats 400000 in
theorem cmpG_gt (n1 d1 n2 d2 : Int) (w : World) (h1 : Fr.goodB n1 d1 = true) (h2 : Fr.goodB n2 d2 = true) (h : (n1 == n2 && d1 == d2) = false) (hl : ¬ n1 * d2 < n2 * d1) :
    Calls Try.prog 68 #[.agg #[.int .i64 n1, .int .i64 d1], .agg #[.int .i64 n2, .int .i64 d2]] w fun e w' => e = .returned (.int .i64 1) ∧ ∃ q os, w' = grow (w.drewN q) os := by
  obtain ⟨a0, a1, a2, a3⟩ := Fr.good_bd n1 d1 h1
  obtain ⟨b0, b1, b2, b3⟩ := Fr.good_bd n2 d2 h2
  have m1 := wrap_mul n1 d2 (by omega) (by omega) (by omega) (by omega)
  have m2 := wrap_mul n2 d1 (by omega) (by omega) (by omega) (by omega)
  have q1 := frac_eq n1 d1 n2 d2
  have q2 := fun x y => frac_eqg x y n1 d1 n2 d2
  rw [h] at q1
  clear h1 h2 h
  go_enter Try.func68, Try.ntmps68
  go_wp2
  go_ret
  exact ⟨rfl, 0, _, alloc2_grow _ _ _⟩
theorem cmpG_any {p q : Int × Int} {x y : Int} {w : World} (h1 : Sh.goodF p = true) (h2 : Sh.goodF q = true) (hx : p.1 * q.2 < q.1 * p.2 ↔ x < y) (hy : q.1 * p.2 < p.1 * q.2 ↔ y < x) :
    Calls Try.prog 68 #[.agg #[.int .i64 p.1, .int .i64 p.2], .agg #[.int .i64 q.1, .int .i64 q.2]] w fun e w' => e = .returned (.int .i64 (cmpI x y)) ∧ ∃ q os, w' = grow (w.drewN q) os := by
  have hcs := Fr.frac_uniq p.1 p.2 q.1 q.2 h1 h2
  unfold cmpI
  cases h : (p.1 == q.1 && p.2 == q.2)
  · by_cases hl : p.1 * q.2 < q.1 * p.2
    · rw [if_pos (hx.1 hl)]
      exact cmpG_lt _ _ _ _ w h1 h2 h hl
    · have hg : q.1 * p.2 < p.1 * q.2 := by
        rcases Int.lt_or_le (q.1 * p.2) (p.1 * q.2) with e | e
        · exact e
        · have := hcs (by omega)
          simp [this.1, this.2] at h
      rw [if_neg (fun e => hl (hx.2 e)), if_pos (hy.1 hg)]
      exact cmpG_gt _ _ _ _ w h1 h2 h hl
  · simp only [Bool.and_eq_true, beq_iff_eq] at h
    obtain ⟨e1, e2⟩ := h
    rw [if_neg (fun e => by have := hx.2 e; rw [e1, e2] at this; omega), if_neg (fun e => by have := hy.2 e; rw [e1, e2] at this; omega), e1, e2]
    exact cmpG_same _ _ w

set_option maxHeartbeats 1000000 in
theorem me_any {W : World} {B b n c i j : Nat} {p q : Int × Int} {x y : Int} (hi : i < n) (hj : j < n) (hBs : B < W.heap.size) (hbs : b < W.heap.size) (hB : W.cell? ⟨B, 0, none⟩ = some (.slice (some ⟨b, 0, none⟩) n c))
    (hp1 : W.cell? ⟨b, i * 2, none⟩ = some (.int .i64 p.1)) (hp2 : W.cell? ⟨b, i * 2 + 1, none⟩ = some (.int .i64 p.2)) (hq1 : W.cell? ⟨b, j * 2, none⟩ = some (.int .i64 q.1)) (hq2 : W.cell? ⟨b, j * 2 + 1, none⟩ = some (.int .i64 q.2))
    (h1 : Sh.goodF p = true) (h2 : Sh.goodF q = true) (hx : q.1 * p.2 < p.1 * q.2 ↔ y < x) (hy : p.1 * q.2 < q.1 * p.2 ↔ x < y) :
    Calls Try.prog 67 #[.int .i64 i, .int .i64 j, .pointer (some ⟨B, 0, none⟩)] W fun e w' => e = .returned (.int .i64 (cmpI y x)) ∧ ∃ q os, w' = grow (W.drewN q) os := by
  have i0 : (0 : Int) ≤ (i : Int) := by omega
  have i1 : (i : Int) < (n : Int) := by omega
  have j0 : (0 : Int) ≤ (j : Int) := by omega
  have j1 : (j : Int) < (n : Int) := by omega
  have mixed : Try.prog.follows .mixedOrders = true := by kernel_rfl
  have lB := fun m os => cell_grown hBs hB m os
  have lp1 := fun m os => cell_grown hbs hp1 m os
  have lp2 := fun m os => cell_grown hbs hp2 m os
  have lq1 := fun m os => cell_grown hbs hq1 m os
  have lq2 := fun m os => cell_grown hbs hq2 m os
  have HC := hide fun (w : World) => cmpG_any (w := w) h2 h1 hx hy
  clear hi hj hB hp1 hp2 hq1 hq2 h1 h2 hx hy
  obtain ⟨p1, p2⟩ := p
  obtain ⟨q1, q2⟩ := q
  simp only at lp1 lp2 lq1 lq2 HC
  go_enter Try.func67, Try.ntmps67
  go_wp2_with fail
  go_quiet_grown ((go_at_call 68; exact Calls.grown_of (HC.out _)))
  go_wp2_with fail
  go_ret
  exact ⟨rfl, _, _, rfl⟩
end Go.Proofs.Ytlbagigghpiifaa
