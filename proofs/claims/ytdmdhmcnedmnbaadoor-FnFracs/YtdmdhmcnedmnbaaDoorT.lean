/-
  What DrawAddFrac and DrawLessFrac hand out: some two fractions.
-/
import Derived.Test.YtdmdhmcnedmnbaaDoorS
import Derived.Deep.RegionHeld3
namespace Go.Proofs.YtdmdhmcnedmnbaaDoor
open Go.RowKit

theorem heldV_set {w1 : World} {b B i : Nat} {v0 v1 v : Value} (s : w1.cell? ⟨b, 0, none⟩ = some v0 ∧ w1.cell? ⟨b, 1, none⟩ = some v1) (h : b ≠ B) :
    (w1.setCell ⟨B, i, none⟩ v).cell? ⟨b, 0, none⟩ = some v0 ∧ (w1.setCell ⟨B, i, none⟩ v).cell? ⟨b, 1, none⟩ = some v1 := by
  have hc : ∀ j, (w1.setCell ⟨B, i, none⟩ v).cell? ⟨b, j, none⟩ = w1.cell? ⟨b, j, none⟩ := fun j => World.cell?_of_block (w := w1) (Below.heap_setCell w1 ⟨B, i, none⟩ v b h)
  exact ⟨(hc 0).trans s.1, (hc 1).trans s.2⟩
theorem heldV_kp {c b : Nat} {w1 w2 : World} {v0 v1 : Value} (s : w1.cell? ⟨b, 0, none⟩ = some v0 ∧ w1.cell? ⟨b, 1, none⟩ = some v1) (hk : Kp c w1 w2) (hb : b < w1.heap.size) (hne : b ≠ c) :
    w2.cell? ⟨b, 0, none⟩ = some v0 ∧ w2.cell? ⟨b, 1, none⟩ = some v1 := ⟨(hk.cell hb hne).trans s.1, (hk.cell hb hne).trans s.2⟩

theorem frac_after {w2 : World} {B D len cap N : Nat} {a : Option Addr} {v0 v1 : Value} (hc : Cur w2 (B + 1 + 1) a len cap N) (hN : N ≤ 800000000) (hs2 : D < w2.heap.size) (hB : B + 2 < D)
    (a0 : w2.cell? ⟨D, 0, none⟩ = some v0) (a1 : w2.cell? ⟨D, 1, none⟩ = some v1)
    (x0 : w2.cell? ⟨B, 0, none⟩ = some (.int .i64 0)) (x1 : w2.cell? ⟨B, 1, none⟩ = some (.int .i64 0)) (x2 : w2.frozen? ⟨B, 0, none⟩ = false) (x3 : w2.frozen? ⟨B, 1, none⟩ = false)
    (y0 : w2.cell? ⟨B + 1, 0, none⟩ = some (.int .i64 0)) (y1 : w2.cell? ⟨B + 1, 1, none⟩ = some (.int .i64 0)) (y2 : w2.frozen? ⟨B + 1, 0, none⟩ = false) (y3 : w2.frozen? ⟨B + 1, 1, none⟩ = false) :
    Calls Tryd.prog 21 #[.pointer (some ⟨B + 1 + 1, 0, none⟩)] w2.drew fun e w3 => ∃ n d : Int, e = .returned (.agg #[.int .i64 n, .int .i64 d]) ∧ Kp (B + 1 + 1) w2.drew w3 ∧
      (w3.cell? ⟨D, 0, none⟩ = some v0 ∧ w3.cell? ⟨D, 1, none⟩ = some v1) ∧
      (w3.cell? ⟨B, 0, none⟩ = some (.int .i64 0) ∧ w3.cell? ⟨B, 1, none⟩ = some (.int .i64 0) ∧ w3.frozen? ⟨B, 0, none⟩ = false ∧ w3.frozen? ⟨B, 1, none⟩ = false) ∧
      (w3.cell? ⟨B + 1, 0, none⟩ = some (.int .i64 0) ∧ w3.cell? ⟨B + 1, 1, none⟩ = some (.int .i64 0) ∧ w3.frozen? ⟨B + 1, 0, none⟩ = false ∧ w3.frozen? ⟨B + 1, 1, none⟩ = false) := by
  refine (frac_any (hc.below (Below.refl _ _).drew) hN).mono ?_
  rintro e w3 ⟨n, d, rfl, _, hk⟩
  have hs : w2.drew.heap.size = w2.heap.size := rfl
  exact ⟨n, d, rfl, hk, heldV_kp (w1 := w2.drew) ⟨a0, a1⟩ hk (by omega) (by omega), hk.var B (by omega) (by omega) _ _ x0 x1 x2 x3, hk.var (B + 1) (by omega) (by omega) _ _ y0 y1 y2 y3⟩

set_option maxHeartbeats 2000000 in
theorem drawAdd_any (a : Option Addr) (len cap : Nat) (w : World) (hs : Src w a len) :
    Calls Tryd.prog 4 #[.slice a len cap] w fun e w' => ∃ n1 d1 n2 d2 : Int, e = .returned (.tuple #[.agg #[.int .i64 n1, .int .i64 d1], .agg #[.int .i64 n2, .int .i64 d2]]) ∧ Below w.heap.size w w' := by
  have hcur := cur_new (cap := cap) ((hs.below (below_alloc w (.cells #[.int .i64 0, .int .i64 0] 24))).below (below_alloc _ (.cells #[.int .i64 0, .int .i64 0] 24)))
  simp only [World.size_alloc] at hcur
  have HC := hide hcur
  clear hs hcur
  go_enter Tryd.func4, Tryd.ntmps4
  go_wp2_with fail
  refine (frac_any HC.out (by omega)).mono ?_
  rintro e w1 ⟨n1, d1, rfl, hc1, hk1⟩
  have HC1 := hide hc1
  obtain ⟨x0, x1, x2, x3⟩ := hk1.var w.heap.size (by simp; omega) (by simp; omega) (.int .i64 0) (.int .i64 0) (by simp [go_sem]) (by simp [go_sem]) (by simp [go_sem]) (by simp [go_sem])
  obtain ⟨y0, y1, y2, y3⟩ := hk1.var (w.heap.size + 1) (by simp) (by simp) (.int .i64 0) (.int .i64 0) (by simp [go_sem]) (by simp [go_sem]) (by simp [go_sem]) (by simp [go_sem])
  have hB : Below w.heap.size w w1 := ((((Below.refl _ _).alloc (Nat.le_refl _) _).alloc (by simp) _).alloc (by simp; omega) _).trans (hk1.below (by omega) (by simp; omega))
  have hs1 : w.heap.size + 2 < w1.heap.size := by have := hk1.size; simp at this; omega
  clear hc1 hk1
  go_wp2_with fail
  refine (one_any 6 (by omega) (HC1.out.below (below_alloc w1 _)) (by omega)).mono ?_
  rintro e w2 ⟨r, rfl, hc2, hk2⟩
  have hk2' : Kp (w.heap.size + 1 + 1) w1 w2 := ((Kp.refl _ w1).alloc _).trans hk2
  have HC2 := hide hc2
  obtain ⟨a0, a1, a2, a3⟩ := hk2.var w1.heap.size (by simp) (by omega) (.int .i64 n1) (.int .i64 d1) (by simp [go_sem]) (by simp [go_sem]) (by simp [go_sem]) (by simp [go_sem])
  obtain ⟨x0', x1', x2', x3'⟩ := hk2'.var w.heap.size (by omega) (by omega) _ _ x0 x1 x2 x3
  obtain ⟨y0', y1', y2', y3'⟩ := hk2'.var (w.heap.size + 1) (by omega) (by omega) _ _ y0 y1 y2 y3
  have hB2 : Below w.heap.size w w2 := hB.trans (hk2'.below (by omega) (by omega))
  have hs2 : w1.heap.size < w2.heap.size := by have := hk2.size; simp at this; omega
  clear hc2 hk2 hk2' x0 x1 x2 x3 y0 y1 y2 y3
  have hN2 : 0 + 10 + 2 ≤ 800000000 := by omega
  cases r
  · go_wp2_with fail
    go_region_held3 (fun w' => w'.cell? ⟨w1.heap.size, 0, none⟩ = some (.int .i64 n1) ∧ w'.cell? ⟨w1.heap.size, 1, none⟩ = some (.int .i64 d1)) (first | (refine heldV_set (heldV_set ?_ ?_) ?_ <;> first | assumption | omega) | assumption | (constructor <;> assumption))
      (first
      | (go_at_call 21; refine (frac_after HC2.out hN2 hs2 hs1 a0 a1 x0' x1' x2' x3' y0' y1' y2' y3').mono ?_; rintro e w3 ⟨n2, d2, rfl, hk3, hS3, ⟨u0, u1, u2, u3⟩, ⟨v0, v1, v2, v3⟩⟩))
    go_wp2_with fail
    refine bodyPost_ret (v := .tuple #[.agg #[.int .i64 n1, .int .i64 d1], .agg #[.int .i64 n2, .int .i64 d2]]) (by simp [results, Tryd.results4, go_sem, *]) rfl ⟨_, _, _, _, rfl, ?_⟩
    have hB3 : Below w.heap.size w w3 := hB2.drew.trans (hk3.below (by omega) (show w.heap.size ≤ w2.heap.size by omega))
    exact (((hB3.setCell (Nat.le_refl _) _).setCell (Nat.le_refl _) _).setCell (Nat.le_succ _) _).setCell (Nat.le_succ _) _
  · go_wp2_with fail
    go_region
    go_wp2_with fail
    refine bodyPost_ret (v := .tuple #[.agg #[.int .i64 n1, .int .i64 d1], .agg #[.int .i64 n1, .int .i64 d1]]) (by simp [results, Tryd.results4, go_sem, *]) rfl ⟨_, _, _, _, rfl, ?_⟩
    exact ((((hB2.setCell (Nat.le_refl _) _).setCell (Nat.le_refl _) _).setCell (Nat.le_succ _) _).setCell (Nat.le_succ _) _).drew

end Go.Proofs.YtdmdhmcnedmnbaaDoor
