/-
  Costs and prices that are marked one behind the other.
-/
import Derived.Test.YtcniegaogdggaaaQzb
namespace Go.Proofs.Ytcniegaogdggaaa
open Go.RowKit

set_option maxHeartbeats 2000000 in
theorem markC_bd {B hi n : Nat} {F : List (List Int)} {w : World} (HN : Hid (F.length = n)) (hn' : n ≤ 1048576) (HL : Hid (∀ i, i < n → (F.getD i []).length ≤ 1048576)) (h : COw w B hi F) :
    Calls Try.prog 18 #[.slice (some ⟨B, 0, none⟩) n n, .int .i64 1] w fun e w' => ∃ q : Int, e = .returned (.int .i64 q) ∧ 0 ≤ q ∧ q ≤ 1100000000000 ∧ Rng B hi w w' := by
  obtain ⟨hz, hBz, gs, hgz, h⟩ := h
  have H := hide h
  have HZ := hide hgz
  clear h hgz
  go_enter Try.func18, Try.ntmps18
  go_wp2_with fail
  go_loopw [1, 5] (fun s t wr => ∃ (i : Nat) (q : Int), s = .int .i64 q ∧ t = .int .i64 i ∧ i ≤ n ∧ 0 ≤ q ∧ q ≤ 1 + 1048576 * (i : Int) ∧ Hid (MkC w wr B hi gs F i)) (fun _ t _ => n - (intOf t).toNat)
  case atStart =>
    refine ⟨0, 1, rfl, rfl, Nat.zero_le _, by omega, by omega, hide ⟨fun t ht => ?_, fun t _ ht => H.out.2.2.1 t ht, Rng.refl _ _ _⟩⟩
    rw [H.out.2.1.cellAt t (by omega)]
    simp [cvals, ht]
  case round =>
    obtain ⟨i, q, rfl, rfl, hi', q0, q1, HM⟩ := hrel
    by_cases hlt : i < n
    · have hiL : i < F.length := by rw [HN.out]; exact hlt
      have c0 := HM.out.1 i hiL
      have HO := hide (HM.out.2.1 i (Nat.le_refl _) hiL)
      have hln := HL.out i hlt
      unfold cv at c0 HO
      generalize hm : (F.getD i []).length = m at c0 HO hln
      generalize hg : gs.getD i 0 = g at c0 HO
      have i0 : (0 : Int) ≤ (i : Int) := by omega
      have i1 : (i : Int) < (n : Int) := by omega
      have HX := hide hm
      have HG := hide hg
      clear hm hg
      go_wp2_with fail
      refine (mark_any g m m B (F.getD i []) q _ HX.out (by omega) (by omega) (by omega) HO.out).mono ?_
      rintro e w2 ⟨rfl, _, hg2⟩
      have hgm : g ∈ gs := by rw [← HG.out]; exact H.out.at_mem hiL
      have hgb := (H.out.lt hgm)
      have hgh := HZ.out g hgm
      have hBg := H.out.2.2.2.2 g hgm
      have HM2 : Hid (MkC w w2 B hi gs F (i + 1)) := hide (by
        obtain ⟨m1, m2, m3⟩ := HM.out
        refine ⟨fun t ht => ?_, fun t h1 h2 => ?_, m3.grown hg2 (by omega) hgh⟩
        · have hBs := (H.out.2.1.lt B rfl).2
          have := m3.2.2.2.1
          exact (World.cell?_of_block (w := wr) (a := ⟨B, t, none⟩) (hg2.block B (by omega) (by simp; omega))).trans (m1 t ht)
        · refine (m2 t (by omega) h2).kept hg2 (Or.inr ?_)
          have := lt_of_pw8 H.out.2.2.2.1 (show i < t by omega) (by rw [H.out.1]; exact h2)
          rw [HG.out] at this
          simp only [cv, Value.ownBlock, ne_eq, Option.some.injEq]
          omega)
      clear hg2
      go_wp2_with fail
      go_roundw
      case rel => exact ⟨i + 1, q + m, rfl, by go_num, by omega, by omega, by omega, HM2⟩
      case measure => simp only [intOf]; omega
    · go_wp2_with fail
      go_ret
      exact ⟨q, rfl, q0, by omega, HM.out.2.2⟩
set_option maxHeartbeats 2000000 in
theorem markPr_bd {x y n m c d base : Nat} {ps fs : List Int} {k : Int} {w : World} (hx : ps.length = n) (hy : fs.length = m) (hn : n ≤ 1048576) (hm : m ≤ 1048576) (k0 : 0 ≤ k) (k1 : k ≤ 1200000000000) (hne : x ≠ y)
    (own1 : w.ownsRow base 3 1 (.slice (some ⟨x, 0, none⟩) n c) n (ints ps)) (own2 : w.ownsRow base 3 1 (.slice (some ⟨y, 0, none⟩) m d) m (ints fs)) :
    Calls Try.prog 20 #[.agg #[.slice (some ⟨x, 0, none⟩) n c, .slice (some ⟨y, 0, none⟩) m d], .int .i64 k] w fun e w' => e = .returned (.int .i64 (k + n + m)) ∧ Hid (∀ j : Nat, j < n → w'.cell? ⟨x, j, none⟩ = some (.int .i64 (k + j))) ∧ Hid (∀ j : Nat, j < m → w'.cell? ⟨y, j, none⟩ = some (.int .i64 (k + n + j))) ∧ Off2 w w' x y := by
  have bn := below_new w (.cells #[.slice (some ⟨x, 0, none⟩) n c, .slice (some ⟨y, 0, none⟩) m d] 29)
  have lx := own_near own1
  have ly := own_near own2
  have O1 := hide (owns_keep own1 (bn.block x lx))
  have O2 := hide (owns_keep own2 (bn.block y ly))
  have HX := hide hx
  have HY := hide hy
  clear own1 own2 hx hy
  go_enter Try.func20, Try.ntmps20
  go_wp2_with fail
  refine (mark_any x n c base ps k _ HX.out (by omega) k0 (by omega) O1.out).mono ?_
  rintro e w1 ⟨rfl, ⟨ys, hys, hcs, own1⟩, hg1⟩
  have C1 := hide (fun (j : Nat) (hj : j < n) => show w1.cell? ⟨x, j, none⟩ = some (.int .i64 (k + j)) by rw [own1.cellAt j (by omega), ints_get ys j (by omega), hcs j hj])
  have O2' := hide (owns_keep O2.out (hg1.block y (by simp; omega) (by simp; omega)))
  have p1 : w1.cell? ⟨w.heap.size, 1, none⟩ = some (.slice (some ⟨y, 0, none⟩) m d) := (World.cell?_of_block (w := w.alloc (.cells #[.slice (some ⟨x, 0, none⟩) n c, .slice (some ⟨y, 0, none⟩) m d] 29)) (a := ⟨w.heap.size, 1, none⟩) (hg1.block w.heap.size (by simp) (by simp; omega))).trans (by simp [go_sem])
  clear hcs own1 hys
  go_wp2_with fail
  refine (mark_any y m d base fs (k + n) _ HY.out (by omega) (by omega) (by omega) O2'.out).mono ?_
  rintro e w2 ⟨rfl, ⟨zs, hzs, hcs, own2⟩, hg2⟩
  have C2 := hide (fun (j : Nat) (hj : j < m) => show w2.cell? ⟨y, j, none⟩ = some (.int .i64 (k + n + j)) by rw [own2.cellAt j (by omega), ints_get zs j (by omega), hcs j hj])
  have s1 : w.heap.size ≤ w1.heap.size := Nat.le_trans (by simp) hg1.size
  have C1' := hide (fun (j : Nat) (hj : j < n) => (World.cell?_of_block (w := w1) (a := ⟨x, j, none⟩) (hg2.block x (by omega) (by simp; omega))).trans (C1.out j hj))
  have hoff : Off2 w w2 x y := ⟨(hg2.os.trans hg1.os).trans bn.os, (hg2.tape.trans hg1.tape).trans bn.tape, (hg2.output.trans hg1.output).trans bn.output, Nat.le_trans s1 hg2.size, fun b hb h1 h2 => (hg2.block b (by omega) (by simp; omega)).trans ((hg1.block b (by simp; omega) (by simp; omega)).trans (bn.block b hb))⟩
  clear hcs own2 hzs hg1 hg2 C1 O1 O2 O2'
  go_wp2_with fail
  go_ret
  exact ⟨rfl, C1', C2, hoff⟩
end Go.Proofs.Ytcniegaogdggaaa
