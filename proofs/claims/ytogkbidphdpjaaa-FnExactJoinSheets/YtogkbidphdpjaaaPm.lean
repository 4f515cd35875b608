/-
  What markProfile and heldProfile of the laws answer, over profiles in memory.
-/
import Derived.Test.YtogkbidphdpjaaaPg
namespace Go.Proofs.Ytogkbidphdpjaaa
open Go.RowKit

/-- Nothing has turned but the blocks x and y; new blocks may be there. -/
structure Off2 (w w' : World) (x y : Nat) : Prop where
  os : w'.os = w.os
  tape : w'.tape = w.tape
  output : w'.output = w.output
  size : w.heap.size ≤ w'.heap.size
  block : ∀ b, b < w.heap.size → b ≠ x → b ≠ y → w'.heap[b]? = w.heap[b]?
theorem Off2.below {w w' : World} {x y k : Nat} (h : Off2 w w' x y) (hx : k ≤ x) (hy : k ≤ y) (hk : k ≤ w.heap.size) : Below k w w' :=
  ⟨h.os, h.tape, h.output, h.size, fun b hb => h.block b (by omega) (by omega) (by omega)⟩
theorem own_near {w : World} {base n g cap : Nat} {xs : List Value} (h : w.ownsRow base 3 1 (.slice (some ⟨g, 0, none⟩) n cap) n xs) : g < w.heap.size := by
  rcases h.2 with ⟨h0, _⟩ | ⟨g', cap', cur, hv, h2, h3, _⟩
  · cases h0
  · cases hv; exact (Array.getElem?_eq_some_iff.1 h3).1

set_option maxHeartbeats 2000000 in
theorem markP_any {x y n m c d base : Nat} {ps fs : List Int} {k : Int} {w : World} (hx : ps.length = n) (hy : fs.length = m) (hn : n ≤ 1048576) (hm : m ≤ 1048576) (k0 : 0 ≤ k) (k1 : k ≤ 1000000000) (hne : x ≠ y)
    (own1 : w.ownsRow base 3 1 (.slice (some ⟨x, 0, none⟩) n c) n (ints ps)) (own2 : w.ownsRow base 3 1 (.slice (some ⟨y, 0, none⟩) m d) m (ints fs)) :
    Calls Try.prog 18 #[.agg #[.slice (some ⟨x, 0, none⟩) n c, .slice (some ⟨y, 0, none⟩) m d], .int .i64 k] w fun e w' => e = .returned (.int .i64 (k + n + m)) ∧ Hid (∀ j : Nat, j < n → w'.cell? ⟨x, j, none⟩ = some (.int .i64 (k + j))) ∧ Hid (∀ j : Nat, j < m → w'.cell? ⟨y, j, none⟩ = some (.int .i64 (k + n + j))) ∧ Off2 w w' x y := by
  have bn := below_new w (.cells #[.slice (some ⟨x, 0, none⟩) n c, .slice (some ⟨y, 0, none⟩) m d] 40)
  have lx := own_near own1
  have ly := own_near own2
  have O1 := hide (owns_keep own1 (bn.block x lx))
  have O2 := hide (owns_keep own2 (bn.block y ly))
  have HX := hide hx
  have HY := hide hy
  clear own1 own2 hx hy
  go_enter Try.func18, Try.ntmps18
  go_wp2_with fail
  refine (mark_any x n c base ps k _ HX.out (by omega) k0 (by omega) O1.out).mono ?_
  rintro e w1 ⟨rfl, ⟨ys, hys, hcs, own1⟩, hg1⟩
  have C1 := hide (fun (j : Nat) (hj : j < n) => show w1.cell? ⟨x, j, none⟩ = some (.int .i64 (k + j)) by rw [own1.cellAt j (by omega), ints_get ys j (by omega), hcs j hj])
  have O2' := hide (owns_keep O2.out (hg1.block y (by simp; omega) (by simp; omega)))
  have p1 : w1.cell? ⟨w.heap.size, 1, none⟩ = some (.slice (some ⟨y, 0, none⟩) m d) := (World.cell?_of_block (w := w.alloc (.cells #[.slice (some ⟨x, 0, none⟩) n c, .slice (some ⟨y, 0, none⟩) m d] 40)) (a := ⟨w.heap.size, 1, none⟩) (hg1.block w.heap.size (by simp) (by simp; omega))).trans (by simp [go_sem])
  clear hcs own1 hys
  go_wp2_with fail
  refine (mark_any y m d base fs (k + n) _ HY.out (by omega) (by omega) (by omega) O2'.out).mono ?_
  rintro e w2 ⟨rfl, ⟨zs, hzs, hcs, own2⟩, hg2⟩
  have C2 := hide (fun (j : Nat) (hj : j < m) => show w2.cell? ⟨y, j, none⟩ = some (.int .i64 (k + n + j)) by rw [own2.cellAt j (by omega), ints_get zs j (by omega), hcs j hj])
  have s1 : w.heap.size ≤ w1.heap.size := Nat.le_trans (by simp) hg1.size
  have C1' := hide (fun (j : Nat) (hj : j < n) => (World.cell?_of_block (w := w1) (a := ⟨x, j, none⟩) (hg2.block x (by omega) (by simp; omega))).trans (C1.out j hj))
  have hoff : Off2 w w2 x y := ⟨(hg2.os.trans hg1.os).trans bn.os, (hg2.tape.trans hg1.tape).trans bn.tape, (hg2.output.trans hg1.output).trans bn.output, Nat.le_trans s1 hg2.size, fun b hb h1 h2 => (hg2.block b (by omega) (by simp; omega)).trans ((hg1.block b (by simp; omega) (by simp; omega)).trans (bn.block b hb))⟩
  clear hcs own2 hzs hg1 hg2 C1 O1 O2 O2'
  go_wp2_with fail
  go_ret
  exact ⟨rfl, C1', C2, hoff⟩

set_option maxHeartbeats 2000000 in
theorem heldP_any {x y n m c d : Nat} {k : Int} {w : World} (hn : n ≤ 1048576) (hm : m ≤ 1048576) (k0 : 0 ≤ k) (k1 : k ≤ 1000000000) (lx : x < w.heap.size) (ly : y < w.heap.size)
    (C1 : Hid (∀ j : Nat, j < n → w.cell? ⟨x, j, none⟩ = some (.int .i64 (k + j)))) (C2 : Hid (∀ j : Nat, j < m → w.cell? ⟨y, j, none⟩ = some (.int .i64 (k + n + j)))) :
    Calls Try.prog 19 #[.agg #[.slice (some ⟨x, 0, none⟩) n c, .slice (some ⟨y, 0, none⟩) m d], .int .i64 k] w fun e w' => e = .returned (.int .i64 (k + n + m)) ∧ Below w.heap.size w w' := by
  have bn := below_new w (.cells #[.slice (some ⟨x, 0, none⟩) n c, .slice (some ⟨y, 0, none⟩) m d] 40)
  have D1 := hide (fun (j : Nat) (hj : j < n) => (bn.cell (p := ⟨x, j, none⟩) lx).trans (C1.out j hj))
  have D2 := hide (fun (j : Nat) (hj : j < m) => (bn.cell (p := ⟨y, j, none⟩) ly).trans (C2.out j hj))
  have h1 : ¬ k + (n : Int) < 0 := by omega
  have h2 : ¬ k + (n : Int) + (m : Int) < 0 := by omega
  go_enter Try.func19, Try.ntmps19
  go_wp2_with fail
  refine (held_any x n c k _ (by omega) k0 (by omega) D1.out).mono ?_
  rintro e w1 ⟨rfl, rfl⟩
  go_wp2_with fail
  refine (held_any y m d (k + n) _ (by omega) (by omega) (by omega) D2.out).mono ?_
  rintro e w1 ⟨rfl, rfl⟩
  go_wp2_with fail
  go_ret
  exact ⟨rfl, bn⟩
end Go.Proofs.Ytogkbidphdpjaaa
