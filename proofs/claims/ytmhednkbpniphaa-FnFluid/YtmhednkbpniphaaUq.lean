/-
  Lists of bounds in memory; what SumBounds of the program answers of bounds that are parts of one number.
-/
import Derived.Test.YtmhednkbpniphaaUo
import Derived.Test.YtmhednkbpniphaaXg
import Derived.Deep.AppendLies
namespace Go.Proofs.Ytmhednkbpniphaa
open Go.RowKit

def qcells : List ((Int × Int) × (Int × Int)) → List Value
  | [] => []
  | x :: r => .int .i64 x.1.1 :: .int .i64 x.1.2 :: .int .i64 x.2.1 :: .int .i64 x.2.2 :: qcells r
theorem qcells_snoc (xs : List ((Int × Int) × (Int × Int))) (p : (Int × Int) × (Int × Int)) : qcells (xs ++ [p]) = qcells xs ++ [.int .i64 p.1.1, .int .i64 p.1.2, .int .i64 p.2.1, .int .i64 p.2.2] := by
  induction xs with
  | nil => rfl
  | cons x r ih => simp [qcells, ih]
/-- A list of bounds as it lies. -/
def Row4 (w : World) (b : Nat) (xs : List ((Int × Int) × (Int × Int))) : Prop := ∀ i, i < xs.length → w.cell? ⟨b, i * 4, none⟩ = some (.int .i64 (xs.getD i ((0, 0), (0, 0))).1.1) ∧ w.cell? ⟨b, i * 4 + 1, none⟩ = some (.int .i64 (xs.getD i ((0, 0), (0, 0))).1.2) ∧ w.cell? ⟨b, i * 4 + 2, none⟩ = some (.int .i64 (xs.getD i ((0, 0), (0, 0))).2.1) ∧ w.cell? ⟨b, i * 4 + 3, none⟩ = some (.int .i64 (xs.getD i ((0, 0), (0, 0))).2.2)
theorem Row4.below {w w' : World} {k b : Nat} {xs : List ((Int × Int) × (Int × Int))} (h : Row4 w b xs) (hb : Below k w w') (hlt : b < k) : Row4 w' b xs := fun i hi => by
  obtain ⟨h1, h2, h3, h4⟩ := h i hi
  exact ⟨(hb.cell (p := ⟨b, _, none⟩) hlt).trans h1, (hb.cell (p := ⟨b, _, none⟩) hlt).trans h2, (hb.cell (p := ⟨b, _, none⟩) hlt).trans h3, (hb.cell (p := ⟨b, _, none⟩) hlt).trans h4⟩
theorem qcells_get : ∀ (xs : List ((Int × Int) × (Int × Int))) (i : Nat), i < xs.length → (qcells xs)[i * 4]? = some (.int .i64 (xs.getD i ((0, 0), (0, 0))).1.1) ∧ (qcells xs)[i * 4 + 1]? = some (.int .i64 (xs.getD i ((0, 0), (0, 0))).1.2) ∧ (qcells xs)[i * 4 + 2]? = some (.int .i64 (xs.getD i ((0, 0), (0, 0))).2.1) ∧ (qcells xs)[i * 4 + 3]? = some (.int .i64 (xs.getD i ((0, 0), (0, 0))).2.2)
  | [], i, h => by simp at h
  | x :: r, 0, _ => by simp [qcells]
  | x :: r, i + 1, h => by
    have := qcells_get r i (by simpa using h)
    rw [show (i + 1) * 4 = i * 4 + 4 by omega]
    simpa [qcells] using this
theorem qrow_owns {w : World} {base e n : Nat} {v : Value} {xs : List ((Int × Int) × (Int × Int))} (hn : xs.length = n) (h : w.ownsRow base e 4 v n (qcells xs)) :
    (v = .slice none 0 0 ∧ n = 0) ∨ ∃ g cap, v = .slice (some ⟨g, 0, none⟩) n cap ∧ base ≤ g ∧ g < w.heap.size ∧ Row4 w g xs := by
  subst hn
  rcases h.2 with ⟨rfl, hn⟩ | ⟨g, cap, cur, rfl, hb, hg, hn, hm, hsz, htake⟩
  · exact Or.inl ⟨rfl, hn⟩
  · refine Or.inr ⟨g, cap, rfl, hb, (Array.getElem?_eq_some_iff.1 hg).1, fun i hi => ?_⟩
    have hcell : ∀ j, j < xs.length * 4 → w.cell? ⟨g, j, none⟩ = (qcells xs)[j]? := by
      intro j hj
      rw [← htake, List.getElem?_take]
      simp [World.cell?, hg, hj]
    obtain ⟨f0, f1, f2, f3⟩ := qcells_get xs i hi
    exact ⟨by rw [hcell _ (by omega), f0], by rw [hcell _ (by omega), f1], by rw [hcell _ (by omega), f2], by rw [hcell _ (by omega), f3]⟩
/-- Bounds that are parts of f. -/
def bnds (f : Nat) (ms hs : List Nat) : List ((Int × Int) × (Int × Int)) := (List.range ms.length).map fun i => (Sh.mk (ms.getD i 0 : Int) f, Sh.mk (hs.getD i 0 : Int) f)
theorem bnds_len (f : Nat) (ms hs : List Nat) : (bnds f ms hs).length = ms.length := by simp [bnds]
theorem bnds_at (f : Nat) (ms hs : List Nat) {i : Nat} (hi : i < ms.length) : (bnds f ms hs).getD i ((0, 0), (0, 0)) = (Sh.mk (ms.getD i 0 : Int) f, Sh.mk (hs.getD i 0 : Int) f) := by simp [bnds, hi]
theorem frs_get (f : Nat) (ms : List Nat) {i : Nat} (hi : i < ms.length) : (Lg.frs f ms).getD i (0, 0) = Sh.mk (ms.getD i 0 : Int) f := by simp [Lg.frs, hi]
theorem frs_snoc (f : Nat) (ms : List Nat) {k : Nat} (hk : k < ms.length) : fcells ((Lg.frs f ms).take (k + 1)) = fcells ((Lg.frs f ms).take k) ++ [.int .i64 (Sh.mk (ms.getD k 0 : Int) f).1, .int .i64 (Sh.mk (ms.getD k 0 : Int) f).2] := by
  have hl : k < (Lg.frs f ms).length := by simpa [Lg.frs] using hk
  rw [List.take_succ_eq_append_getElem hl, ← Pf.getD_lt _ (0, 0) hl, frs_get f ms hk, fcells_snoc]
/-- Bounds of parts are good. -/
theorem bnds_good {f m h : Nat} (f0 : 0 < f) (f1 : f ≤ 100) (hm : m ≤ h) (hh : h ≤ 1000) : goodBd (Sh.mk (m : Int) f).1 (Sh.mk (m : Int) f).2 (Sh.mk (h : Int) f).1 (Sh.mk (h : Int) f).2 = true := by
  have g1 : Sh.goodF (Sh.mk (m : Int) f) = true := Sh.mk_good (by omega) (by omega) (by omega) (by omega)
  have g2 : Sh.goodF (Sh.mk (h : Int) f) = true := Sh.mk_good (by omega) (by omega) (by omega) (by omega)
  have hl : Sh.less (Sh.mk (h : Int) f) (Sh.mk (m : Int) f) = false := by
    rw [Sh.mk_less (by omega) (by omega)]
    simp only [decide_eq_false_iff_not, Int.not_lt]
    exact Int.mul_le_mul_of_nonneg_right (by omega) (by omega)
  obtain ⟨a, b, e, _⟩ := Lg.mk_nat (m := m) f0
  unfold goodBd
  unfold Sh.goodF at g1 g2
  unfold Sh.less at hl
  rw [g1, g2, hl, e]
  simp

theorem grow_other {w w' : World} {v : Value} {k : Nat} (hg : w.grownBy w' v.ownBlock) (hk : k < w.heap.size) (hne : v.ownBlock ≠ some k) : w'.heap[k]? = w.heap[k]? := hg.block k hk (fun e => hne e.symm)
theorem own_lt {w : World} {base e s n k : Nat} {v : Value} {xs : List Value} (h : w.ownsRow base e s v n xs) (hk : v.ownBlock = some k) : base ≤ k ∧ k < w.heap.size := h.lt k hk
end Go.Proofs.Ytmhednkbpniphaa
