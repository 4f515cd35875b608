/-
  What greatestGain of the program, l4Gain and l4Next of the model, and both NextFor and GainOf answer.
-/
import Derived.Test.YtlbagigghpiifaaSc
namespace Go.Proofs.Ytlbagigghpiifaa
open Go.RowKit

/-- One number of each of two lists, and all that was there, while an answer is made. -/
theorem two_call {w w1 w2 : World} {ba oa bb ob : Nat} {v1 v2 : Option Value} (ha : ba < w.heap.size) (hb : bb < w.heap.size)
    (s : w1.cell? ⟨ba, oa, none⟩ = v1 ∧ w1.cell? ⟨bb, ob, none⟩ = v2 ∧ Below w.heap.size w w1 ∧ w.heap.size < w1.heap.size) (h : Below w1.heap.size w1 w2) :
    w2.cell? ⟨ba, oa, none⟩ = v1 ∧ w2.cell? ⟨bb, ob, none⟩ = v2 ∧ Below w.heap.size w w2 ∧ w.heap.size < w2.heap.size := by
  obtain ⟨s1, s2, s3, s4⟩ := s
  obtain ⟨hc, _⟩ := bcell h
  exact ⟨(hc _ _ (by omega)).trans s1, (hc _ _ (by omega)).trans s2, s3.trans (h.mono s3.size), Nat.lt_of_lt_of_le s4 h.size⟩
theorem two_set {w w1 : World} {ba oa bb ob i : Nat} {v : Value} {v1 v2 : Option Value} (ha : ba < w.heap.size) (hb : bb < w.heap.size)
    (s : w1.cell? ⟨ba, oa, none⟩ = v1 ∧ w1.cell? ⟨bb, ob, none⟩ = v2 ∧ Below w.heap.size w w1 ∧ w.heap.size < w1.heap.size) :
    (w1.setCell ⟨w.heap.size, i, none⟩ v).cell? ⟨ba, oa, none⟩ = v1 ∧ (w1.setCell ⟨w.heap.size, i, none⟩ v).cell? ⟨bb, ob, none⟩ = v2 ∧ Below w.heap.size w (w1.setCell ⟨w.heap.size, i, none⟩ v) ∧ w.heap.size < (w1.setCell ⟨w.heap.size, i, none⟩ v).heap.size := by
  obtain ⟨s1, s2, s3, s4⟩ := s
  have hc : ∀ x o, x ≠ w.heap.size → (w1.setCell ⟨w.heap.size, i, none⟩ v).cell? ⟨x, o, none⟩ = w1.cell? ⟨x, o, none⟩ := fun x o h => World.cell?_setCell_other _ _ _ _ (fun e => h (by injection e with e1; exact e1.symm))
  exact ⟨(hc _ _ (by omega)).trans s1, (hc _ _ (by omega)).trans s2, s3.setCell (Nat.le_refl _) v, by simpa using s4⟩
/-- The answer's own variable, behind a call. -/
theorem res_new {w w2 : World} {t : TypeId} (hb : Below (w.alloc (.cells #[.int .i64 0, .int .i64 0] t)).drew.heap.size (w.alloc (.cells #[.int .i64 0, .int .i64 0] t)).drew w2) :
    w2.cell? ⟨w.heap.size, 0, none⟩ = some (.int .i64 0) ∧ w2.cell? ⟨w.heap.size, 1, none⟩ = some (.int .i64 0) ∧ w2.frozen? ⟨w.heap.size, 0, none⟩ = false ∧ w2.frozen? ⟨w.heap.size, 1, none⟩ = false :=
  new_var (W := (w.alloc (.cells #[.int .i64 0, .int .i64 0] t)).drew) hb _ _ _ (by simp [go_sem]) (by simp [go_sem]) (by simp [go_sem]) (by simp [go_sem])
theorem res_new' {w w2 : World} {t : TypeId} (hb : Below (w.alloc (.cells #[.int .i64 0, .int .i64 0] t)).heap.size (w.alloc (.cells #[.int .i64 0, .int .i64 0] t)) w2) :
    w2.cell? ⟨w.heap.size, 0, none⟩ = some (.int .i64 0) ∧ w2.cell? ⟨w.heap.size, 1, none⟩ = some (.int .i64 0) ∧ w2.frozen? ⟨w.heap.size, 0, none⟩ = false ∧ w2.frozen? ⟨w.heap.size, 1, none⟩ = false :=
  new_var hb _ _ _ (by simp [go_sem]) (by simp [go_sem]) (by simp [go_sem]) (by simp [go_sem])
/-- The k-th of both lists. -/
theorem at_both {w : World} {a b : Option Addr} {n k : Nat} {fs cs : List Int} (h : Hid (ARow w a fs)) (hn : Hid (fs.length = n)) (h' : Hid (ARow w b cs)) (hs : Hid (Sh.sharedB fs cs = true)) (hk : k < n) :
    ∃ ba oa bb ob, a = some ⟨ba, oa, none⟩ ∧ b = some ⟨bb, ob, none⟩ ∧ ba < w.heap.size ∧ bb < w.heap.size ∧ w.cell? ⟨ba, oa + k, none⟩ = some (.int .i64 (fs.getD k 0)) ∧ w.cell? ⟨bb, ob + k, none⟩ = some (.int .i64 (cs.getD k 0)) ∧
      (1 ≤ fs.getD k 0 ∧ fs.getD k 0 ≤ 30) ∧ (1 ≤ cs.getD k 0 ∧ cs.getD k 0 ≤ 40) := by
  have hm : cs.length = n := by rw [(Sh.sharedB_yes hs.out).2.1]; exact hn.out
  have hk1 : k < fs.length := by rw [hn.out]; exact hk
  have b1 := Sh.flowB_at (Sh.sharedB_yes hs.out).1 hk1
  have b2 := Sh.sharedB_at hs.out hk1
  rcases h.out with e | ⟨ba, oa, rfl, hba, hca⟩
  · rw [e] at hk1; simp at hk1
  rcases h'.out with e | ⟨bb, ob, rfl, hbb, hcb⟩
  · rw [e] at hm; simp at hm; omega
  exact ⟨ba, oa, bb, ob, rfl, rfl, hba, hbb, hca k hk1, hcb k (by omega), b1, b2⟩

def nextN (fs cs : List Int) : Int := if Sh.sharedB fs cs = true then ((Sh.next fs cs : Nat) : Int) else 0
theorem shared_len {fs cs : List Int} {n m : Nat} (hn : Hid (fs.length = n)) (hm : Hid (cs.length = m)) (hs : Sh.sharedB fs cs = true) : m = n := by
  have := (Sh.sharedB_yes hs).2.1; have := hn.out; have := hm.out; omega
end Go.Proofs.Ytlbagigghpiifaa
