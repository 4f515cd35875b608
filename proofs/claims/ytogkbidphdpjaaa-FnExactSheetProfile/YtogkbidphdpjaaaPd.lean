/-
  What rankOf and RankBy of the program answer.
-/
import Derived.Test.YtogkbidphdpjaaaPc
namespace Go.Proofs.Ytogkbidphdpjaaa
open Go.RowKit Go.Sort

theorem grownBy_below {w w' : World} {g k : Nat} (hg : w.grownBy w' (some g)) (h : k ≤ g) (hk : k ≤ w.heap.size) : Below k w w' :=
  ⟨hg.os, hg.tape, hg.output, hg.size, fun b hb => hg.block b (by omega) (by simp; omega)⟩
theorem owns_base {w : World} {base base' e s n : Nat} {v : Value} {xs : List Value} (h : w.ownsRow base e s v n xs) (hb : base' ≤ base) : w.ownsRow base' e s v n xs := by
  rcases h with ⟨h0, h | ⟨g, cap, cur, h1, h2, h3⟩⟩
  · exact ⟨h0, Or.inl h⟩
  · exact ⟨h0, Or.inr ⟨g, cap, cur, h1, Nat.le_trans hb h2, h3⟩⟩
theorem fill_step (ys : List Int) (k n : Nat) (hy : ys.length = n) (hk : k < n) (h : ys.take k = nats (List.range k)) : (ys.set k (k : Int)).take (k + 1) = nats (List.range (k + 1)) := by
  rw [List.take_add_one, List.take_set_of_le (Nat.le_refl _), h, List.range_succ]
  simp [nats, hy, hk]
/-- The numbers below n, as elements. -/
def fins (m : Nat) : List (Fin (m + 1)) := List.finRange (m + 1)
theorem fins_vals (m : Nat) : Rk.vals m (fins m) = List.range (m + 1) := by
  apply List.ext_getElem
  · simp [fins, Rk.vals]
  · intro j h1 h2; simp [fins, Rk.vals]
theorem fins_len (m : Nat) : (fins m).length = m + 1 := by simp [fins]

end Go.Proofs.Ytogkbidphdpjaaa
