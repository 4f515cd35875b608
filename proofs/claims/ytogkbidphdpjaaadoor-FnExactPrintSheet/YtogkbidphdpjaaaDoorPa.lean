/-
  What isBetween, GoodProfile and sumOf of the program, and l1All, GoodProfile and l3Sum of the model answer, over lists of whole numbers in memory.
-/
import Derived.Test.YtogkbidphdpjaaaDoorXi
import Derived.Test.YtogkbidphdpjaaaDoorD
import Derived.Test.YtogkbidphdpjaaaDoorPf
namespace Go.Proofs.YtogkbidphdpjaaaDoor
open Go.RowKit

/-- A slice of whole numbers, wherever it lies: its address, and what it holds. -/
def ARow (w : World) (a : Option Addr) (xs : List Int) : Prop := xs = [] ∨ ∃ b off, a = some ⟨b, off, none⟩ ∧ b < w.heap.size ∧ ∀ i, i < xs.length → w.cell? ⟨b, off + i, none⟩ = some (.int .i64 (xs.getD i 0))
theorem ARow.keep {w w' : World} {a : Option Addr} {xs : List Int} (h : ARow w a xs) (hs : w.heap.size ≤ w'.heap.size) (hB : ∀ b, b < w.heap.size → w'.heap[b]? = w.heap[b]?) : ARow w' a xs := by
  rcases h with h | ⟨b, off, ha, hb, hc⟩
  · exact Or.inl h
  · exact Or.inr ⟨b, off, ha, Nat.lt_of_lt_of_le hb hs, fun i hi => (World.cell?_of_block (w := w) (a := ⟨b, off + i, none⟩) (hB b hb)).trans (hc i hi)⟩
theorem ARow.below {w w' : World} {a : Option Addr} {xs : List Int} (h : ARow w a xs) (hB : Below w.heap.size w w') : ARow w' a xs := h.keep hB.size hB.block
theorem ARow.alloc {w : World} {a : Option Addr} {xs : List Int} (h : ARow w a xs) (o : Obj) : ARow (w.alloc o) a xs := h.below ((Below.refl _ _).alloc (Nat.le_refl _) _)
theorem ARow.drewN {w : World} {a : Option Addr} {xs : List Int} (h : ARow w a xs) (q : Nat) : ARow (w.drewN q) a xs := h
theorem ARow.at {w : World} {a : Option Addr} {xs : List Int} (h : ARow w a xs) {i : Nat} (hi : i < xs.length) : ∃ b off, a = some ⟨b, off, none⟩ ∧ w.cell? ⟨b, off + i, none⟩ = some (.int .i64 (xs.getD i 0)) := by
  rcases h with h | ⟨b, off, ha, _, hc⟩
  · rw [h] at hi; simp at hi
  · exact ⟨b, off, ha, hc i hi⟩
theorem ARow.at' {w : World} {a : Option Addr} {xs : List Int} (h : ARow w a xs) {i : Nat} (hi : i < xs.length) : ∃ b off, a = some ⟨b, off, none⟩ ∧ ∀ o, (w.alloc o).cell? ⟨b, off + i, none⟩ = some (.int .i64 (xs.getD i 0)) := by
  rcases h with h | ⟨b, off, ha, hb, hc⟩
  · rw [h] at hi; simp at hi
  · exact ⟨b, off, ha, fun o => (((Below.refl _ _).alloc (Nat.le_refl _) o).cell (p := ⟨b, off + i, none⟩) hb).trans (hc i hi)⟩
theorem arow_owns {w : World} {base e : Nat} {g n cap : Nat} {xs : List Int} (hn : n = xs.length) (h : w.ownsRow base e 1 (.slice (some ⟨g, 0, none⟩) n cap) n (ints xs)) : ARow w (some ⟨g, 0, none⟩) xs := by
  subst hn
  rcases irow_owns h with ⟨h, _⟩ | ⟨b, o, c, hv, hlt, hc⟩
  · exact Or.inl h
  · cases hv; exact Or.inr ⟨_, _, rfl, hlt, hc⟩

set_option maxHeartbeats 400000 in
theorem between_any (n lo hi : Int) (w : World) :
    Calls Tryd.prog 52 #[.int .i64 n, .int .i64 lo, .int .i64 hi] w fun e w' => e = .returned (.bool (Pf.inB n lo hi)) ∧ w' = w := by
  unfold Pf.inB
  by_cases h1 : lo ≤ n
  · by_cases h2 : n ≤ hi
    · go_enter Tryd.func52, Tryd.ntmps52
      go_wp2
      go_ret
      exact ⟨by simp [h1, h2], rfl⟩
    · go_enter Tryd.func52, Tryd.ntmps52
      go_wp2
      go_ret
      exact ⟨by simp [show ¬ n ≤ hi by omega], rfl⟩
  · go_enter Tryd.func52, Tryd.ntmps52
    go_wp2
    go_ret
    exact ⟨by simp [show ¬ lo ≤ n by omega], rfl⟩
theorem between_eq {n lo hi : Int} {w : World} {b : Bool} (h : Pf.inB n lo hi = b) :
    Calls Tryd.prog 52 #[.int .i64 n, .int .i64 lo, .int .i64 hi] w fun e w' => e = .returned (.bool b) ∧ w' = w := h ▸ between_any n lo hi w

theorem in_eq {n lo hi : Int} {w : World} {b : Bool} (h : Pf.inB n lo hi = b) :
    Calls Tryd.prog 33 #[.int .i64 n, .int .i64 lo, .int .i64 hi] w fun e w' => e = .returned (.bool b) ∧ w' = w := by
  cases b
  · exact in_no (Pf.inB_no h)
  · exact in_yes (Pf.inB_yes h).1 (Pf.inB_yes h).2
end Go.Proofs.YtogkbidphdpjaaaDoor
