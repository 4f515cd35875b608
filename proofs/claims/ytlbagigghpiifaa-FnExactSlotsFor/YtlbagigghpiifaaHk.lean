/-
  Copies of the laws that can be marked: lists of ints and of families, each in a block of its own.
-/
import Derived.Test.YtlbagigghpiifaaHl
import Derived.Test.YtlbagigghpiifaaHh
import Derived.Test.YtlbagigghpiifaaSk
namespace Go.Proofs.Ytlbagigghpiifaa
open Go.RowKit

theorem to_ow {a : Option Addr} {n : Nat} {xs : List Int} {w : World} (c : Nat) (hx : Hid (xs.length = n)) (hn : n ≤ 1048576) (ha : ARow w a xs) :
    Calls Try.prog 9 #[.slice a n c] w fun e w' => e = .returned (.slice (some ⟨w.heap.size, 0, none⟩) n n) ∧ Below w.heap.size w w' ∧ Ow w' w.heap.size n xs :=
  (toI_own a c n xs w hx.out hn ha).mono fun _ _ ⟨h1, h2, h3, h4⟩ => ⟨h1, h2, h3, _, Nat.le_refl _, h4⟩
theorem mark_cells7 {w : World} {g n cap base : Nat} {ys : List Int} {k : Int} (hy : ys.length = n) (hys : ∀ j : Nat, j < n → ys.getD j 0 = k + (j : Int)) (h : w.ownsRow base 3 1 (.slice (some ⟨g, 0, none⟩) n cap) n (ints ys)) : ∀ j : Nat, j < n → w.cell? ⟨g, j, none⟩ = some (.int .i64 (k + (j : Int))) := by
  intro j hj
  rw [h.cellAt j (by omega), ints_get ys j (by omega), hys j hj]
theorem mark_ow {g n : Nat} {xs : List Int} {k : Int} {w : World} (hx : Hid (xs.length = n)) (hn : n ≤ 1048576) (k0 : 0 ≤ k) (k1 : k ≤ 3000000000000) (h : Ow w g n xs) :
    Calls Try.prog 12 #[.slice (some ⟨g, 0, none⟩) n n, .int .i64 k] w fun e w' => e = .returned (.int .i64 (k + n)) ∧ w.grownBy w' (some g) ∧ ∀ j : Nat, j < n → w'.cell? ⟨g, j, none⟩ = some (.int .i64 (k + (j : Int))) := by
  obtain ⟨_, base, _, h3⟩ := h
  refine (mark_any g n n base xs k w hx.out (by omega) k0 (by omega) h3).mono ?_
  rintro e w' ⟨rfl, ⟨ys, hy, hys, own⟩, hg⟩
  exact ⟨rfl, hg, mark_cells7 hy hys own⟩
/-- What was marked, from 1 on. -/
def Hd7 (w : World) (g n : Nat) : Prop := g < w.heap.size ∧ ∀ j : Nat, j < n → w.cell? ⟨g, j, none⟩ = some (.int .i64 (1 + (j : Int)))
theorem Hd7.below {w w' : World} {g n : Nat} (h : Hd7 w g n) (hb : Below w.heap.size w w') : Hd7 w' g n :=
  ⟨Nat.lt_of_lt_of_le h.1 hb.size, fun j hj => (hb.cell (p := ⟨g, j, none⟩) h.1).trans (h.2 j hj)⟩
/-- Families that a call made, in a block of their own. -/
def FOw (w : World) (g n : Nat) (L : List (Int × Int)) : Prop := g < w.heap.size ∧ FAt w g 0 L ∧ LooseF w g (n * 2)
theorem FOw.below {w w' : World} {g n : Nat} {L : List (Int × Int)} (h : FOw w g n L) (hb : Below w.heap.size w w') : FOw w' g n L :=
  ⟨Nat.lt_of_lt_of_le h.1 hb.size, h.2.1.below hb h.1, h.2.2.below hb⟩
theorem FOw.row {w : World} {g n : Nat} {L : List (Int × Int)} (h : FOw w g n L) : FRow w (some ⟨g, 0, none⟩) L := h.2.1.row h.1
end Go.Proofs.Ytlbagigghpiifaa
