/-
  Copies of spots that can be marked.
-/
import Derived.Test.YtkiadodoehcbmaaHl11
import Derived.Test.YtkiadodoehcbmaaSk
namespace Go.Proofs.Ytkiadodoehcbmaa
open Go.RowKit

/-- Spots that a call made, in a block of their own. -/
def FOw (w : World) (g n : Nat) (L : List (Int × Int)) : Prop := g < w.heap.size ∧ FAt w g 0 L ∧ LooseF w g (n * 2)
theorem FOw.below {w w' : World} {g n : Nat} {L : List (Int × Int)} (h : FOw w g n L) (hb : Below w.heap.size w w') : FOw w' g n L :=
  ⟨Nat.lt_of_lt_of_le h.1 hb.size, h.2.1.below hb h.1, h.2.2.below hb⟩
theorem FOw.row {w : World} {g n : Nat} {L : List (Int × Int)} (h : FOw w g n L) : FRow w (some ⟨g, 0, none⟩) L := h.2.1.row h.1
theorem to_fow {a : Option Addr} {n : Nat} {L : List (Int × Int)} {w : World} (c : Nat) (hx : Hid (L.length = n)) (hn : n ≤ 1048576) (ha : FRow w a L) :
    Calls Try.prog 11 #[.slice a n c] w fun e w' => e = .returned (.slice (some ⟨w.heap.size, 0, none⟩) n n) ∧ Below w.heap.size w w' ∧ FOw w' w.heap.size n L := by
  have := hx.out
  subst this
  exact (toF_row a c L w hn ha).mono fun _ _ ⟨h1, h2, h3, h4, h5⟩ => ⟨h1, h2, h3, h4, h5⟩
theorem eq_fow {g g' n : Nat} {L : List (Int × Int)} {w : World} (hx : Hid (L.length = n)) (hn : n ≤ 1048576) (h : FOw w g n L) (h' : FOw w g' n L) :
    Calls Try.prog 13 #[.slice (some ⟨g, 0, none⟩) n n, .slice (some ⟨g', 0, none⟩) n n] w fun e w' => e = .returned (.bool true) ∧ Below w.heap.size w w' := by
  have := hx.out
  subst this
  exact eqF_same g g' _ _ L w hn h.1 h'.1 h.2.1 h'.2.1
theorem mark_fow {g n : Nat} {L : List (Int × Int)} {k : Int} {w : World} (hn : n ≤ 1048576) (k0 : 0 < k) (k1 : k ≤ 900000000) (h : FOw w g n L) :
    Calls Try.prog 23 #[.slice (some ⟨g, 0, none⟩) n n, .int .i64 k] w fun e w' => e = .returned (.int .i64 (k + n * 2)) ∧ w.grownBy w' (some g) := markF_any g n k w hn k0 k1 h.2.2
end Go.Proofs.Ytkiadodoehcbmaa
