/-
  At any goods and lines ProfileOf answers as the model does, in memory of its own: the law's own walk.
-/
import Derived.Test.YtogkbidphdpjaaaLGoods
import Derived.Test.YtogkbidphdpjaaaNm
import Derived.Test.YtogkbidphdpjaaaNq
namespace Go.Proofs.Ytogkbidphdpjaaa
open Go.RowKit

/-- A list of lines of the laws' own. -/
def LW (w : World) (b : Nat) (ls : List (Int × Int)) : Prop := b < w.heap.size ∧ LAt w b 0 ls
theorem LW.below {w w' : World} {b : Nat} {ls : List (Int × Int)} (h : LW w b ls) (hb : Below w.heap.size w w') : LW w' b ls := ⟨Nat.lt_of_lt_of_le h.1 hb.size, h.2.below hb h.1⟩
theorem LW.row {w : World} {b : Nat} {ls : List (Int × Int)} (h : LW w b ls) : LRow w (some ⟨b, 0, none⟩) ls := h.2.row h.1
theorem toL_n (a : Option Addr) (c n : Nat) (ls : List (Int × Int)) (w : World) (hn : ls.length = n) (hlen : n ≤ 1048576) (hr : LRow w a ls) :
    Calls Try.prog 28 #[.slice a n c] w fun e w' => e = .returned (.slice (some ⟨w.heap.size, 0, none⟩) n n) ∧ Below w.heap.size w w' ∧ w.heap.size < w'.heap.size ∧ LW w' w.heap.size ls ∧ Loose w' w.heap.size (n * 2) := by
  subst hn
  exact (toL_row a c ls w hlen hr).mono fun e w' ⟨he, hb, hz, hl, hL⟩ => ⟨he, hb, hz, ⟨hz, hl⟩, hL⟩
theorem eqL_n (b c n : Nat) (ls : List (Int × Int)) (w : World) (hn : ls.length = n) (hlen : n ≤ 1048576) (h1 : LW w b ls) (h2 : LW w c ls) :
    Calls Try.prog 32 #[.slice (some ⟨b, 0, none⟩) n n, .slice (some ⟨c, 0, none⟩) n n] w fun e w' => e = .returned (.bool true) ∧ Below w.heap.size w w' := by
  subst hn
  exact eqL_same b c _ _ ls w hlen h1.1 h2.1 h1.2 h2.2
/-- What both ProfileOfs answer. -/
def PoAns (f n n' r : Nat) (ok : Bool) (gs : List Gd) (ls : List (Int × Int)) (R1 R2 : List Int) : Prop :=
  ∀ (W : World) (b b' : Nat), Short gs → GRow W (some ⟨b, 0, none⟩) gs → LRow W (some ⟨b', 0, none⟩) ls →
    Calls Try.prog f #[.slice (some ⟨b, 0, none⟩) n n, .slice (some ⟨b', 0, none⟩) n' n'] W fun e w' => ∃ v1 v2, e = .returned (.tuple #[.agg #[v1, v2], .bool ok]) ∧ Below W.heap.size W w' ∧ w'.ownsRow W.heap.size 3 1 v1 r (ints R1) ∧ w'.ownsRow W.heap.size 3 1 v2 r (ints R2) ∧ ∀ g, v1.ownBlock = some g → v2.ownBlock ≠ some g

end Go.Proofs.Ytogkbidphdpjaaa
