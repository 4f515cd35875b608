/-
  What the laws of chapter 4 carry along: two lists as they came in, and all that was there.
-/
import Derived.Test.YtlbagigghpiifaaPg
import Derived.Test.YtlbagigghpiifaaF
namespace Go.Proofs.Ytlbagigghpiifaa
open Go.RowKit

def Car (w0 w : World) (a b : Option Addr) (xs ys : List Int) : Prop := ARow w a xs ∧ ARow w b ys ∧ Below w0.heap.size w0 w
theorem Car.step {w0 w w' : World} {a b : Option Addr} {xs ys : List Int} (h : Car w0 w a b xs ys) (hb : Below w.heap.size w w') : Car w0 w' a b xs ys :=
  ⟨h.1.below hb, h.2.1.below hb, h.2.2.trans (hb.mono h.2.2.size)⟩
theorem Car.alloc {w0 w : World} {a b : Option Addr} {xs ys : List Int} (h : Car w0 w a b xs ys) (o : Obj) : Car w0 (w.alloc o) a b xs ys := h.step (below_alloc _ _)
theorem toI_a {a : Option Addr} {n : Nat} {xs : List Int} {w : World} (c : Nat) (hx : Hid (xs.length = n)) (hn : n ≤ 1048576) (ha : ARow w a xs) :
    Calls Try.prog 9 #[.slice a n c] w fun e w' => e = .returned (.slice (some ⟨w.heap.size, 0, none⟩) n n) ∧ Below w.heap.size w w' ∧ ARow w' (some ⟨w.heap.size, 0, none⟩) xs :=
  (toI_own a c n xs w hx.out hn ha).mono fun _ _ ⟨h1, h2, _, h4⟩ => ⟨h1, h2, arow_owns hx.out.symm h4⟩
end Go.Proofs.Ytlbagigghpiifaa
