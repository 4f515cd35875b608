/-
  What the laws of chapter 4 carry along: two lists as they came in, and all that was there.
-/
import Derived.Test.YtljccbnkibfimaaPg
import Derived.Test.YtljccbnkibfimaaF
namespace Go.Proofs.Ytljccbnkibfimaa
open Go.RowKit

def Car (w0 w : World) (a b : Option Addr) (xs ys : List Int) : Prop := ARow w a xs ∧ ARow w b ys ∧ Below w0.heap.size w0 w
theorem Car.step {w0 w w' : World} {a b : Option Addr} {xs ys : List Int} (h : Car w0 w a b xs ys) (hb : Below w.heap.size w w') : Car w0 w' a b xs ys :=
  ⟨h.1.below hb, h.2.1.below hb, h.2.2.trans (hb.mono h.2.2.size)⟩
theorem Car.alloc {w0 w : World} {a b : Option Addr} {xs ys : List Int} (h : Car w0 w a b xs ys) (o : Obj) : Car w0 (w.alloc o) a b xs ys := h.step (below_alloc _ _)
end Go.Proofs.Ytljccbnkibfimaa
