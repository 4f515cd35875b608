/-
  What GainOf and CostOf answer, the program's and the model's.
-/
import Derived.Test.YtlbagigghpiifaaSd
namespace Go.Proofs.Ytlbagigghpiifaa
open Go.RowKit

def gainB (fs cs : List Int) (k : Int) : Bool := Sh.sharedB fs cs && Pf.inB k 0 ((fs.length : Int) - 1)
def gainF (fs cs : List Int) (k : Int) : Int × Int := if gainB fs cs k = true then Sh.gain (fs.getD k.toNat 0) (cs.getD k.toNat 0) else (0, 0)
def fb (p : Int × Int) (b : Bool) : Value := .tuple #[.agg #[.int .i64 p.1, .int .i64 p.2], .bool b]
theorem fb_eq (p : Int × Int) (b : Bool) : fb p b = .tuple #[.agg #[.int .i64 p.1, .int .i64 p.2], .bool b] := rfl
theorem below_up {w wr w2 : World} {o : Obj} (HB : Below (w.heap.size + 1) (w.alloc o) wr) (hb : Below wr.heap.size wr w2) (hs : w.heap.size + 1 ≤ wr.heap.size) : Below (w.alloc o).heap.size (w.alloc o) w2 := by
  have e : (w.alloc o).heap.size = w.heap.size + 1 := by simp
  rw [e]; exact HB.trans (hb.mono hs)


def costB (fs cs : List Int) : Bool := Sh.sharedB fs cs && Fr.sumB (Sh.each Sh.cost fs cs)
def costF (fs cs : List Int) : Int × Int := if Sh.sharedB fs cs = true then (Fr.sumN (Sh.each Sh.cost fs cs), Fr.sumD (Sh.each Sh.cost fs cs)) else (0, 0)
end Go.Proofs.Ytlbagigghpiifaa
