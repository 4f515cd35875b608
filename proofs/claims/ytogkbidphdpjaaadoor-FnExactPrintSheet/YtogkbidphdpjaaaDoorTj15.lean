/-
  What FindGood of the model answers.
-/
import Derived.Test.YtogkbidphdpjaaaDoorTg15
import Derived.Test.YtogkbidphdpjaaaDoorTi15
namespace Go.Proofs.YtogkbidphdpjaaaDoor
open Go.RowKit

def fgB (gs : List Gd) (ls : List (Int × Int)) (x : ByteArray) : Bool := sheetB gs ls && decide (0 ≤ fndI gs x)
def fgI (gs : List Gd) (ls : List (Int × Int)) (x : ByteArray) : Int := if fgB gs ls x then fndI gs x else 0
theorem sgsh_hid {a a' : Option Addr} {n c n' c' : Nat} {gs : List Gd} {ls : List (Int × Int)} {w : World} {r : Bool} (hr : Hid (sheetB gs ls = r)) (hn : Hid (gs.length = n)) (hn1 : n ≤ 1048576) (hc : n ≤ c) (hs : Hid (Short gs)) (h : Hid (GRow w a gs))
    (hl : Hid (ls.length = n')) (hl1 : n' ≤ 1048576) (hc' : n' ≤ c') (h' : Hid (LRow w a' ls)) :
    Calls Tryd.prog 16 #[.agg #[.slice a n c, .slice a' n' c']] w fun e w' => e = .returned (.bool r) ∧ Below w.heap.size w w' := hr.out ▸ sgsh_any hn.out hn1 hc hs.out h.out hl.out hl1 hc' h'.out
theorem sfd_hid {a : Option Addr} {n c : Nat} {gs : List Gd} {x : ByteArray} {w : World} {F : Int} (hF : Hid (fndI gs x = F)) (hn : Hid (gs.length = n)) (hn' : n ≤ 1048576) (hc : n ≤ c) (h : Hid (GRow w a gs)) :
    Calls Tryd.prog 45 #[.slice a n c, .string x] w fun e w' => e = .returned (.int .i64 F) ∧ Below w.heap.size w w' := hF.out ▸ sfd_any hn.out hn' hc h.out
end Go.Proofs.YtogkbidphdpjaaaDoor
