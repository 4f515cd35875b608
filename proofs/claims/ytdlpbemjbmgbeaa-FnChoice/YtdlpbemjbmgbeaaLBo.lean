/-
  At any offers and any number BoundOf answers as the model does: the law's own walk.
-/
import Derived.Test.YtdlpbemjbmgbeaaCf
namespace Go.Proofs.Ytdlpbemjbmgbeaa
open Go.RowKit

def boI (L : List (List Int)) (p : Int) : Int := if chB L p then Of.topS L L.length else 0
theorem bo_w {a : Option Addr} {n c : Nat} {L : List (List Int)} {p : Int} {w : World} (hn : L.length = n) (h : ORow w a L) :
    Calls Try.prog 8 #[.slice a n c, .int .i64 p] w fun e w' => e = .returned (.tuple #[.int .i64 (boI L p), .bool (chB L p)]) ∧ Below w.heap.size w w' := by
  unfold boI
  cases hg : chB L p
  · exact bo_no hn h hg
  · exact bo_yes hn h hg
theorem sbo_w {a : Option Addr} {n c : Nat} {L : List (List Int)} {p : Int} {w : World} (hn : L.length = n) (hm : n ≤ 1048576) (h : ORow w a L) :
    Calls Try.prog 9 #[.slice a n c, .int .i64 p] w fun e w' => e = .returned (.tuple #[.int .i64 (boI L p), .bool (chB L p)]) ∧ Below w.heap.size w w' := by
  unfold boI
  cases hg : chB L p
  · exact sbo_no hn hm h hg
  · exact sbo_yes hn hm h hg
end Go.Proofs.Ytdlpbemjbmgbeaa
