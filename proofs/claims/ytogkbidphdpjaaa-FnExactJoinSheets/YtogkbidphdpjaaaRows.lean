/-
  No cell of these rows narrows 'for every input' (looked for: loops, veiled, ifaces, maps, wideKeys, modest, calm, conditions, laid).
  DERIVED. THE GIVEN ROWS OF THIS SEAT. 4 by the template 'for every input the law returns true; each argument reads behind the call as it read before'; 0 by the template 'total and deterministic' (their statements: YtogkbidphdpjaaaTotals.lean).
  GIVEN WITH THE SEED: the statements are not yours to turn. If you find one false, say at which input.
  Laid BY PROGRAM, IN A SANDBOX (cutbox-rows.mjs): the forced cells as the released guide's own fill.sh prints them over the translation 05a34c01ceca1e80… (all of the seat's roots in one cut). By AI agents, Wed Nov 11 2026. No macro, syntax, notation, axiom, sorry.
-/
import Derived.Test.YtogkbidphdpjaaaChecked
import GoSem.Claim
import GoSem.ClaimJoined
import GoSem.ClaimMapViews
import Derived.JoinedTies
import Derived.KernelRfl
namespace Go.Proofs.Ytogkbidphdpjaaa
/- THE CELL 'sum', in the pinned program and in every row, IS THE sha256 OF THE DUMP (.gsa) THAT YtogkbidphdpjaaaProg.lean LOADS. Nothing in Lean hashes anything: it is a label: what it is worth is what the hold of that sum in a sandbox is worth. -/
noncomputable def Try.pinned : Pinned := { name := "ytogkbidphdpjaaa", sum := "05a34c01ceca1e80fa5661ffa3c201622f34180f87b5cb7aea78e7d4ee48df68", checked := Try.checked }
namespace Rows
def none {H : Type} : Left H := { results := [], args := [] }

/-- 'laws.FnExactGoodSheet': WHATEVER THE INPUT: true; the input reads as it did. -/
def fnExactGoodSheetSpec : ChangeSpec := { name := "fnExactGoodSheet", fn := fun _ => fun
  | [d] => { results := [.lit (.bool true)], args := [d] }
  | _ => none }
def fnExactGoodSheetRow : OpenClaim := { program := "ytogkbidphdpjaaa", sum := "05a34c01ceca1e80fa5661ffa3c201622f34180f87b5cb7aea78e7d4ee48df68", func := "loop.example/g00451/laws.FnExactGoodSheet", spec := "fnExactGoodSheet", unfollowed := true, recurses := true, apart := false }
def FnExactGoodSheetSaid : Prop := fnExactGoodSheetRow.holds Try.pinned (OpenSpec.ofChange fnExactGoodSheetSpec)

/-- ITS FALSE NEIGHBOUR: 'it returns false'. Refute it at one input. -/
def fnExactGoodSheetWrong : ChangeSpec := { name := "fnExactGoodSheet", fn := fun _ => fun
  | [d] => { results := [.lit (.bool false)], args := [d] }
  | _ => none }
def FnExactGoodSheetWrongFalsely : Prop := fnExactGoodSheetRow.holds Try.pinned (OpenSpec.ofChange fnExactGoodSheetWrong)

/-- 'laws.FnExactFindGood': WHATEVER THE INPUT: true; the input reads as it did. -/
def fnExactFindGoodSpec : ChangeSpec := { name := "fnExactFindGood", fn := fun _ => fun
  | [d1, d2] => { results := [.lit (.bool true)], args := [d1, d2] }
  | _ => none }
def fnExactFindGoodRow : OpenClaim := { program := "ytogkbidphdpjaaa", sum := "05a34c01ceca1e80fa5661ffa3c201622f34180f87b5cb7aea78e7d4ee48df68", func := "loop.example/g00451/laws.FnExactFindGood", spec := "fnExactFindGood", unfollowed := true, recurses := true, apart := false }
def FnExactFindGoodSaid : Prop := fnExactFindGoodRow.holds Try.pinned (OpenSpec.ofChange fnExactFindGoodSpec)

/-- ITS FALSE NEIGHBOUR: 'it returns false'. Refute it at one input. -/
def fnExactFindGoodWrong : ChangeSpec := { name := "fnExactFindGood", fn := fun _ => fun
  | [d1, d2] => { results := [.lit (.bool false)], args := [d1, d2] }
  | _ => none }
def FnExactFindGoodWrongFalsely : Prop := fnExactFindGoodRow.holds Try.pinned (OpenSpec.ofChange fnExactFindGoodWrong)

/-- 'laws.FnExactSheetProfile': WHATEVER THE INPUT: true; the input reads as it did. -/
def fnExactSheetProfileSpec : ChangeSpec := { name := "fnExactSheetProfile", fn := fun _ => fun
  | [d] => { results := [.lit (.bool true)], args := [d] }
  | _ => none }
def fnExactSheetProfileRow : OpenClaim := { program := "ytogkbidphdpjaaa", sum := "05a34c01ceca1e80fa5661ffa3c201622f34180f87b5cb7aea78e7d4ee48df68", func := "loop.example/g00451/laws.FnExactSheetProfile", spec := "fnExactSheetProfile", unfollowed := true, recurses := true, apart := false }
def FnExactSheetProfileSaid : Prop := fnExactSheetProfileRow.holds Try.pinned (OpenSpec.ofChange fnExactSheetProfileSpec)

/-- ITS FALSE NEIGHBOUR: 'it returns false'. Refute it at one input. -/
def fnExactSheetProfileWrong : ChangeSpec := { name := "fnExactSheetProfile", fn := fun _ => fun
  | [d] => { results := [.lit (.bool false)], args := [d] }
  | _ => none }
def FnExactSheetProfileWrongFalsely : Prop := fnExactSheetProfileRow.holds Try.pinned (OpenSpec.ofChange fnExactSheetProfileWrong)

/-- 'laws.FnExactJoinSheets': WHATEVER THE INPUT: true; the input reads as it did. -/
def fnExactJoinSheetsSpec : ChangeSpec := { name := "fnExactJoinSheets", fn := fun _ => fun
  | [d1, d2] => { results := [.lit (.bool true)], args := [d1, d2] }
  | _ => none }
def fnExactJoinSheetsRow : OpenClaim := { program := "ytogkbidphdpjaaa", sum := "05a34c01ceca1e80fa5661ffa3c201622f34180f87b5cb7aea78e7d4ee48df68", func := "loop.example/g00451/laws.FnExactJoinSheets", spec := "fnExactJoinSheets", unfollowed := true, recurses := true, apart := false }
def FnExactJoinSheetsSaid : Prop := fnExactJoinSheetsRow.holds Try.pinned (OpenSpec.ofChange fnExactJoinSheetsSpec)

/-- ITS FALSE NEIGHBOUR: 'it returns false'. Refute it at one input. -/
def fnExactJoinSheetsWrong : ChangeSpec := { name := "fnExactJoinSheets", fn := fun _ => fun
  | [d1, d2] => { results := [.lit (.bool false)], args := [d1, d2] }
  | _ => none }
def FnExactJoinSheetsWrongFalsely : Prop := fnExactJoinSheetsRow.holds Try.pinned (OpenSpec.ofChange fnExactJoinSheetsWrong)

/- THE SECOND FORM. 'bulk': how many values and letters a reading holds, each counted each time it is reached (what is shared counts as often as it is met; a slice's spare places count too). A statement '..UptoSaid' is the law's where the arguments, and the package variables that the reading takes, are together of bulk at most 1048576: NARROWER than '..Said'. Prove '..Said' where nothing that the law and all that it calls make is longer than what came in: it says more and counts as full. Else prove '..UptoSaid'. A law counts once. -/
mutual
def uptoBulk {H : Type} : DataW H → Nat
  | .lit (.string bytes) => bytes.length + 1
  | .lit _ => 1
  | .nil => 1
  | .ptr d => uptoBulk d + 1
  | .slice elems spare => uptoBulkAll elems + uptoBulkAll spare + 1
  | .agg parts => uptoBulkAll parts + 1
  | .iface _ d => uptoBulk d + 1
  | .map entries => uptoBulkEntries entries + 1
  | .held _ => 1
def uptoBulkAll {H : Type} : List (DataW H) → Nat
  | [] => 0
  | d :: r => uptoBulk d + uptoBulkAll r
def uptoBulkEntries {H : Type} : List (Lit × DataW H) → Nat
  | [] => 0
  | x :: r => uptoBulkEntry x + uptoBulkEntries r
def uptoBulkEntry {H : Type} : Lit × DataW H → Nat
  | (.string bytes, d) => bytes.length + uptoBulk d + 1
  | (_, d) => uptoBulk d + 1
 end
def uptoSmall : (H : Type) → List (DataW H) → Bool := fun _ ds => decide (uptoBulkAll ds ≤ 1048576)
def OpenSpec.upto (s : _root_.Go.ChangeSpec) : _root_.Go.OpenSpec := { _root_.Go.OpenSpec.ofChange s with cond := some uptoSmall }

/-- 'laws.FnExactGoodSheet', WHERE WHAT IT READS IS OF BULK AT MOST 1048576: true; the input reads as it did. -/
def fnExactGoodSheetUptoRow : OpenClaim := { program := "ytogkbidphdpjaaa", sum := "05a34c01ceca1e80fa5661ffa3c201622f34180f87b5cb7aea78e7d4ee48df68", func := "loop.example/g00451/laws.FnExactGoodSheet", spec := "fnExactGoodSheet", unfollowed := true, recurses := true, apart := false, narrowed := true }
def FnExactGoodSheetUptoSaid : Prop := fnExactGoodSheetUptoRow.holds Try.pinned (OpenSpec.upto fnExactGoodSheetSpec)

/-- 'laws.FnExactFindGood', WHERE WHAT IT READS IS OF BULK AT MOST 1048576: true; the input reads as it did. -/
def fnExactFindGoodUptoRow : OpenClaim := { program := "ytogkbidphdpjaaa", sum := "05a34c01ceca1e80fa5661ffa3c201622f34180f87b5cb7aea78e7d4ee48df68", func := "loop.example/g00451/laws.FnExactFindGood", spec := "fnExactFindGood", unfollowed := true, recurses := true, apart := false, narrowed := true }
def FnExactFindGoodUptoSaid : Prop := fnExactFindGoodUptoRow.holds Try.pinned (OpenSpec.upto fnExactFindGoodSpec)

/-- 'laws.FnExactSheetProfile', WHERE WHAT IT READS IS OF BULK AT MOST 1048576: true; the input reads as it did. -/
def fnExactSheetProfileUptoRow : OpenClaim := { program := "ytogkbidphdpjaaa", sum := "05a34c01ceca1e80fa5661ffa3c201622f34180f87b5cb7aea78e7d4ee48df68", func := "loop.example/g00451/laws.FnExactSheetProfile", spec := "fnExactSheetProfile", unfollowed := true, recurses := true, apart := false, narrowed := true }
def FnExactSheetProfileUptoSaid : Prop := fnExactSheetProfileUptoRow.holds Try.pinned (OpenSpec.upto fnExactSheetProfileSpec)

/-- 'laws.FnExactJoinSheets', WHERE WHAT IT READS IS OF BULK AT MOST 1048576: true; the input reads as it did. -/
def fnExactJoinSheetsUptoRow : OpenClaim := { program := "ytogkbidphdpjaaa", sum := "05a34c01ceca1e80fa5661ffa3c201622f34180f87b5cb7aea78e7d4ee48df68", func := "loop.example/g00451/laws.FnExactJoinSheets", spec := "fnExactJoinSheets", unfollowed := true, recurses := true, apart := false, narrowed := true }
def FnExactJoinSheetsUptoSaid : Prop := fnExactJoinSheetsUptoRow.holds Try.pinned (OpenSpec.upto fnExactJoinSheetsSpec)

end Rows
end Go.Proofs.Ytogkbidphdpjaaa
