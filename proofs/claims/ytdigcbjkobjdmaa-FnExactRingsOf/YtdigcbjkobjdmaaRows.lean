/-
  No cell of these rows narrows 'for every input' (looked for: loops, veiled, ifaces, maps, wideKeys, modest, calm, conditions, laid).
  DERIVED. THE GIVEN ROWS OF THIS SEAT. 6 by the template 'for every input the law returns true; each argument reads behind the call as it read before'; 0 by the template 'total and deterministic' (their statements: YtdigcbjkobjdmaaTotals.lean).
  GIVEN WITH THE SEED: the statements are not yours to turn. If you find one false, say at which input.
  Laid BY PROGRAM, IN A SANDBOX (cutbox-rows.mjs): the forced cells as the released guide's own fill.sh prints them over the translation b0159d3aaa3a1366… (all of the seat's roots in one cut). By AI agents, Wed Nov 11 2026. No macro, syntax, notation, axiom, sorry.
-/
import Derived.Test.YtdigcbjkobjdmaaChecked
import GoSem.Claim
import GoSem.ClaimJoined
import GoSem.ClaimMapViews
import Derived.JoinedTies
import Derived.KernelRfl
namespace Go.Proofs.Ytdigcbjkobjdmaa
/- THE CELL 'sum', in the pinned program and in every row, IS THE sha256 OF THE DUMP (.gsa) THAT YtdigcbjkobjdmaaProg.lean LOADS. Nothing in Lean hashes anything: it is a label: what it is worth is what the hold of that sum in a sandbox is worth. -/
noncomputable def Try.pinned : Pinned := { name := "ytdigcbjkobjdmaa", sum := "b0159d3aaa3a13663084d403181cc79900d89f87c950d99914b3a08bc2b9802a", checked := Try.checked }
namespace Rows
def none {H : Type} : Left H := { results := [], args := [] }

/-- 'laws.FnExactGoodSpots': WHATEVER THE INPUT: true; the input reads as it did. -/
def fnExactGoodSpotsSpec : ChangeSpec := { name := "fnExactGoodSpots", fn := fun _ => fun
  | [d] => { results := [.lit (.bool true)], args := [d] }
  | _ => none }
def fnExactGoodSpotsRow : OpenClaim := { program := "ytdigcbjkobjdmaa", sum := "b0159d3aaa3a13663084d403181cc79900d89f87c950d99914b3a08bc2b9802a", func := "loop.example/g00451/laws.FnExactGoodSpots", spec := "fnExactGoodSpots", apart := false }
def FnExactGoodSpotsSaid : Prop := fnExactGoodSpotsRow.holds Try.pinned (OpenSpec.ofChange fnExactGoodSpotsSpec)

/-- ITS FALSE NEIGHBOUR: 'it returns false'. Refute it at one input. -/
def fnExactGoodSpotsWrong : ChangeSpec := { name := "fnExactGoodSpots", fn := fun _ => fun
  | [d] => { results := [.lit (.bool false)], args := [d] }
  | _ => none }
def FnExactGoodSpotsWrongFalsely : Prop := fnExactGoodSpotsRow.holds Try.pinned (OpenSpec.ofChange fnExactGoodSpotsWrong)

/-- 'laws.FnExactDoMove': WHATEVER THE INPUT: true; the input reads as it did. -/
def fnExactDoMoveSpec : ChangeSpec := { name := "fnExactDoMove", fn := fun _ => fun
  | [d1, d2] => { results := [.lit (.bool true)], args := [d1, d2] }
  | _ => none }
def fnExactDoMoveRow : OpenClaim := { program := "ytdigcbjkobjdmaa", sum := "b0159d3aaa3a13663084d403181cc79900d89f87c950d99914b3a08bc2b9802a", func := "loop.example/g00451/laws.FnExactDoMove", spec := "fnExactDoMove", apart := false }
def FnExactDoMoveSaid : Prop := fnExactDoMoveRow.holds Try.pinned (OpenSpec.ofChange fnExactDoMoveSpec)

/-- ITS FALSE NEIGHBOUR: 'it returns false'. Refute it at one input. -/
def fnExactDoMoveWrong : ChangeSpec := { name := "fnExactDoMove", fn := fun _ => fun
  | [d1, d2] => { results := [.lit (.bool false)], args := [d1, d2] }
  | _ => none }
def FnExactDoMoveWrongFalsely : Prop := fnExactDoMoveRow.holds Try.pinned (OpenSpec.ofChange fnExactDoMoveWrong)

/-- 'laws.FnExactDoMoves': WHATEVER THE INPUT: true; the input reads as it did. -/
def fnExactDoMovesSpec : ChangeSpec := { name := "fnExactDoMoves", fn := fun _ => fun
  | [d1, d2] => { results := [.lit (.bool true)], args := [d1, d2] }
  | _ => none }
def fnExactDoMovesRow : OpenClaim := { program := "ytdigcbjkobjdmaa", sum := "b0159d3aaa3a13663084d403181cc79900d89f87c950d99914b3a08bc2b9802a", func := "loop.example/g00451/laws.FnExactDoMoves", spec := "fnExactDoMoves", apart := false }
def FnExactDoMovesSaid : Prop := fnExactDoMovesRow.holds Try.pinned (OpenSpec.ofChange fnExactDoMovesSpec)

/-- ITS FALSE NEIGHBOUR: 'it returns false'. Refute it at one input. -/
def fnExactDoMovesWrong : ChangeSpec := { name := "fnExactDoMoves", fn := fun _ => fun
  | [d1, d2] => { results := [.lit (.bool false)], args := [d1, d2] }
  | _ => none }
def FnExactDoMovesWrongFalsely : Prop := fnExactDoMovesRow.holds Try.pinned (OpenSpec.ofChange fnExactDoMovesWrong)

/-- 'laws.FnExactPlanMoves': WHATEVER THE INPUT: true; the input reads as it did. -/
def fnExactPlanMovesSpec : ChangeSpec := { name := "fnExactPlanMoves", fn := fun _ => fun
  | [d1, d2] => { results := [.lit (.bool true)], args := [d1, d2] }
  | _ => none }
def fnExactPlanMovesRow : OpenClaim := { program := "ytdigcbjkobjdmaa", sum := "b0159d3aaa3a13663084d403181cc79900d89f87c950d99914b3a08bc2b9802a", func := "loop.example/g00451/laws.FnExactPlanMoves", spec := "fnExactPlanMoves", unfollowed := true, recurses := true, apart := false }
def FnExactPlanMovesSaid : Prop := fnExactPlanMovesRow.holds Try.pinned (OpenSpec.ofChange fnExactPlanMovesSpec)

/-- ITS FALSE NEIGHBOUR: 'it returns false'. Refute it at one input. -/
def fnExactPlanMovesWrong : ChangeSpec := { name := "fnExactPlanMoves", fn := fun _ => fun
  | [d1, d2] => { results := [.lit (.bool false)], args := [d1, d2] }
  | _ => none }
def FnExactPlanMovesWrongFalsely : Prop := fnExactPlanMovesRow.holds Try.pinned (OpenSpec.ofChange fnExactPlanMovesWrong)

/-- 'laws.FnExactMovesNeeded': WHATEVER THE INPUT: true; the input reads as it did. -/
def fnExactMovesNeededSpec : ChangeSpec := { name := "fnExactMovesNeeded", fn := fun _ => fun
  | [d1, d2] => { results := [.lit (.bool true)], args := [d1, d2] }
  | _ => none }
def fnExactMovesNeededRow : OpenClaim := { program := "ytdigcbjkobjdmaa", sum := "b0159d3aaa3a13663084d403181cc79900d89f87c950d99914b3a08bc2b9802a", func := "loop.example/g00451/laws.FnExactMovesNeeded", spec := "fnExactMovesNeeded", unfollowed := true, recurses := true, apart := false }
def FnExactMovesNeededSaid : Prop := fnExactMovesNeededRow.holds Try.pinned (OpenSpec.ofChange fnExactMovesNeededSpec)

/-- ITS FALSE NEIGHBOUR: 'it returns false'. Refute it at one input. -/
def fnExactMovesNeededWrong : ChangeSpec := { name := "fnExactMovesNeeded", fn := fun _ => fun
  | [d1, d2] => { results := [.lit (.bool false)], args := [d1, d2] }
  | _ => none }
def FnExactMovesNeededWrongFalsely : Prop := fnExactMovesNeededRow.holds Try.pinned (OpenSpec.ofChange fnExactMovesNeededWrong)

/-- 'laws.FnExactRingsOf': WHATEVER THE INPUT: true; the input reads as it did. -/
def fnExactRingsOfSpec : ChangeSpec := { name := "fnExactRingsOf", fn := fun _ => fun
  | [d1, d2] => { results := [.lit (.bool true)], args := [d1, d2] }
  | _ => none }
def fnExactRingsOfRow : OpenClaim := { program := "ytdigcbjkobjdmaa", sum := "b0159d3aaa3a13663084d403181cc79900d89f87c950d99914b3a08bc2b9802a", func := "loop.example/g00451/laws.FnExactRingsOf", spec := "fnExactRingsOf", unfollowed := true, recurses := true, apart := false }
def FnExactRingsOfSaid : Prop := fnExactRingsOfRow.holds Try.pinned (OpenSpec.ofChange fnExactRingsOfSpec)

/-- ITS FALSE NEIGHBOUR: 'it returns false'. Refute it at one input. -/
def fnExactRingsOfWrong : ChangeSpec := { name := "fnExactRingsOf", fn := fun _ => fun
  | [d1, d2] => { results := [.lit (.bool false)], args := [d1, d2] }
  | _ => none }
def FnExactRingsOfWrongFalsely : Prop := fnExactRingsOfRow.holds Try.pinned (OpenSpec.ofChange fnExactRingsOfWrong)

/- THE SECOND FORM. 'bulk': how many values and letters a reading holds, each counted each time it is reached (what is shared counts as often as it is met; a slice's spare places count too). A statement '..UptoSaid' is the law's where the arguments, and the package variables that the reading takes, are together of bulk at most 1048576: NARROWER than '..Said'. Prove '..Said' where nothing that the law and all that it calls make is longer than what came in: it says more and counts as full. Else prove '..UptoSaid'. A law counts once. -/
mutual
def uptoBulk {H : Type} : DataW H → Nat
  | .lit (.string bytes) => bytes.length + 1
  | .lit _ => 1
  | .nil => 1
  | .ptr d => uptoBulk d + 1
  | .slice elems spare => uptoBulkAll elems + uptoBulkAll spare + 1
  | .agg parts => uptoBulkAll parts + 1
  | .iface _ d => uptoBulk d + 1
  | .map entries => uptoBulkEntries entries + 1
  | .held _ => 1
def uptoBulkAll {H : Type} : List (DataW H) → Nat
  | [] => 0
  | d :: r => uptoBulk d + uptoBulkAll r
def uptoBulkEntries {H : Type} : List (Lit × DataW H) → Nat
  | [] => 0
  | x :: r => uptoBulkEntry x + uptoBulkEntries r
def uptoBulkEntry {H : Type} : Lit × DataW H → Nat
  | (.string bytes, d) => bytes.length + uptoBulk d + 1
  | (_, d) => uptoBulk d + 1
 end
def uptoSmall : (H : Type) → List (DataW H) → Bool := fun _ ds => decide (uptoBulkAll ds ≤ 1048576)
def OpenSpec.upto (s : _root_.Go.ChangeSpec) : _root_.Go.OpenSpec := { _root_.Go.OpenSpec.ofChange s with cond := some uptoSmall }

/-- 'laws.FnExactGoodSpots', WHERE WHAT IT READS IS OF BULK AT MOST 1048576: true; the input reads as it did. -/
def fnExactGoodSpotsUptoRow : OpenClaim := { program := "ytdigcbjkobjdmaa", sum := "b0159d3aaa3a13663084d403181cc79900d89f87c950d99914b3a08bc2b9802a", func := "loop.example/g00451/laws.FnExactGoodSpots", spec := "fnExactGoodSpots", apart := false, narrowed := true }
def FnExactGoodSpotsUptoSaid : Prop := fnExactGoodSpotsUptoRow.holds Try.pinned (OpenSpec.upto fnExactGoodSpotsSpec)

/-- 'laws.FnExactDoMove', WHERE WHAT IT READS IS OF BULK AT MOST 1048576: true; the input reads as it did. -/
def fnExactDoMoveUptoRow : OpenClaim := { program := "ytdigcbjkobjdmaa", sum := "b0159d3aaa3a13663084d403181cc79900d89f87c950d99914b3a08bc2b9802a", func := "loop.example/g00451/laws.FnExactDoMove", spec := "fnExactDoMove", apart := false, narrowed := true }
def FnExactDoMoveUptoSaid : Prop := fnExactDoMoveUptoRow.holds Try.pinned (OpenSpec.upto fnExactDoMoveSpec)

/-- 'laws.FnExactDoMoves', WHERE WHAT IT READS IS OF BULK AT MOST 1048576: true; the input reads as it did. -/
def fnExactDoMovesUptoRow : OpenClaim := { program := "ytdigcbjkobjdmaa", sum := "b0159d3aaa3a13663084d403181cc79900d89f87c950d99914b3a08bc2b9802a", func := "loop.example/g00451/laws.FnExactDoMoves", spec := "fnExactDoMoves", apart := false, narrowed := true }
def FnExactDoMovesUptoSaid : Prop := fnExactDoMovesUptoRow.holds Try.pinned (OpenSpec.upto fnExactDoMovesSpec)

/-- 'laws.FnExactPlanMoves', WHERE WHAT IT READS IS OF BULK AT MOST 1048576: true; the input reads as it did. -/
def fnExactPlanMovesUptoRow : OpenClaim := { program := "ytdigcbjkobjdmaa", sum := "b0159d3aaa3a13663084d403181cc79900d89f87c950d99914b3a08bc2b9802a", func := "loop.example/g00451/laws.FnExactPlanMoves", spec := "fnExactPlanMoves", unfollowed := true, recurses := true, apart := false, narrowed := true }
def FnExactPlanMovesUptoSaid : Prop := fnExactPlanMovesUptoRow.holds Try.pinned (OpenSpec.upto fnExactPlanMovesSpec)

/-- 'laws.FnExactMovesNeeded', WHERE WHAT IT READS IS OF BULK AT MOST 1048576: true; the input reads as it did. -/
def fnExactMovesNeededUptoRow : OpenClaim := { program := "ytdigcbjkobjdmaa", sum := "b0159d3aaa3a13663084d403181cc79900d89f87c950d99914b3a08bc2b9802a", func := "loop.example/g00451/laws.FnExactMovesNeeded", spec := "fnExactMovesNeeded", unfollowed := true, recurses := true, apart := false, narrowed := true }
def FnExactMovesNeededUptoSaid : Prop := fnExactMovesNeededUptoRow.holds Try.pinned (OpenSpec.upto fnExactMovesNeededSpec)

/-- 'laws.FnExactRingsOf', WHERE WHAT IT READS IS OF BULK AT MOST 1048576: true; the input reads as it did. -/
def fnExactRingsOfUptoRow : OpenClaim := { program := "ytdigcbjkobjdmaa", sum := "b0159d3aaa3a13663084d403181cc79900d89f87c950d99914b3a08bc2b9802a", func := "loop.example/g00451/laws.FnExactRingsOf", spec := "fnExactRingsOf", unfollowed := true, recurses := true, apart := false, narrowed := true }
def FnExactRingsOfUptoSaid : Prop := fnExactRingsOfUptoRow.holds Try.pinned (OpenSpec.upto fnExactRingsOfSpec)

end Rows
end Go.Proofs.Ytdigcbjkobjdmaa
