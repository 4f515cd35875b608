/-
  No cell of these rows narrows 'for every input' (looked for: loops, veiled, ifaces, maps, wideKeys, modest, calm, conditions, laid).
  DERIVED. THE GIVEN ROWS OF THIS SEAT. 5 by the template 'for every input the law returns true; each argument reads behind the call as it read before'; 0 by the template 'total and deterministic' (their statements: YtdmdhmcnedmnbarTotals.lean).
  GIVEN WITH THE SEED: the statements are not yours to turn. If you find one false, say at which input.
  Laid BY PROGRAM, IN A SANDBOX (cutbox-rows.mjs): the forced cells as the released guide's own fill.sh prints them over the translation 82a03a3df8e5b416… (all of the seat's roots in one cut). By AI agents, Wed Nov 11 2026. No macro, syntax, notation, axiom, sorry.
-/
import Derived.Test.YtdmdhmcnedmnbarChecked
import GoSem.Claim
import GoSem.ClaimJoined
import GoSem.ClaimMapViews
import Derived.JoinedTies
import Derived.KernelRfl
namespace Go.Proofs.Ytdmdhmcnedmnbar
/- THE CELL 'sum', in the pinned program and in every row, IS THE sha256 OF THE DUMP (.gsa) THAT YtdmdhmcnedmnbarProg.lean LOADS. Nothing in Lean hashes anything: it is a label: what it is worth is what the hold of that sum in a sandbox is worth. -/
noncomputable def Try.pinned : Pinned := { name := "ytdmdhmcnedmnbar", sum := "82a03a3df8e5b416d119c8368f9fa190d76fb9ab06736f0cf31ce781ea592f42", checked := Try.checked }
namespace Rows
def none {H : Type} : Left H := { results := [], args := [] }

/-- 'laws.FnExactSumFracs': WHATEVER THE INPUT: true; the input reads as it did. -/
def fnExactSumFracsSpec : ChangeSpec := { name := "fnExactSumFracs", fn := fun _ => fun
  | [d] => { results := [.lit (.bool true)], args := [d] }
  | _ => none }
def fnExactSumFracsRow : OpenClaim := { program := "ytdmdhmcnedmnbar", sum := "82a03a3df8e5b416d119c8368f9fa190d76fb9ab06736f0cf31ce781ea592f42", func := "loop.example/g00451/laws.FnExactSumFracs", spec := "fnExactSumFracs", apart := false }
def FnExactSumFracsSaid : Prop := fnExactSumFracsRow.holds Try.pinned (OpenSpec.ofChange fnExactSumFracsSpec)

/-- ITS FALSE NEIGHBOUR: 'it returns false'. Refute it at one input. -/
def fnExactSumFracsWrong : ChangeSpec := { name := "fnExactSumFracs", fn := fun _ => fun
  | [d] => { results := [.lit (.bool false)], args := [d] }
  | _ => none }
def FnExactSumFracsWrongFalsely : Prop := fnExactSumFracsRow.holds Try.pinned (OpenSpec.ofChange fnExactSumFracsWrong)

/-- 'laws.FnExactRootOf': WHATEVER THE INPUT: true; the input reads as it did. -/
def fnExactRootOfSpec : ChangeSpec := { name := "fnExactRootOf", fn := fun _ => fun
  | [d] => { results := [.lit (.bool true)], args := [d] }
  | _ => none }
def fnExactRootOfRow : OpenClaim := { program := "ytdmdhmcnedmnbar", sum := "82a03a3df8e5b416d119c8368f9fa190d76fb9ab06736f0cf31ce781ea592f42", func := "loop.example/g00451/laws.FnExactRootOf", spec := "fnExactRootOf", inPlace := ["math.sqrt"], apart := false }
def FnExactRootOfSaid : Prop := fnExactRootOfRow.holds Try.pinned (OpenSpec.ofChange fnExactRootOfSpec)

/-- ITS FALSE NEIGHBOUR: 'it returns false'. Refute it at one input. -/
def fnExactRootOfWrong : ChangeSpec := { name := "fnExactRootOf", fn := fun _ => fun
  | [d] => { results := [.lit (.bool false)], args := [d] }
  | _ => none }
def FnExactRootOfWrongFalsely : Prop := fnExactRootOfRow.holds Try.pinned (OpenSpec.ofChange fnExactRootOfWrong)

/-- 'laws.FnExactHeronSteps': WHATEVER THE INPUT: true; the input reads as it did. -/
def fnExactHeronStepsSpec : ChangeSpec := { name := "fnExactHeronSteps", fn := fun _ => fun
  | [d] => { results := [.lit (.bool true)], args := [d] }
  | _ => none }
def fnExactHeronStepsRow : OpenClaim := { program := "ytdmdhmcnedmnbar", sum := "82a03a3df8e5b416d119c8368f9fa190d76fb9ab06736f0cf31ce781ea592f42", func := "loop.example/g00451/laws.FnExactHeronSteps", spec := "fnExactHeronSteps", apart := false }
def FnExactHeronStepsSaid : Prop := fnExactHeronStepsRow.holds Try.pinned (OpenSpec.ofChange fnExactHeronStepsSpec)

/-- ITS FALSE NEIGHBOUR: 'it returns false'. Refute it at one input. -/
def fnExactHeronStepsWrong : ChangeSpec := { name := "fnExactHeronSteps", fn := fun _ => fun
  | [d] => { results := [.lit (.bool false)], args := [d] }
  | _ => none }
def FnExactHeronStepsWrongFalsely : Prop := fnExactHeronStepsRow.holds Try.pinned (OpenSpec.ofChange fnExactHeronStepsWrong)

/-- 'laws.FnExactRootBounds': WHATEVER THE INPUT: true; the input reads as it did. -/
def fnExactRootBoundsSpec : ChangeSpec := { name := "fnExactRootBounds", fn := fun _ => fun
  | [d1, d2] => { results := [.lit (.bool true)], args := [d1, d2] }
  | _ => none }
def fnExactRootBoundsRow : OpenClaim := { program := "ytdmdhmcnedmnbar", sum := "82a03a3df8e5b416d119c8368f9fa190d76fb9ab06736f0cf31ce781ea592f42", func := "loop.example/g00451/laws.FnExactRootBounds", spec := "fnExactRootBounds", inPlace := ["math.sqrt"], apart := false }
def FnExactRootBoundsSaid : Prop := fnExactRootBoundsRow.holds Try.pinned (OpenSpec.ofChange fnExactRootBoundsSpec)

/-- ITS FALSE NEIGHBOUR: 'it returns false'. Refute it at one input. -/
def fnExactRootBoundsWrong : ChangeSpec := { name := "fnExactRootBounds", fn := fun _ => fun
  | [d1, d2] => { results := [.lit (.bool false)], args := [d1, d2] }
  | _ => none }
def FnExactRootBoundsWrongFalsely : Prop := fnExactRootBoundsRow.holds Try.pinned (OpenSpec.ofChange fnExactRootBoundsWrong)

/-- 'laws.FnExactIsSquare': WHATEVER THE INPUT: true; the input reads as it did. -/
def fnExactIsSquareSpec : ChangeSpec := { name := "fnExactIsSquare", fn := fun _ => fun
  | [d] => { results := [.lit (.bool true)], args := [d] }
  | _ => none }
def fnExactIsSquareRow : OpenClaim := { program := "ytdmdhmcnedmnbar", sum := "82a03a3df8e5b416d119c8368f9fa190d76fb9ab06736f0cf31ce781ea592f42", func := "loop.example/g00451/laws.FnExactIsSquare", spec := "fnExactIsSquare", inPlace := ["math.sqrt"], apart := false }
def FnExactIsSquareSaid : Prop := fnExactIsSquareRow.holds Try.pinned (OpenSpec.ofChange fnExactIsSquareSpec)

/-- ITS FALSE NEIGHBOUR: 'it returns false'. Refute it at one input. -/
def fnExactIsSquareWrong : ChangeSpec := { name := "fnExactIsSquare", fn := fun _ => fun
  | [d] => { results := [.lit (.bool false)], args := [d] }
  | _ => none }
def FnExactIsSquareWrongFalsely : Prop := fnExactIsSquareRow.holds Try.pinned (OpenSpec.ofChange fnExactIsSquareWrong)

/- THE SECOND FORM. 'bulk': how many values and letters a reading holds, each counted each time it is reached (what is shared counts as often as it is met; a slice's spare places count too). A statement '..UptoSaid' is the law's where the arguments, and the package variables that the reading takes, are together of bulk at most 1048576: NARROWER than '..Said'. Prove '..Said' where nothing that the law and all that it calls make is longer than what came in: it says more and counts as full. Else prove '..UptoSaid'. A law counts once. -/
mutual
def uptoBulk {H : Type} : DataW H → Nat
  | .lit (.string bytes) => bytes.length + 1
  | .lit _ => 1
  | .nil => 1
  | .ptr d => uptoBulk d + 1
  | .slice elems spare => uptoBulkAll elems + uptoBulkAll spare + 1
  | .agg parts => uptoBulkAll parts + 1
  | .iface _ d => uptoBulk d + 1
  | .map entries => uptoBulkEntries entries + 1
  | .held _ => 1
def uptoBulkAll {H : Type} : List (DataW H) → Nat
  | [] => 0
  | d :: r => uptoBulk d + uptoBulkAll r
def uptoBulkEntries {H : Type} : List (Lit × DataW H) → Nat
  | [] => 0
  | x :: r => uptoBulkEntry x + uptoBulkEntries r
def uptoBulkEntry {H : Type} : Lit × DataW H → Nat
  | (.string bytes, d) => bytes.length + uptoBulk d + 1
  | (_, d) => uptoBulk d + 1
 end
def uptoSmall : (H : Type) → List (DataW H) → Bool := fun _ ds => decide (uptoBulkAll ds ≤ 1048576)
def OpenSpec.upto (s : _root_.Go.ChangeSpec) : _root_.Go.OpenSpec := { _root_.Go.OpenSpec.ofChange s with cond := some uptoSmall }

/-- 'laws.FnExactSumFracs', WHERE WHAT IT READS IS OF BULK AT MOST 1048576: true; the input reads as it did. -/
def fnExactSumFracsUptoRow : OpenClaim := { program := "ytdmdhmcnedmnbar", sum := "82a03a3df8e5b416d119c8368f9fa190d76fb9ab06736f0cf31ce781ea592f42", func := "loop.example/g00451/laws.FnExactSumFracs", spec := "fnExactSumFracs", apart := false, narrowed := true }
def FnExactSumFracsUptoSaid : Prop := fnExactSumFracsUptoRow.holds Try.pinned (OpenSpec.upto fnExactSumFracsSpec)

/-- 'laws.FnExactRootOf', WHERE WHAT IT READS IS OF BULK AT MOST 1048576: true; the input reads as it did. -/
def fnExactRootOfUptoRow : OpenClaim := { program := "ytdmdhmcnedmnbar", sum := "82a03a3df8e5b416d119c8368f9fa190d76fb9ab06736f0cf31ce781ea592f42", func := "loop.example/g00451/laws.FnExactRootOf", spec := "fnExactRootOf", inPlace := ["math.sqrt"], apart := false, narrowed := true }
def FnExactRootOfUptoSaid : Prop := fnExactRootOfUptoRow.holds Try.pinned (OpenSpec.upto fnExactRootOfSpec)

/-- 'laws.FnExactHeronSteps', WHERE WHAT IT READS IS OF BULK AT MOST 1048576: true; the input reads as it did. -/
def fnExactHeronStepsUptoRow : OpenClaim := { program := "ytdmdhmcnedmnbar", sum := "82a03a3df8e5b416d119c8368f9fa190d76fb9ab06736f0cf31ce781ea592f42", func := "loop.example/g00451/laws.FnExactHeronSteps", spec := "fnExactHeronSteps", apart := false, narrowed := true }
def FnExactHeronStepsUptoSaid : Prop := fnExactHeronStepsUptoRow.holds Try.pinned (OpenSpec.upto fnExactHeronStepsSpec)

/-- 'laws.FnExactRootBounds', WHERE WHAT IT READS IS OF BULK AT MOST 1048576: true; the input reads as it did. -/
def fnExactRootBoundsUptoRow : OpenClaim := { program := "ytdmdhmcnedmnbar", sum := "82a03a3df8e5b416d119c8368f9fa190d76fb9ab06736f0cf31ce781ea592f42", func := "loop.example/g00451/laws.FnExactRootBounds", spec := "fnExactRootBounds", inPlace := ["math.sqrt"], apart := false, narrowed := true }
def FnExactRootBoundsUptoSaid : Prop := fnExactRootBoundsUptoRow.holds Try.pinned (OpenSpec.upto fnExactRootBoundsSpec)

/-- 'laws.FnExactIsSquare', WHERE WHAT IT READS IS OF BULK AT MOST 1048576: true; the input reads as it did. -/
def fnExactIsSquareUptoRow : OpenClaim := { program := "ytdmdhmcnedmnbar", sum := "82a03a3df8e5b416d119c8368f9fa190d76fb9ab06736f0cf31ce781ea592f42", func := "loop.example/g00451/laws.FnExactIsSquare", spec := "fnExactIsSquare", inPlace := ["math.sqrt"], apart := false, narrowed := true }
def FnExactIsSquareUptoSaid : Prop := fnExactIsSquareUptoRow.holds Try.pinned (OpenSpec.upto fnExactIsSquareSpec)

end Rows
end Go.Proofs.Ytdmdhmcnedmnbar
