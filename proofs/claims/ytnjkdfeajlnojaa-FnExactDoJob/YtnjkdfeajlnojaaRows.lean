/-
  No cell of these rows narrows 'for every input' (looked for: loops, veiled, ifaces, maps, wideKeys, modest, calm, conditions, laid).
  DERIVED. THE GIVEN ROWS OF THIS SEAT. 6 by the template 'for every input the law returns true; each argument reads behind the call as it read before'; 0 by the template 'total and deterministic' (their statements: YtnjkdfeajlnojaaTotals.lean).
  GIVEN WITH THE SEED: the statements are not yours to turn. If you find one false, say at which input.
  Laid BY PROGRAM, IN A SANDBOX (cutbox-rows.mjs): the forced cells as the released guide's own fill.sh prints them over the translation 91960454d500e0ab… (all of the seat's roots in one cut). By AI agents, Wed Nov 11 2026. No macro, syntax, notation, axiom, sorry.
-/
import Derived.Test.YtnjkdfeajlnojaaChecked
import GoSem.Claim
import GoSem.ClaimJoined
import GoSem.ClaimMapViews
import Derived.JoinedTies
import Derived.KernelRfl
namespace Go.Proofs.Ytnjkdfeajlnojaa
/- THE CELL 'sum', in the pinned program and in every row, IS THE sha256 OF THE DUMP (.gsa) THAT YtnjkdfeajlnojaaProg.lean LOADS. Nothing in Lean hashes anything: it is a label: what it is worth is what the hold of that sum in a sandbox is worth. -/
noncomputable def Try.pinned : Pinned := { name := "ytnjkdfeajlnojaa", sum := "91960454d500e0ab6d90de5c9b2765d6ac9c752158fe644d9b161f2bd0f74b94", checked := Try.checked }
namespace Rows
def none {H : Type} : Left H := { results := [], args := [] }

/-- 'laws.FnExactNewJob': WHATEVER THE INPUT: true; the input reads as it did. -/
def fnExactNewJobSpec : ChangeSpec := { name := "fnExactNewJob", fn := fun _ => fun
  | [d1, d2] => { results := [.lit (.bool true)], args := [d1, d2] }
  | _ => none }
def fnExactNewJobRow : OpenClaim := { program := "ytnjkdfeajlnojaa", sum := "91960454d500e0ab6d90de5c9b2765d6ac9c752158fe644d9b161f2bd0f74b94", func := "loop.example/g00451/laws.FnExactNewJob", spec := "fnExactNewJob", unfollowed := true, recurses := true, apart := false }
def FnExactNewJobSaid : Prop := fnExactNewJobRow.holds Try.pinned (OpenSpec.ofChange fnExactNewJobSpec)

/-- ITS FALSE NEIGHBOUR: 'it returns false'. Refute it at one input. -/
def fnExactNewJobWrong : ChangeSpec := { name := "fnExactNewJob", fn := fun _ => fun
  | [d1, d2] => { results := [.lit (.bool false)], args := [d1, d2] }
  | _ => none }
def FnExactNewJobWrongFalsely : Prop := fnExactNewJobRow.holds Try.pinned (OpenSpec.ofChange fnExactNewJobWrong)

/-- 'laws.FnExactGoodJob': WHATEVER THE INPUT: true; the input reads as it did. -/
def fnExactGoodJobSpec : ChangeSpec := { name := "fnExactGoodJob", fn := fun _ => fun
  | [d] => { results := [.lit (.bool true)], args := [d] }
  | _ => none }
def fnExactGoodJobRow : OpenClaim := { program := "ytnjkdfeajlnojaa", sum := "91960454d500e0ab6d90de5c9b2765d6ac9c752158fe644d9b161f2bd0f74b94", func := "loop.example/g00451/laws.FnExactGoodJob", spec := "fnExactGoodJob", unfollowed := true, recurses := true, apart := false }
def FnExactGoodJobSaid : Prop := fnExactGoodJobRow.holds Try.pinned (OpenSpec.ofChange fnExactGoodJobSpec)

/-- ITS FALSE NEIGHBOUR: 'it returns false'. Refute it at one input. -/
def fnExactGoodJobWrong : ChangeSpec := { name := "fnExactGoodJob", fn := fun _ => fun
  | [d] => { results := [.lit (.bool false)], args := [d] }
  | _ => none }
def FnExactGoodJobWrongFalsely : Prop := fnExactGoodJobRow.holds Try.pinned (OpenSpec.ofChange fnExactGoodJobWrong)

/-- 'laws.FnExactNextMove': WHATEVER THE INPUT: true; the input reads as it did. -/
def fnExactNextMoveSpec : ChangeSpec := { name := "fnExactNextMove", fn := fun _ => fun
  | [d] => { results := [.lit (.bool true)], args := [d] }
  | _ => none }
def fnExactNextMoveRow : OpenClaim := { program := "ytnjkdfeajlnojaa", sum := "91960454d500e0ab6d90de5c9b2765d6ac9c752158fe644d9b161f2bd0f74b94", func := "loop.example/g00451/laws.FnExactNextMove", spec := "fnExactNextMove", unfollowed := true, recurses := true, apart := false }
def FnExactNextMoveSaid : Prop := fnExactNextMoveRow.holds Try.pinned (OpenSpec.ofChange fnExactNextMoveSpec)

/-- ITS FALSE NEIGHBOUR: 'it returns false'. Refute it at one input. -/
def fnExactNextMoveWrong : ChangeSpec := { name := "fnExactNextMove", fn := fun _ => fun
  | [d] => { results := [.lit (.bool false)], args := [d] }
  | _ => none }
def FnExactNextMoveWrongFalsely : Prop := fnExactNextMoveRow.holds Try.pinned (OpenSpec.ofChange fnExactNextMoveWrong)

/-- 'laws.FnExactDoJob': WHATEVER THE INPUT: true; the input reads as it did. -/
def fnExactDoJobSpec : ChangeSpec := { name := "fnExactDoJob", fn := fun _ => fun
  | [d1, d2] => { results := [.lit (.bool true)], args := [d1, d2] }
  | _ => none }
def fnExactDoJobRow : OpenClaim := { program := "ytnjkdfeajlnojaa", sum := "91960454d500e0ab6d90de5c9b2765d6ac9c752158fe644d9b161f2bd0f74b94", func := "loop.example/g00451/laws.FnExactDoJob", spec := "fnExactDoJob", unfollowed := true, recurses := true, apart := false }
def FnExactDoJobSaid : Prop := fnExactDoJobRow.holds Try.pinned (OpenSpec.ofChange fnExactDoJobSpec)

/-- ITS FALSE NEIGHBOUR: 'it returns false'. Refute it at one input. -/
def fnExactDoJobWrong : ChangeSpec := { name := "fnExactDoJob", fn := fun _ => fun
  | [d1, d2] => { results := [.lit (.bool false)], args := [d1, d2] }
  | _ => none }
def FnExactDoJobWrongFalsely : Prop := fnExactDoJobRow.holds Try.pinned (OpenSpec.ofChange fnExactDoJobWrong)

/-- 'laws.FnExactPlayJob': WHATEVER THE INPUT: true; the input reads as it did. -/
def fnExactPlayJobSpec : ChangeSpec := { name := "fnExactPlayJob", fn := fun _ => fun
  | [d1, d2, d3] => { results := [.lit (.bool true)], args := [d1, d2, d3] }
  | _ => none }
def fnExactPlayJobRow : OpenClaim := { program := "ytnjkdfeajlnojaa", sum := "91960454d500e0ab6d90de5c9b2765d6ac9c752158fe644d9b161f2bd0f74b94", func := "loop.example/g00451/laws.FnExactPlayJob", spec := "fnExactPlayJob", unfollowed := true, recurses := true, apart := false }
def FnExactPlayJobSaid : Prop := fnExactPlayJobRow.holds Try.pinned (OpenSpec.ofChange fnExactPlayJobSpec)

/-- ITS FALSE NEIGHBOUR: 'it returns false'. Refute it at one input. -/
def fnExactPlayJobWrong : ChangeSpec := { name := "fnExactPlayJob", fn := fun _ => fun
  | [d1, d2, d3] => { results := [.lit (.bool false)], args := [d1, d2, d3] }
  | _ => none }
def FnExactPlayJobWrongFalsely : Prop := fnExactPlayJobRow.holds Try.pinned (OpenSpec.ofChange fnExactPlayJobWrong)

/-- 'laws.FnExactDistanceLeft': WHATEVER THE INPUT: true; the input reads as it did. -/
def fnExactDistanceLeftSpec : ChangeSpec := { name := "fnExactDistanceLeft", fn := fun _ => fun
  | [d] => { results := [.lit (.bool true)], args := [d] }
  | _ => none }
def fnExactDistanceLeftRow : OpenClaim := { program := "ytnjkdfeajlnojaa", sum := "91960454d500e0ab6d90de5c9b2765d6ac9c752158fe644d9b161f2bd0f74b94", func := "loop.example/g00451/laws.FnExactDistanceLeft", spec := "fnExactDistanceLeft", unfollowed := true, recurses := true, apart := false }
def FnExactDistanceLeftSaid : Prop := fnExactDistanceLeftRow.holds Try.pinned (OpenSpec.ofChange fnExactDistanceLeftSpec)

/-- ITS FALSE NEIGHBOUR: 'it returns false'. Refute it at one input. -/
def fnExactDistanceLeftWrong : ChangeSpec := { name := "fnExactDistanceLeft", fn := fun _ => fun
  | [d] => { results := [.lit (.bool false)], args := [d] }
  | _ => none }
def FnExactDistanceLeftWrongFalsely : Prop := fnExactDistanceLeftRow.holds Try.pinned (OpenSpec.ofChange fnExactDistanceLeftWrong)

/- THE SECOND FORM. 'bulk': how many values and letters a reading holds, each counted each time it is reached (what is shared counts as often as it is met; a slice's spare places count too). A statement '..UptoSaid' is the law's where the arguments, and the package variables that the reading takes, are together of bulk at most 1048576: NARROWER than '..Said'. Prove '..Said' where nothing that the law and all that it calls make is longer than what came in: it says more and counts as full. Else prove '..UptoSaid'. A law counts once. -/
mutual
def uptoBulk {H : Type} : DataW H → Nat
  | .lit (.string bytes) => bytes.length + 1
  | .lit _ => 1
  | .nil => 1
  | .ptr d => uptoBulk d + 1
  | .slice elems spare => uptoBulkAll elems + uptoBulkAll spare + 1
  | .agg parts => uptoBulkAll parts + 1
  | .iface _ d => uptoBulk d + 1
  | .map entries => uptoBulkEntries entries + 1
  | .held _ => 1
def uptoBulkAll {H : Type} : List (DataW H) → Nat
  | [] => 0
  | d :: r => uptoBulk d + uptoBulkAll r
def uptoBulkEntries {H : Type} : List (Lit × DataW H) → Nat
  | [] => 0
  | x :: r => uptoBulkEntry x + uptoBulkEntries r
def uptoBulkEntry {H : Type} : Lit × DataW H → Nat
  | (.string bytes, d) => bytes.length + uptoBulk d + 1
  | (_, d) => uptoBulk d + 1
 end
def uptoSmall : (H : Type) → List (DataW H) → Bool := fun _ ds => decide (uptoBulkAll ds ≤ 1048576)
def OpenSpec.upto (s : _root_.Go.ChangeSpec) : _root_.Go.OpenSpec := { _root_.Go.OpenSpec.ofChange s with cond := some uptoSmall }

/-- 'laws.FnExactNewJob', WHERE WHAT IT READS IS OF BULK AT MOST 1048576: true; the input reads as it did. -/
def fnExactNewJobUptoRow : OpenClaim := { program := "ytnjkdfeajlnojaa", sum := "91960454d500e0ab6d90de5c9b2765d6ac9c752158fe644d9b161f2bd0f74b94", func := "loop.example/g00451/laws.FnExactNewJob", spec := "fnExactNewJob", unfollowed := true, recurses := true, apart := false, narrowed := true }
def FnExactNewJobUptoSaid : Prop := fnExactNewJobUptoRow.holds Try.pinned (OpenSpec.upto fnExactNewJobSpec)

/-- 'laws.FnExactGoodJob', WHERE WHAT IT READS IS OF BULK AT MOST 1048576: true; the input reads as it did. -/
def fnExactGoodJobUptoRow : OpenClaim := { program := "ytnjkdfeajlnojaa", sum := "91960454d500e0ab6d90de5c9b2765d6ac9c752158fe644d9b161f2bd0f74b94", func := "loop.example/g00451/laws.FnExactGoodJob", spec := "fnExactGoodJob", unfollowed := true, recurses := true, apart := false, narrowed := true }
def FnExactGoodJobUptoSaid : Prop := fnExactGoodJobUptoRow.holds Try.pinned (OpenSpec.upto fnExactGoodJobSpec)

/-- 'laws.FnExactNextMove', WHERE WHAT IT READS IS OF BULK AT MOST 1048576: true; the input reads as it did. -/
def fnExactNextMoveUptoRow : OpenClaim := { program := "ytnjkdfeajlnojaa", sum := "91960454d500e0ab6d90de5c9b2765d6ac9c752158fe644d9b161f2bd0f74b94", func := "loop.example/g00451/laws.FnExactNextMove", spec := "fnExactNextMove", unfollowed := true, recurses := true, apart := false, narrowed := true }
def FnExactNextMoveUptoSaid : Prop := fnExactNextMoveUptoRow.holds Try.pinned (OpenSpec.upto fnExactNextMoveSpec)

/-- 'laws.FnExactDoJob', WHERE WHAT IT READS IS OF BULK AT MOST 1048576: true; the input reads as it did. -/
def fnExactDoJobUptoRow : OpenClaim := { program := "ytnjkdfeajlnojaa", sum := "91960454d500e0ab6d90de5c9b2765d6ac9c752158fe644d9b161f2bd0f74b94", func := "loop.example/g00451/laws.FnExactDoJob", spec := "fnExactDoJob", unfollowed := true, recurses := true, apart := false, narrowed := true }
def FnExactDoJobUptoSaid : Prop := fnExactDoJobUptoRow.holds Try.pinned (OpenSpec.upto fnExactDoJobSpec)

/-- 'laws.FnExactPlayJob', WHERE WHAT IT READS IS OF BULK AT MOST 1048576: true; the input reads as it did. -/
def fnExactPlayJobUptoRow : OpenClaim := { program := "ytnjkdfeajlnojaa", sum := "91960454d500e0ab6d90de5c9b2765d6ac9c752158fe644d9b161f2bd0f74b94", func := "loop.example/g00451/laws.FnExactPlayJob", spec := "fnExactPlayJob", unfollowed := true, recurses := true, apart := false, narrowed := true }
def FnExactPlayJobUptoSaid : Prop := fnExactPlayJobUptoRow.holds Try.pinned (OpenSpec.upto fnExactPlayJobSpec)

/-- 'laws.FnExactDistanceLeft', WHERE WHAT IT READS IS OF BULK AT MOST 1048576: true; the input reads as it did. -/
def fnExactDistanceLeftUptoRow : OpenClaim := { program := "ytnjkdfeajlnojaa", sum := "91960454d500e0ab6d90de5c9b2765d6ac9c752158fe644d9b161f2bd0f74b94", func := "loop.example/g00451/laws.FnExactDistanceLeft", spec := "fnExactDistanceLeft", unfollowed := true, recurses := true, apart := false, narrowed := true }
def FnExactDistanceLeftUptoSaid : Prop := fnExactDistanceLeftUptoRow.holds Try.pinned (OpenSpec.upto fnExactDistanceLeftSpec)

end Rows
end Go.Proofs.Ytnjkdfeajlnojaa
