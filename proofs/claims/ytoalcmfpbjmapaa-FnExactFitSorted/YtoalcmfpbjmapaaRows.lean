/-
  No cell of these rows narrows 'for every input' (looked for: loops, veiled, ifaces, maps, wideKeys, modest, calm, conditions, laid).
  DERIVED. THE GIVEN ROWS OF THIS SEAT. 6 by the template 'for every input the law returns true; each argument reads behind the call as it read before'; 0 by the template 'total and deterministic' (their statements: YtoalcmfpbjmapaaTotals.lean).
  GIVEN WITH THE SEED: the statements are not yours to turn. If you find one false, say at which input.
  Laid BY PROGRAM, IN A SANDBOX (cutbox-rows.mjs): the forced cells as the released guide's own fill.sh prints them over the translation 54d626e522628d8c… (all of the seat's roots in one cut). By AI agents, Wed Nov 11 2026. No macro, syntax, notation, axiom, sorry.
-/
import Derived.Test.YtoalcmfpbjmapaaChecked
import GoSem.Claim
import GoSem.ClaimJoined
import GoSem.ClaimMapViews
import Derived.JoinedTies
import Derived.KernelRfl
namespace Go.Proofs.Ytoalcmfpbjmapaa
/- THE CELL 'sum', in the pinned program and in every row, IS THE sha256 OF THE DUMP (.gsa) THAT YtoalcmfpbjmapaaProg.lean LOADS. Nothing in Lean hashes anything: it is a label: what it is worth is what the hold of that sum in a sandbox is worth. -/
noncomputable def Try.pinned : Pinned := { name := "ytoalcmfpbjmapaa", sum := "54d626e522628d8c2565be1ed602bd96c14502811ce95f21fd3cb97aa1f73c63", checked := Try.checked }
namespace Rows
def none {H : Type} : Left H := { results := [], args := [] }

/-- 'laws.FnExactGoodItems': WHATEVER THE INPUT: true; the input reads as it did. -/
def fnExactGoodItemsSpec : ChangeSpec := { name := "fnExactGoodItems", fn := fun _ => fun
  | [d] => { results := [.lit (.bool true)], args := [d] }
  | _ => none }
def fnExactGoodItemsRow : OpenClaim := { program := "ytoalcmfpbjmapaa", sum := "54d626e522628d8c2565be1ed602bd96c14502811ce95f21fd3cb97aa1f73c63", func := "loop.example/g00451/laws.FnExactGoodItems", spec := "fnExactGoodItems", apart := false }
def FnExactGoodItemsSaid : Prop := fnExactGoodItemsRow.holds Try.pinned (OpenSpec.ofChange fnExactGoodItemsSpec)

/-- ITS FALSE NEIGHBOUR: 'it returns false'. Refute it at one input. -/
def fnExactGoodItemsWrong : ChangeSpec := { name := "fnExactGoodItems", fn := fun _ => fun
  | [d] => { results := [.lit (.bool false)], args := [d] }
  | _ => none }
def FnExactGoodItemsWrongFalsely : Prop := fnExactGoodItemsRow.holds Try.pinned (OpenSpec.ofChange fnExactGoodItemsWrong)

/-- 'laws.FnExactFirstFit': WHATEVER THE INPUT: true; the input reads as it did. -/
def fnExactFirstFitSpec : ChangeSpec := { name := "fnExactFirstFit", fn := fun _ => fun
  | [d] => { results := [.lit (.bool true)], args := [d] }
  | _ => none }
def fnExactFirstFitRow : OpenClaim := { program := "ytoalcmfpbjmapaa", sum := "54d626e522628d8c2565be1ed602bd96c14502811ce95f21fd3cb97aa1f73c63", func := "loop.example/g00451/laws.FnExactFirstFit", spec := "fnExactFirstFit", unfollowed := true, recurses := true, apart := false }
def FnExactFirstFitSaid : Prop := fnExactFirstFitRow.holds Try.pinned (OpenSpec.ofChange fnExactFirstFitSpec)

/-- ITS FALSE NEIGHBOUR: 'it returns false'. Refute it at one input. -/
def fnExactFirstFitWrong : ChangeSpec := { name := "fnExactFirstFit", fn := fun _ => fun
  | [d] => { results := [.lit (.bool false)], args := [d] }
  | _ => none }
def FnExactFirstFitWrongFalsely : Prop := fnExactFirstFitRow.holds Try.pinned (OpenSpec.ofChange fnExactFirstFitWrong)

/-- 'laws.FnExactFitSorted': WHATEVER THE INPUT: true; the input reads as it did. -/
def fnExactFitSortedSpec : ChangeSpec := { name := "fnExactFitSorted", fn := fun _ => fun
  | [d] => { results := [.lit (.bool true)], args := [d] }
  | _ => none }
def fnExactFitSortedRow : OpenClaim := { program := "ytoalcmfpbjmapaa", sum := "54d626e522628d8c2565be1ed602bd96c14502811ce95f21fd3cb97aa1f73c63", func := "loop.example/g00451/laws.FnExactFitSorted", spec := "fnExactFitSorted", unfollowed := true, recurses := true, apart := false }
def FnExactFitSortedSaid : Prop := fnExactFitSortedRow.holds Try.pinned (OpenSpec.ofChange fnExactFitSortedSpec)

/-- ITS FALSE NEIGHBOUR: 'it returns false'. Refute it at one input. -/
def fnExactFitSortedWrong : ChangeSpec := { name := "fnExactFitSorted", fn := fun _ => fun
  | [d] => { results := [.lit (.bool false)], args := [d] }
  | _ => none }
def FnExactFitSortedWrongFalsely : Prop := fnExactFitSortedRow.holds Try.pinned (OpenSpec.ofChange fnExactFitSortedWrong)

/-- 'laws.FnExactFewestBoxes': WHATEVER THE INPUT: true; the input reads as it did. -/
def fnExactFewestBoxesSpec : ChangeSpec := { name := "fnExactFewestBoxes", fn := fun _ => fun
  | [d] => { results := [.lit (.bool true)], args := [d] }
  | _ => none }
def fnExactFewestBoxesRow : OpenClaim := { program := "ytoalcmfpbjmapaa", sum := "54d626e522628d8c2565be1ed602bd96c14502811ce95f21fd3cb97aa1f73c63", func := "loop.example/g00451/laws.FnExactFewestBoxes", spec := "fnExactFewestBoxes", unfollowed := true, recurses := true, apart := false }
def FnExactFewestBoxesSaid : Prop := fnExactFewestBoxesRow.holds Try.pinned (OpenSpec.ofChange fnExactFewestBoxesSpec)

/-- ITS FALSE NEIGHBOUR: 'it returns false'. Refute it at one input. -/
def fnExactFewestBoxesWrong : ChangeSpec := { name := "fnExactFewestBoxes", fn := fun _ => fun
  | [d] => { results := [.lit (.bool false)], args := [d] }
  | _ => none }
def FnExactFewestBoxesWrongFalsely : Prop := fnExactFewestBoxesRow.holds Try.pinned (OpenSpec.ofChange fnExactFewestBoxesWrong)

/-- 'laws.FnExactIsPacking': WHATEVER THE INPUT: true; the input reads as it did. -/
def fnExactIsPackingSpec : ChangeSpec := { name := "fnExactIsPacking", fn := fun _ => fun
  | [d1, d2] => { results := [.lit (.bool true)], args := [d1, d2] }
  | _ => none }
def fnExactIsPackingRow : OpenClaim := { program := "ytoalcmfpbjmapaa", sum := "54d626e522628d8c2565be1ed602bd96c14502811ce95f21fd3cb97aa1f73c63", func := "loop.example/g00451/laws.FnExactIsPacking", spec := "fnExactIsPacking", apart := false }
def FnExactIsPackingSaid : Prop := fnExactIsPackingRow.holds Try.pinned (OpenSpec.ofChange fnExactIsPackingSpec)

/-- ITS FALSE NEIGHBOUR: 'it returns false'. Refute it at one input. -/
def fnExactIsPackingWrong : ChangeSpec := { name := "fnExactIsPacking", fn := fun _ => fun
  | [d1, d2] => { results := [.lit (.bool false)], args := [d1, d2] }
  | _ => none }
def FnExactIsPackingWrongFalsely : Prop := fnExactIsPackingRow.holds Try.pinned (OpenSpec.ofChange fnExactIsPackingWrong)

/-- 'laws.FnExactLeastBoxes': WHATEVER THE INPUT: true; the input reads as it did. -/
def fnExactLeastBoxesSpec : ChangeSpec := { name := "fnExactLeastBoxes", fn := fun _ => fun
  | [d] => { results := [.lit (.bool true)], args := [d] }
  | _ => none }
def fnExactLeastBoxesRow : OpenClaim := { program := "ytoalcmfpbjmapaa", sum := "54d626e522628d8c2565be1ed602bd96c14502811ce95f21fd3cb97aa1f73c63", func := "loop.example/g00451/laws.FnExactLeastBoxes", spec := "fnExactLeastBoxes", apart := false }
def FnExactLeastBoxesSaid : Prop := fnExactLeastBoxesRow.holds Try.pinned (OpenSpec.ofChange fnExactLeastBoxesSpec)

/-- ITS FALSE NEIGHBOUR: 'it returns false'. Refute it at one input. -/
def fnExactLeastBoxesWrong : ChangeSpec := { name := "fnExactLeastBoxes", fn := fun _ => fun
  | [d] => { results := [.lit (.bool false)], args := [d] }
  | _ => none }
def FnExactLeastBoxesWrongFalsely : Prop := fnExactLeastBoxesRow.holds Try.pinned (OpenSpec.ofChange fnExactLeastBoxesWrong)

/- THE SECOND FORM. 'bulk': how many values and letters a reading holds, each counted each time it is reached (what is shared counts as often as it is met; a slice's spare places count too). A statement '..UptoSaid' is the law's where the arguments, and the package variables that the reading takes, are together of bulk at most 1048576: NARROWER than '..Said'. Prove '..Said' where nothing that the law and all that it calls make is longer than what came in: it says more and counts as full. Else prove '..UptoSaid'. A law counts once. -/
mutual
def uptoBulk {H : Type} : DataW H → Nat
  | .lit (.string bytes) => bytes.length + 1
  | .lit _ => 1
  | .nil => 1
  | .ptr d => uptoBulk d + 1
  | .slice elems spare => uptoBulkAll elems + uptoBulkAll spare + 1
  | .agg parts => uptoBulkAll parts + 1
  | .iface _ d => uptoBulk d + 1
  | .map entries => uptoBulkEntries entries + 1
  | .held _ => 1
def uptoBulkAll {H : Type} : List (DataW H) → Nat
  | [] => 0
  | d :: r => uptoBulk d + uptoBulkAll r
def uptoBulkEntries {H : Type} : List (Lit × DataW H) → Nat
  | [] => 0
  | x :: r => uptoBulkEntry x + uptoBulkEntries r
def uptoBulkEntry {H : Type} : Lit × DataW H → Nat
  | (.string bytes, d) => bytes.length + uptoBulk d + 1
  | (_, d) => uptoBulk d + 1
 end
def uptoSmall : (H : Type) → List (DataW H) → Bool := fun _ ds => decide (uptoBulkAll ds ≤ 1048576)
def OpenSpec.upto (s : _root_.Go.ChangeSpec) : _root_.Go.OpenSpec := { _root_.Go.OpenSpec.ofChange s with cond := some uptoSmall }

/-- 'laws.FnExactGoodItems', WHERE WHAT IT READS IS OF BULK AT MOST 1048576: true; the input reads as it did. -/
def fnExactGoodItemsUptoRow : OpenClaim := { program := "ytoalcmfpbjmapaa", sum := "54d626e522628d8c2565be1ed602bd96c14502811ce95f21fd3cb97aa1f73c63", func := "loop.example/g00451/laws.FnExactGoodItems", spec := "fnExactGoodItems", apart := false, narrowed := true }
def FnExactGoodItemsUptoSaid : Prop := fnExactGoodItemsUptoRow.holds Try.pinned (OpenSpec.upto fnExactGoodItemsSpec)

/-- 'laws.FnExactFirstFit', WHERE WHAT IT READS IS OF BULK AT MOST 1048576: true; the input reads as it did. -/
def fnExactFirstFitUptoRow : OpenClaim := { program := "ytoalcmfpbjmapaa", sum := "54d626e522628d8c2565be1ed602bd96c14502811ce95f21fd3cb97aa1f73c63", func := "loop.example/g00451/laws.FnExactFirstFit", spec := "fnExactFirstFit", unfollowed := true, recurses := true, apart := false, narrowed := true }
def FnExactFirstFitUptoSaid : Prop := fnExactFirstFitUptoRow.holds Try.pinned (OpenSpec.upto fnExactFirstFitSpec)

/-- 'laws.FnExactFitSorted', WHERE WHAT IT READS IS OF BULK AT MOST 1048576: true; the input reads as it did. -/
def fnExactFitSortedUptoRow : OpenClaim := { program := "ytoalcmfpbjmapaa", sum := "54d626e522628d8c2565be1ed602bd96c14502811ce95f21fd3cb97aa1f73c63", func := "loop.example/g00451/laws.FnExactFitSorted", spec := "fnExactFitSorted", unfollowed := true, recurses := true, apart := false, narrowed := true }
def FnExactFitSortedUptoSaid : Prop := fnExactFitSortedUptoRow.holds Try.pinned (OpenSpec.upto fnExactFitSortedSpec)

/-- 'laws.FnExactFewestBoxes', WHERE WHAT IT READS IS OF BULK AT MOST 1048576: true; the input reads as it did. -/
def fnExactFewestBoxesUptoRow : OpenClaim := { program := "ytoalcmfpbjmapaa", sum := "54d626e522628d8c2565be1ed602bd96c14502811ce95f21fd3cb97aa1f73c63", func := "loop.example/g00451/laws.FnExactFewestBoxes", spec := "fnExactFewestBoxes", unfollowed := true, recurses := true, apart := false, narrowed := true }
def FnExactFewestBoxesUptoSaid : Prop := fnExactFewestBoxesUptoRow.holds Try.pinned (OpenSpec.upto fnExactFewestBoxesSpec)

/-- 'laws.FnExactIsPacking', WHERE WHAT IT READS IS OF BULK AT MOST 1048576: true; the input reads as it did. -/
def fnExactIsPackingUptoRow : OpenClaim := { program := "ytoalcmfpbjmapaa", sum := "54d626e522628d8c2565be1ed602bd96c14502811ce95f21fd3cb97aa1f73c63", func := "loop.example/g00451/laws.FnExactIsPacking", spec := "fnExactIsPacking", apart := false, narrowed := true }
def FnExactIsPackingUptoSaid : Prop := fnExactIsPackingUptoRow.holds Try.pinned (OpenSpec.upto fnExactIsPackingSpec)

/-- 'laws.FnExactLeastBoxes', WHERE WHAT IT READS IS OF BULK AT MOST 1048576: true; the input reads as it did. -/
def fnExactLeastBoxesUptoRow : OpenClaim := { program := "ytoalcmfpbjmapaa", sum := "54d626e522628d8c2565be1ed602bd96c14502811ce95f21fd3cb97aa1f73c63", func := "loop.example/g00451/laws.FnExactLeastBoxes", spec := "fnExactLeastBoxes", apart := false, narrowed := true }
def FnExactLeastBoxesUptoSaid : Prop := fnExactLeastBoxesUptoRow.holds Try.pinned (OpenSpec.upto fnExactLeastBoxesSpec)

end Rows
end Go.Proofs.Ytoalcmfpbjmapaa
