/-
  No cell of these rows narrows 'for every input' (looked for: loops, veiled, ifaces, maps, wideKeys, modest, calm, conditions, laid).
  DERIVED. THE GIVEN ROWS OF THIS SEAT. 6 by the template 'for every input the law returns true; each argument reads behind the call as it read before'; 0 by the template 'total and deterministic' (their statements: YteepamahmpgpcavTotals.lean).
  GIVEN WITH THE SEED: the statements are not yours to turn. If you find one false, say at which input.
  Laid BY PROGRAM, IN A SANDBOX (cutbox-rows.mjs): the forced cells as the released guide's own fill.sh prints them over the translation d7b9b7ba452d91ae… (all of the seat's roots in one cut). By AI agents, Wed Nov 11 2026. No macro, syntax, notation, axiom, sorry.
-/
import Derived.Test.YteepamahmpgpcavChecked
import GoSem.Claim
import GoSem.ClaimJoined
import GoSem.ClaimMapViews
import Derived.JoinedTies
import Derived.KernelRfl
namespace Go.Proofs.Yteepamahmpgpcav
/- THE CELL 'sum', in the pinned program and in every row, IS THE sha256 OF THE DUMP (.gsa) THAT YteepamahmpgpcavProg.lean LOADS. Nothing in Lean hashes anything: it is a label: what it is worth is what the hold of that sum in a sandbox is worth. -/
noncomputable def Try.pinned : Pinned := { name := "yteepamahmpgpcav", sum := "d7b9b7ba452d91ae0e670a0132c7a0bda891702d977c272e0237a9ffe2004d5e", checked := Try.checked }
namespace Rows
def none {H : Type} : Left H := { results := [], args := [] }

/-- 'laws.FnExactFluidCost': WHATEVER THE INPUT: true; the input reads as it did. -/
def fnExactFluidCostSpec : ChangeSpec := { name := "fnExactFluidCost", fn := fun _ => fun
  | [d1, d2] => { results := [.lit (.bool true)], args := [d1, d2] }
  | _ => none }
def fnExactFluidCostRow : OpenClaim := { program := "yteepamahmpgpcav", sum := "d7b9b7ba452d91ae0e670a0132c7a0bda891702d977c272e0237a9ffe2004d5e", func := "loop.example/g00451/laws.FnExactFluidCost", spec := "fnExactFluidCost", unfollowed := true, recurses := true, apart := false }
def FnExactFluidCostSaid : Prop := fnExactFluidCostRow.holds Try.pinned (OpenSpec.ofChange fnExactFluidCostSpec)

/-- ITS FALSE NEIGHBOUR: 'it returns false'. Refute it at one input. -/
def fnExactFluidCostWrong : ChangeSpec := { name := "fnExactFluidCost", fn := fun _ => fun
  | [d1, d2] => { results := [.lit (.bool false)], args := [d1, d2] }
  | _ => none }
def FnExactFluidCostWrongFalsely : Prop := fnExactFluidCostRow.holds Try.pinned (OpenSpec.ofChange fnExactFluidCostWrong)

/-- 'laws.FnExactEqualParts': WHATEVER THE INPUT: true; the input reads as it did. -/
def fnExactEqualPartsSpec : ChangeSpec := { name := "fnExactEqualParts", fn := fun _ => fun
  | [d1, d2] => { results := [.lit (.bool true)], args := [d1, d2] }
  | _ => none }
def fnExactEqualPartsRow : OpenClaim := { program := "yteepamahmpgpcav", sum := "d7b9b7ba452d91ae0e670a0132c7a0bda891702d977c272e0237a9ffe2004d5e", func := "loop.example/g00451/laws.FnExactEqualParts", spec := "fnExactEqualParts", apart := false }
def FnExactEqualPartsSaid : Prop := fnExactEqualPartsRow.holds Try.pinned (OpenSpec.ofChange fnExactEqualPartsSpec)

/-- ITS FALSE NEIGHBOUR: 'it returns false'. Refute it at one input. -/
def fnExactEqualPartsWrong : ChangeSpec := { name := "fnExactEqualParts", fn := fun _ => fun
  | [d1, d2] => { results := [.lit (.bool false)], args := [d1, d2] }
  | _ => none }
def FnExactEqualPartsWrongFalsely : Prop := fnExactEqualPartsRow.holds Try.pinned (OpenSpec.ofChange fnExactEqualPartsWrong)

/-- 'laws.FnExactTimeParts': WHATEVER THE INPUT: true; the input reads as it did. -/
def fnExactTimePartsSpec : ChangeSpec := { name := "fnExactTimeParts", fn := fun _ => fun
  | [d1, d2] => { results := [.lit (.bool true)], args := [d1, d2] }
  | _ => none }
def fnExactTimePartsRow : OpenClaim := { program := "yteepamahmpgpcav", sum := "d7b9b7ba452d91ae0e670a0132c7a0bda891702d977c272e0237a9ffe2004d5e", func := "loop.example/g00451/laws.FnExactTimeParts", spec := "fnExactTimeParts", apart := false }
def FnExactTimePartsSaid : Prop := fnExactTimePartsRow.holds Try.pinned (OpenSpec.ofChange fnExactTimePartsSpec)

/-- ITS FALSE NEIGHBOUR: 'it returns false'. Refute it at one input. -/
def fnExactTimePartsWrong : ChangeSpec := { name := "fnExactTimeParts", fn := fun _ => fun
  | [d1, d2] => { results := [.lit (.bool false)], args := [d1, d2] }
  | _ => none }
def FnExactTimePartsWrongFalsely : Prop := fnExactTimePartsRow.holds Try.pinned (OpenSpec.ofChange fnExactTimePartsWrong)

/-- 'laws.FnExactRootParts': WHATEVER THE INPUT: true; the input reads as it did. -/
def fnExactRootPartsSpec : ChangeSpec := { name := "fnExactRootParts", fn := fun _ => fun
  | [d1, d2] => { results := [.lit (.bool true)], args := [d1, d2] }
  | _ => none }
def fnExactRootPartsRow : OpenClaim := { program := "yteepamahmpgpcav", sum := "d7b9b7ba452d91ae0e670a0132c7a0bda891702d977c272e0237a9ffe2004d5e", func := "loop.example/g00451/laws.FnExactRootParts", spec := "fnExactRootParts", inPlace := ["math.sqrt"], apart := false }
def FnExactRootPartsSaid : Prop := fnExactRootPartsRow.holds Try.pinned (OpenSpec.ofChange fnExactRootPartsSpec)

/-- ITS FALSE NEIGHBOUR: 'it returns false'. Refute it at one input. -/
def fnExactRootPartsWrong : ChangeSpec := { name := "fnExactRootParts", fn := fun _ => fun
  | [d1, d2] => { results := [.lit (.bool false)], args := [d1, d2] }
  | _ => none }
def FnExactRootPartsWrongFalsely : Prop := fnExactRootPartsRow.holds Try.pinned (OpenSpec.ofChange fnExactRootPartsWrong)

/-- 'laws.FnExactLeastCost': WHATEVER THE INPUT: true; the input reads as it did. -/
def fnExactLeastCostSpec : ChangeSpec := { name := "fnExactLeastCost", fn := fun _ => fun
  | [d1, d2, d3] => { results := [.lit (.bool true)], args := [d1, d2, d3] }
  | _ => none }
def fnExactLeastCostRow : OpenClaim := { program := "yteepamahmpgpcav", sum := "d7b9b7ba452d91ae0e670a0132c7a0bda891702d977c272e0237a9ffe2004d5e", func := "loop.example/g00451/laws.FnExactLeastCost", spec := "fnExactLeastCost", inPlace := ["math.sqrt"], apart := false }
def FnExactLeastCostSaid : Prop := fnExactLeastCostRow.holds Try.pinned (OpenSpec.ofChange fnExactLeastCostSpec)

/-- ITS FALSE NEIGHBOUR: 'it returns false'. Refute it at one input. -/
def fnExactLeastCostWrong : ChangeSpec := { name := "fnExactLeastCost", fn := fun _ => fun
  | [d1, d2, d3] => { results := [.lit (.bool false)], args := [d1, d2, d3] }
  | _ => none }
def FnExactLeastCostWrongFalsely : Prop := fnExactLeastCostRow.holds Try.pinned (OpenSpec.ofChange fnExactLeastCostWrong)

/-- 'laws.FnExactIsWithin': WHATEVER THE INPUT: true; the input reads as it did. -/
def fnExactIsWithinSpec : ChangeSpec := { name := "fnExactIsWithin", fn := fun _ => fun
  | [d1, d2] => { results := [.lit (.bool true)], args := [d1, d2] }
  | _ => none }
def fnExactIsWithinRow : OpenClaim := { program := "yteepamahmpgpcav", sum := "d7b9b7ba452d91ae0e670a0132c7a0bda891702d977c272e0237a9ffe2004d5e", func := "loop.example/g00451/laws.FnExactIsWithin", spec := "fnExactIsWithin", apart := false }
def FnExactIsWithinSaid : Prop := fnExactIsWithinRow.holds Try.pinned (OpenSpec.ofChange fnExactIsWithinSpec)

/-- ITS FALSE NEIGHBOUR: 'it returns false'. Refute it at one input. -/
def fnExactIsWithinWrong : ChangeSpec := { name := "fnExactIsWithin", fn := fun _ => fun
  | [d1, d2] => { results := [.lit (.bool false)], args := [d1, d2] }
  | _ => none }
def FnExactIsWithinWrongFalsely : Prop := fnExactIsWithinRow.holds Try.pinned (OpenSpec.ofChange fnExactIsWithinWrong)

/- THE SECOND FORM. 'bulk': how many values and letters a reading holds, each counted each time it is reached (what is shared counts as often as it is met; a slice's spare places count too). A statement '..UptoSaid' is the law's where the arguments, and the package variables that the reading takes, are together of bulk at most 1048576: NARROWER than '..Said'. Prove '..Said' where nothing that the law and all that it calls make is longer than what came in: it says more and counts as full. Else prove '..UptoSaid'. A law counts once. -/
mutual
def uptoBulk {H : Type} : DataW H → Nat
  | .lit (.string bytes) => bytes.length + 1
  | .lit _ => 1
  | .nil => 1
  | .ptr d => uptoBulk d + 1
  | .slice elems spare => uptoBulkAll elems + uptoBulkAll spare + 1
  | .agg parts => uptoBulkAll parts + 1
  | .iface _ d => uptoBulk d + 1
  | .map entries => uptoBulkEntries entries + 1
  | .held _ => 1
def uptoBulkAll {H : Type} : List (DataW H) → Nat
  | [] => 0
  | d :: r => uptoBulk d + uptoBulkAll r
def uptoBulkEntries {H : Type} : List (Lit × DataW H) → Nat
  | [] => 0
  | x :: r => uptoBulkEntry x + uptoBulkEntries r
def uptoBulkEntry {H : Type} : Lit × DataW H → Nat
  | (.string bytes, d) => bytes.length + uptoBulk d + 1
  | (_, d) => uptoBulk d + 1
 end
def uptoSmall : (H : Type) → List (DataW H) → Bool := fun _ ds => decide (uptoBulkAll ds ≤ 1048576)
def OpenSpec.upto (s : _root_.Go.ChangeSpec) : _root_.Go.OpenSpec := { _root_.Go.OpenSpec.ofChange s with cond := some uptoSmall }

/-- 'laws.FnExactFluidCost', WHERE WHAT IT READS IS OF BULK AT MOST 1048576: true; the input reads as it did. -/
def fnExactFluidCostUptoRow : OpenClaim := { program := "yteepamahmpgpcav", sum := "d7b9b7ba452d91ae0e670a0132c7a0bda891702d977c272e0237a9ffe2004d5e", func := "loop.example/g00451/laws.FnExactFluidCost", spec := "fnExactFluidCost", unfollowed := true, recurses := true, apart := false, narrowed := true }
def FnExactFluidCostUptoSaid : Prop := fnExactFluidCostUptoRow.holds Try.pinned (OpenSpec.upto fnExactFluidCostSpec)

/-- 'laws.FnExactEqualParts', WHERE WHAT IT READS IS OF BULK AT MOST 1048576: true; the input reads as it did. -/
def fnExactEqualPartsUptoRow : OpenClaim := { program := "yteepamahmpgpcav", sum := "d7b9b7ba452d91ae0e670a0132c7a0bda891702d977c272e0237a9ffe2004d5e", func := "loop.example/g00451/laws.FnExactEqualParts", spec := "fnExactEqualParts", apart := false, narrowed := true }
def FnExactEqualPartsUptoSaid : Prop := fnExactEqualPartsUptoRow.holds Try.pinned (OpenSpec.upto fnExactEqualPartsSpec)

/-- 'laws.FnExactTimeParts', WHERE WHAT IT READS IS OF BULK AT MOST 1048576: true; the input reads as it did. -/
def fnExactTimePartsUptoRow : OpenClaim := { program := "yteepamahmpgpcav", sum := "d7b9b7ba452d91ae0e670a0132c7a0bda891702d977c272e0237a9ffe2004d5e", func := "loop.example/g00451/laws.FnExactTimeParts", spec := "fnExactTimeParts", apart := false, narrowed := true }
def FnExactTimePartsUptoSaid : Prop := fnExactTimePartsUptoRow.holds Try.pinned (OpenSpec.upto fnExactTimePartsSpec)

/-- 'laws.FnExactRootParts', WHERE WHAT IT READS IS OF BULK AT MOST 1048576: true; the input reads as it did. -/
def fnExactRootPartsUptoRow : OpenClaim := { program := "yteepamahmpgpcav", sum := "d7b9b7ba452d91ae0e670a0132c7a0bda891702d977c272e0237a9ffe2004d5e", func := "loop.example/g00451/laws.FnExactRootParts", spec := "fnExactRootParts", inPlace := ["math.sqrt"], apart := false, narrowed := true }
def FnExactRootPartsUptoSaid : Prop := fnExactRootPartsUptoRow.holds Try.pinned (OpenSpec.upto fnExactRootPartsSpec)

/-- 'laws.FnExactLeastCost', WHERE WHAT IT READS IS OF BULK AT MOST 1048576: true; the input reads as it did. -/
def fnExactLeastCostUptoRow : OpenClaim := { program := "yteepamahmpgpcav", sum := "d7b9b7ba452d91ae0e670a0132c7a0bda891702d977c272e0237a9ffe2004d5e", func := "loop.example/g00451/laws.FnExactLeastCost", spec := "fnExactLeastCost", inPlace := ["math.sqrt"], apart := false, narrowed := true }
def FnExactLeastCostUptoSaid : Prop := fnExactLeastCostUptoRow.holds Try.pinned (OpenSpec.upto fnExactLeastCostSpec)

/-- 'laws.FnExactIsWithin', WHERE WHAT IT READS IS OF BULK AT MOST 1048576: true; the input reads as it did. -/
def fnExactIsWithinUptoRow : OpenClaim := { program := "yteepamahmpgpcav", sum := "d7b9b7ba452d91ae0e670a0132c7a0bda891702d977c272e0237a9ffe2004d5e", func := "loop.example/g00451/laws.FnExactIsWithin", spec := "fnExactIsWithin", apart := false, narrowed := true }
def FnExactIsWithinUptoSaid : Prop := fnExactIsWithinUptoRow.holds Try.pinned (OpenSpec.upto fnExactIsWithinSpec)

end Rows
end Go.Proofs.Yteepamahmpgpcav
