/-
  No cell of these rows narrows 'for every input' (looked for: loops, veiled, ifaces, maps, wideKeys, modest, calm, conditions, laid).
  DERIVED. THE GIVEN ROWS OF THIS SEAT. 6 by the template 'for every input the law returns true; each argument reads behind the call as it read before'; 0 by the template 'total and deterministic' (their statements: YthhfokjplhkdnaaTotals.lean).
  GIVEN WITH THE SEED: the statements are not yours to turn. If you find one false, say at which input.
  Laid BY PROGRAM, IN A SANDBOX (cutbox-rows.mjs): the forced cells as the released guide's own fill.sh prints them over the translation 4c851bffd69eeb32… (all of the seat's roots in one cut). By AI agents, Wed Nov 11 2026. No macro, syntax, notation, axiom, sorry.
-/
import Derived.Test.YthhfokjplhkdnaaChecked
import GoSem.Claim
import GoSem.ClaimJoined
import GoSem.ClaimMapViews
import Derived.JoinedTies
import Derived.KernelRfl
namespace Go.Proofs.Ythhfokjplhkdnaa
/- THE CELL 'sum', in the pinned program and in every row, IS THE sha256 OF THE DUMP (.gsa) THAT YthhfokjplhkdnaaProg.lean LOADS. Nothing in Lean hashes anything: it is a label: what it is worth is what the hold of that sum in a sandbox is worth. -/
noncomputable def Try.pinned : Pinned := { name := "ythhfokjplhkdnaa", sum := "4c851bffd69eeb32d3888b7ffc298d5dc7d3563d5a00c4c2e93c8d6572277527", checked := Try.checked }
namespace Rows
def none {H : Type} : Left H := { results := [], args := [] }

/-- 'laws.FnExactPairCost': WHATEVER THE INPUT: true; the input reads as it did. -/
def fnExactPairCostSpec : ChangeSpec := { name := "fnExactPairCost", fn := fun _ => fun
  | [d1, d2] => { results := [.lit (.bool true)], args := [d1, d2] }
  | _ => none }
def fnExactPairCostRow : OpenClaim := { program := "ythhfokjplhkdnaa", sum := "4c851bffd69eeb32d3888b7ffc298d5dc7d3563d5a00c4c2e93c8d6572277527", func := "loop.example/g00451/laws.FnExactPairCost", spec := "fnExactPairCost", apart := false }
def FnExactPairCostSaid : Prop := fnExactPairCostRow.holds Try.pinned (OpenSpec.ofChange fnExactPairCostSpec)

/-- ITS FALSE NEIGHBOUR: 'it returns false'. Refute it at one input. -/
def fnExactPairCostWrong : ChangeSpec := { name := "fnExactPairCost", fn := fun _ => fun
  | [d1, d2] => { results := [.lit (.bool false)], args := [d1, d2] }
  | _ => none }
def FnExactPairCostWrongFalsely : Prop := fnExactPairCostRow.holds Try.pinned (OpenSpec.ofChange fnExactPairCostWrong)

/-- 'laws.FnExactOrderFor': WHATEVER THE INPUT: true; the input reads as it did. -/
def fnExactOrderForSpec : ChangeSpec := { name := "fnExactOrderFor", fn := fun _ => fun
  | [d1, d2] => { results := [.lit (.bool true)], args := [d1, d2] }
  | _ => none }
def fnExactOrderForRow : OpenClaim := { program := "ythhfokjplhkdnaa", sum := "4c851bffd69eeb32d3888b7ffc298d5dc7d3563d5a00c4c2e93c8d6572277527", func := "loop.example/g00451/laws.FnExactOrderFor", spec := "fnExactOrderFor", unfollowed := true, recurses := true, apart := false }
def FnExactOrderForSaid : Prop := fnExactOrderForRow.holds Try.pinned (OpenSpec.ofChange fnExactOrderForSpec)

/-- ITS FALSE NEIGHBOUR: 'it returns false'. Refute it at one input. -/
def fnExactOrderForWrong : ChangeSpec := { name := "fnExactOrderFor", fn := fun _ => fun
  | [d1, d2] => { results := [.lit (.bool false)], args := [d1, d2] }
  | _ => none }
def FnExactOrderForWrongFalsely : Prop := fnExactOrderForRow.holds Try.pinned (OpenSpec.ofChange fnExactOrderForWrong)

/-- 'laws.FnExactOrderCost': WHATEVER THE INPUT: true; the input reads as it did. -/
def fnExactOrderCostSpec : ChangeSpec := { name := "fnExactOrderCost", fn := fun _ => fun
  | [d1, d2, d3] => { results := [.lit (.bool true)], args := [d1, d2, d3] }
  | _ => none }
def fnExactOrderCostRow : OpenClaim := { program := "ythhfokjplhkdnaa", sum := "4c851bffd69eeb32d3888b7ffc298d5dc7d3563d5a00c4c2e93c8d6572277527", func := "loop.example/g00451/laws.FnExactOrderCost", spec := "fnExactOrderCost", apart := false }
def FnExactOrderCostSaid : Prop := fnExactOrderCostRow.holds Try.pinned (OpenSpec.ofChange fnExactOrderCostSpec)

/-- ITS FALSE NEIGHBOUR: 'it returns false'. Refute it at one input. -/
def fnExactOrderCostWrong : ChangeSpec := { name := "fnExactOrderCost", fn := fun _ => fun
  | [d1, d2, d3] => { results := [.lit (.bool false)], args := [d1, d2, d3] }
  | _ => none }
def FnExactOrderCostWrongFalsely : Prop := fnExactOrderCostRow.holds Try.pinned (OpenSpec.ofChange fnExactOrderCostWrong)

/-- 'laws.FnExactSwapGain': WHATEVER THE INPUT: true; the input reads as it did. -/
def fnExactSwapGainSpec : ChangeSpec := { name := "fnExactSwapGain", fn := fun _ => fun
  | [d1, d2, d3, d4, d5] => { results := [.lit (.bool true)], args := [d1, d2, d3, d4, d5] }
  | _ => none }
def fnExactSwapGainRow : OpenClaim := { program := "ythhfokjplhkdnaa", sum := "4c851bffd69eeb32d3888b7ffc298d5dc7d3563d5a00c4c2e93c8d6572277527", func := "loop.example/g00451/laws.FnExactSwapGain", spec := "fnExactSwapGain", apart := false }
def FnExactSwapGainSaid : Prop := fnExactSwapGainRow.holds Try.pinned (OpenSpec.ofChange fnExactSwapGainSpec)

/-- ITS FALSE NEIGHBOUR: 'it returns false'. Refute it at one input. -/
def fnExactSwapGainWrong : ChangeSpec := { name := "fnExactSwapGain", fn := fun _ => fun
  | [d1, d2, d3, d4, d5] => { results := [.lit (.bool false)], args := [d1, d2, d3, d4, d5] }
  | _ => none }
def FnExactSwapGainWrongFalsely : Prop := fnExactSwapGainRow.holds Try.pinned (OpenSpec.ofChange fnExactSwapGainWrong)

/-- 'laws.FnExactSmithOrder': WHATEVER THE INPUT: true; the input reads as it did. -/
def fnExactSmithOrderSpec : ChangeSpec := { name := "fnExactSmithOrder", fn := fun _ => fun
  | [d] => { results := [.lit (.bool true)], args := [d] }
  | _ => none }
def fnExactSmithOrderRow : OpenClaim := { program := "ythhfokjplhkdnaa", sum := "4c851bffd69eeb32d3888b7ffc298d5dc7d3563d5a00c4c2e93c8d6572277527", func := "loop.example/g00451/laws.FnExactSmithOrder", spec := "fnExactSmithOrder", unfollowed := true, recurses := true, apart := false }
def FnExactSmithOrderSaid : Prop := fnExactSmithOrderRow.holds Try.pinned (OpenSpec.ofChange fnExactSmithOrderSpec)

/-- ITS FALSE NEIGHBOUR: 'it returns false'. Refute it at one input. -/
def fnExactSmithOrderWrong : ChangeSpec := { name := "fnExactSmithOrder", fn := fun _ => fun
  | [d] => { results := [.lit (.bool false)], args := [d] }
  | _ => none }
def FnExactSmithOrderWrongFalsely : Prop := fnExactSmithOrderRow.holds Try.pinned (OpenSpec.ofChange fnExactSmithOrderWrong)

/-- 'laws.FnExactSmithCost': WHATEVER THE INPUT: true; the input reads as it did. -/
def fnExactSmithCostSpec : ChangeSpec := { name := "fnExactSmithCost", fn := fun _ => fun
  | [d1, d2] => { results := [.lit (.bool true)], args := [d1, d2] }
  | _ => none }
def fnExactSmithCostRow : OpenClaim := { program := "ythhfokjplhkdnaa", sum := "4c851bffd69eeb32d3888b7ffc298d5dc7d3563d5a00c4c2e93c8d6572277527", func := "loop.example/g00451/laws.FnExactSmithCost", spec := "fnExactSmithCost", apart := false }
def FnExactSmithCostSaid : Prop := fnExactSmithCostRow.holds Try.pinned (OpenSpec.ofChange fnExactSmithCostSpec)

/-- ITS FALSE NEIGHBOUR: 'it returns false'. Refute it at one input. -/
def fnExactSmithCostWrong : ChangeSpec := { name := "fnExactSmithCost", fn := fun _ => fun
  | [d1, d2] => { results := [.lit (.bool false)], args := [d1, d2] }
  | _ => none }
def FnExactSmithCostWrongFalsely : Prop := fnExactSmithCostRow.holds Try.pinned (OpenSpec.ofChange fnExactSmithCostWrong)

/- THE SECOND FORM. 'bulk': how many values and letters a reading holds, each counted each time it is reached (what is shared counts as often as it is met; a slice's spare places count too). A statement '..UptoSaid' is the law's where the arguments, and the package variables that the reading takes, are together of bulk at most 1048576: NARROWER than '..Said'. Prove '..Said' where nothing that the law and all that it calls make is longer than what came in: it says more and counts as full. Else prove '..UptoSaid'. A law counts once. -/
mutual
def uptoBulk {H : Type} : DataW H → Nat
  | .lit (.string bytes) => bytes.length + 1
  | .lit _ => 1
  | .nil => 1
  | .ptr d => uptoBulk d + 1
  | .slice elems spare => uptoBulkAll elems + uptoBulkAll spare + 1
  | .agg parts => uptoBulkAll parts + 1
  | .iface _ d => uptoBulk d + 1
  | .map entries => uptoBulkEntries entries + 1
  | .held _ => 1
def uptoBulkAll {H : Type} : List (DataW H) → Nat
  | [] => 0
  | d :: r => uptoBulk d + uptoBulkAll r
def uptoBulkEntries {H : Type} : List (Lit × DataW H) → Nat
  | [] => 0
  | x :: r => uptoBulkEntry x + uptoBulkEntries r
def uptoBulkEntry {H : Type} : Lit × DataW H → Nat
  | (.string bytes, d) => bytes.length + uptoBulk d + 1
  | (_, d) => uptoBulk d + 1
 end
def uptoSmall : (H : Type) → List (DataW H) → Bool := fun _ ds => decide (uptoBulkAll ds ≤ 1048576)
def OpenSpec.upto (s : _root_.Go.ChangeSpec) : _root_.Go.OpenSpec := { _root_.Go.OpenSpec.ofChange s with cond := some uptoSmall }

/-- 'laws.FnExactPairCost', WHERE WHAT IT READS IS OF BULK AT MOST 1048576: true; the input reads as it did. -/
def fnExactPairCostUptoRow : OpenClaim := { program := "ythhfokjplhkdnaa", sum := "4c851bffd69eeb32d3888b7ffc298d5dc7d3563d5a00c4c2e93c8d6572277527", func := "loop.example/g00451/laws.FnExactPairCost", spec := "fnExactPairCost", apart := false, narrowed := true }
def FnExactPairCostUptoSaid : Prop := fnExactPairCostUptoRow.holds Try.pinned (OpenSpec.upto fnExactPairCostSpec)

/-- 'laws.FnExactOrderFor', WHERE WHAT IT READS IS OF BULK AT MOST 1048576: true; the input reads as it did. -/
def fnExactOrderForUptoRow : OpenClaim := { program := "ythhfokjplhkdnaa", sum := "4c851bffd69eeb32d3888b7ffc298d5dc7d3563d5a00c4c2e93c8d6572277527", func := "loop.example/g00451/laws.FnExactOrderFor", spec := "fnExactOrderFor", unfollowed := true, recurses := true, apart := false, narrowed := true }
def FnExactOrderForUptoSaid : Prop := fnExactOrderForUptoRow.holds Try.pinned (OpenSpec.upto fnExactOrderForSpec)

/-- 'laws.FnExactOrderCost', WHERE WHAT IT READS IS OF BULK AT MOST 1048576: true; the input reads as it did. -/
def fnExactOrderCostUptoRow : OpenClaim := { program := "ythhfokjplhkdnaa", sum := "4c851bffd69eeb32d3888b7ffc298d5dc7d3563d5a00c4c2e93c8d6572277527", func := "loop.example/g00451/laws.FnExactOrderCost", spec := "fnExactOrderCost", apart := false, narrowed := true }
def FnExactOrderCostUptoSaid : Prop := fnExactOrderCostUptoRow.holds Try.pinned (OpenSpec.upto fnExactOrderCostSpec)

/-- 'laws.FnExactSwapGain', WHERE WHAT IT READS IS OF BULK AT MOST 1048576: true; the input reads as it did. -/
def fnExactSwapGainUptoRow : OpenClaim := { program := "ythhfokjplhkdnaa", sum := "4c851bffd69eeb32d3888b7ffc298d5dc7d3563d5a00c4c2e93c8d6572277527", func := "loop.example/g00451/laws.FnExactSwapGain", spec := "fnExactSwapGain", apart := false, narrowed := true }
def FnExactSwapGainUptoSaid : Prop := fnExactSwapGainUptoRow.holds Try.pinned (OpenSpec.upto fnExactSwapGainSpec)

/-- 'laws.FnExactSmithOrder', WHERE WHAT IT READS IS OF BULK AT MOST 1048576: true; the input reads as it did. -/
def fnExactSmithOrderUptoRow : OpenClaim := { program := "ythhfokjplhkdnaa", sum := "4c851bffd69eeb32d3888b7ffc298d5dc7d3563d5a00c4c2e93c8d6572277527", func := "loop.example/g00451/laws.FnExactSmithOrder", spec := "fnExactSmithOrder", unfollowed := true, recurses := true, apart := false, narrowed := true }
def FnExactSmithOrderUptoSaid : Prop := fnExactSmithOrderUptoRow.holds Try.pinned (OpenSpec.upto fnExactSmithOrderSpec)

/-- 'laws.FnExactSmithCost', WHERE WHAT IT READS IS OF BULK AT MOST 1048576: true; the input reads as it did. -/
def fnExactSmithCostUptoRow : OpenClaim := { program := "ythhfokjplhkdnaa", sum := "4c851bffd69eeb32d3888b7ffc298d5dc7d3563d5a00c4c2e93c8d6572277527", func := "loop.example/g00451/laws.FnExactSmithCost", spec := "fnExactSmithCost", apart := false, narrowed := true }
def FnExactSmithCostUptoSaid : Prop := fnExactSmithCostUptoRow.holds Try.pinned (OpenSpec.upto fnExactSmithCostSpec)

end Rows
end Go.Proofs.Ythhfokjplhkdnaa
