/-
  No cell of these rows narrows 'for every input' (looked for: loops, veiled, ifaces, maps, wideKeys, modest, calm, conditions, laid).
  DERIVED. THE GIVEN ROWS OF THIS SEAT. 6 by the template 'for every input the law returns true; each argument reads behind the call as it read before'; 0 by the template 'total and deterministic' (their statements: YticekgjgknfloaaTotals.lean).
  GIVEN WITH THE SEED: the statements are not yours to turn. If you find one false, say at which input.
  Laid BY PROGRAM, IN A SANDBOX (cutbox-rows.mjs): the forced cells as the released guide's own fill.sh prints them over the translation d44999f4726e2236… (all of the seat's roots in one cut). By AI agents, Wed Nov 11 2026. No macro, syntax, notation, axiom, sorry.
-/
import Derived.Test.YticekgjgknfloaaChecked
import GoSem.Claim
import GoSem.ClaimJoined
import GoSem.ClaimMapViews
import Derived.JoinedTies
import Derived.KernelRfl
namespace Go.Proofs.Yticekgjgknfloaa
/- THE CELL 'sum', in the pinned program and in every row, IS THE sha256 OF THE DUMP (.gsa) THAT YticekgjgknfloaaProg.lean LOADS. Nothing in Lean hashes anything: it is a label: what it is worth is what the hold of that sum in a sandbox is worth. -/
noncomputable def Try.pinned : Pinned := { name := "yticekgjgknfloaa", sum := "d44999f4726e2236ccec44e47ad6862af677f605cb8298f7fa804ac7dbedb2b2", checked := Try.checked }
namespace Rows
def none {H : Type} : Left H := { results := [], args := [] }

/-- 'laws.FnExactGoodTrade': WHATEVER THE INPUT: true; the input reads as it did. -/
def fnExactGoodTradeSpec : ChangeSpec := { name := "fnExactGoodTrade", fn := fun _ => fun
  | [d] => { results := [.lit (.bool true)], args := [d] }
  | _ => none }
def fnExactGoodTradeRow : OpenClaim := { program := "yticekgjgknfloaa", sum := "d44999f4726e2236ccec44e47ad6862af677f605cb8298f7fa804ac7dbedb2b2", func := "loop.example/g00451/laws.FnExactGoodTrade", spec := "fnExactGoodTrade", apart := false }
def FnExactGoodTradeSaid : Prop := fnExactGoodTradeRow.holds Try.pinned (OpenSpec.ofChange fnExactGoodTradeSpec)

/-- ITS FALSE NEIGHBOUR: 'it returns false'. Refute it at one input. -/
def fnExactGoodTradeWrong : ChangeSpec := { name := "fnExactGoodTrade", fn := fun _ => fun
  | [d] => { results := [.lit (.bool false)], args := [d] }
  | _ => none }
def FnExactGoodTradeWrongFalsely : Prop := fnExactGoodTradeRow.holds Try.pinned (OpenSpec.ofChange fnExactGoodTradeWrong)

/-- 'laws.FnExactLotCost': WHATEVER THE INPUT: true; the input reads as it did. -/
def fnExactLotCostSpec : ChangeSpec := { name := "fnExactLotCost", fn := fun _ => fun
  | [d1, d2] => { results := [.lit (.bool true)], args := [d1, d2] }
  | _ => none }
def fnExactLotCostRow : OpenClaim := { program := "yticekgjgknfloaa", sum := "d44999f4726e2236ccec44e47ad6862af677f605cb8298f7fa804ac7dbedb2b2", func := "loop.example/g00451/laws.FnExactLotCost", spec := "fnExactLotCost", unfollowed := true, recurses := true, apart := false }
def FnExactLotCostSaid : Prop := fnExactLotCostRow.holds Try.pinned (OpenSpec.ofChange fnExactLotCostSpec)

/-- ITS FALSE NEIGHBOUR: 'it returns false'. Refute it at one input. -/
def fnExactLotCostWrong : ChangeSpec := { name := "fnExactLotCost", fn := fun _ => fun
  | [d1, d2] => { results := [.lit (.bool false)], args := [d1, d2] }
  | _ => none }
def FnExactLotCostWrongFalsely : Prop := fnExactLotCostRow.holds Try.pinned (OpenSpec.ofChange fnExactLotCostWrong)

/-- 'laws.FnExactBestLots': WHATEVER THE INPUT: true; the input reads as it did. -/
def fnExactBestLotsSpec : ChangeSpec := { name := "fnExactBestLots", fn := fun _ => fun
  | [d] => { results := [.lit (.bool true)], args := [d] }
  | _ => none }
def fnExactBestLotsRow : OpenClaim := { program := "yticekgjgknfloaa", sum := "d44999f4726e2236ccec44e47ad6862af677f605cb8298f7fa804ac7dbedb2b2", func := "loop.example/g00451/laws.FnExactBestLots", spec := "fnExactBestLots", inPlace := ["slices.overlaps[int]"], unfollowed := true, recurses := true, apart := false }
def FnExactBestLotsSaid : Prop := fnExactBestLotsRow.holds Try.pinned (OpenSpec.ofChange fnExactBestLotsSpec)

/-- ITS FALSE NEIGHBOUR: 'it returns false'. Refute it at one input. -/
def fnExactBestLotsWrong : ChangeSpec := { name := "fnExactBestLots", fn := fun _ => fun
  | [d] => { results := [.lit (.bool false)], args := [d] }
  | _ => none }
def FnExactBestLotsWrongFalsely : Prop := fnExactBestLotsRow.holds Try.pinned (OpenSpec.ofChange fnExactBestLotsWrong)

/-- 'laws.FnExactIsLean': WHATEVER THE INPUT: true; the input reads as it did. -/
def fnExactIsLeanSpec : ChangeSpec := { name := "fnExactIsLean", fn := fun _ => fun
  | [d1, d2] => { results := [.lit (.bool true)], args := [d1, d2] }
  | _ => none }
def fnExactIsLeanRow : OpenClaim := { program := "yticekgjgknfloaa", sum := "d44999f4726e2236ccec44e47ad6862af677f605cb8298f7fa804ac7dbedb2b2", func := "loop.example/g00451/laws.FnExactIsLean", spec := "fnExactIsLean", apart := false }
def FnExactIsLeanSaid : Prop := fnExactIsLeanRow.holds Try.pinned (OpenSpec.ofChange fnExactIsLeanSpec)

/-- ITS FALSE NEIGHBOUR: 'it returns false'. Refute it at one input. -/
def fnExactIsLeanWrong : ChangeSpec := { name := "fnExactIsLean", fn := fun _ => fun
  | [d1, d2] => { results := [.lit (.bool false)], args := [d1, d2] }
  | _ => none }
def FnExactIsLeanWrongFalsely : Prop := fnExactIsLeanRow.holds Try.pinned (OpenSpec.ofChange fnExactIsLeanWrong)

/-- 'laws.FnExactLotsFor': WHATEVER THE INPUT: true; the input reads as it did. -/
def fnExactLotsForSpec : ChangeSpec := { name := "fnExactLotsFor", fn := fun _ => fun
  | [d1, d2] => { results := [.lit (.bool true)], args := [d1, d2] }
  | _ => none }
def fnExactLotsForRow : OpenClaim := { program := "yticekgjgknfloaa", sum := "d44999f4726e2236ccec44e47ad6862af677f605cb8298f7fa804ac7dbedb2b2", func := "loop.example/g00451/laws.FnExactLotsFor", spec := "fnExactLotsFor", apart := false }
def FnExactLotsForSaid : Prop := fnExactLotsForRow.holds Try.pinned (OpenSpec.ofChange fnExactLotsForSpec)

/-- ITS FALSE NEIGHBOUR: 'it returns false'. Refute it at one input. -/
def fnExactLotsForWrong : ChangeSpec := { name := "fnExactLotsFor", fn := fun _ => fun
  | [d1, d2] => { results := [.lit (.bool false)], args := [d1, d2] }
  | _ => none }
def FnExactLotsForWrongFalsely : Prop := fnExactLotsForRow.holds Try.pinned (OpenSpec.ofChange fnExactLotsForWrong)

/-- 'laws.FnExactEachDay': WHATEVER THE INPUT: true; the input reads as it did. -/
def fnExactEachDaySpec : ChangeSpec := { name := "fnExactEachDay", fn := fun _ => fun
  | [d] => { results := [.lit (.bool true)], args := [d] }
  | _ => none }
def fnExactEachDayRow : OpenClaim := { program := "yticekgjgknfloaa", sum := "d44999f4726e2236ccec44e47ad6862af677f605cb8298f7fa804ac7dbedb2b2", func := "loop.example/g00451/laws.FnExactEachDay", spec := "fnExactEachDay", apart := false }
def FnExactEachDaySaid : Prop := fnExactEachDayRow.holds Try.pinned (OpenSpec.ofChange fnExactEachDaySpec)

/-- ITS FALSE NEIGHBOUR: 'it returns false'. Refute it at one input. -/
def fnExactEachDayWrong : ChangeSpec := { name := "fnExactEachDay", fn := fun _ => fun
  | [d] => { results := [.lit (.bool false)], args := [d] }
  | _ => none }
def FnExactEachDayWrongFalsely : Prop := fnExactEachDayRow.holds Try.pinned (OpenSpec.ofChange fnExactEachDayWrong)

/- THE SECOND FORM. 'bulk': how many values and letters a reading holds, each counted each time it is reached (what is shared counts as often as it is met; a slice's spare places count too). A statement '..UptoSaid' is the law's where the arguments, and the package variables that the reading takes, are together of bulk at most 1048576: NARROWER than '..Said'. Prove '..Said' where nothing that the law and all that it calls make is longer than what came in: it says more and counts as full. Else prove '..UptoSaid'. A law counts once. -/
mutual
def uptoBulk {H : Type} : DataW H → Nat
  | .lit (.string bytes) => bytes.length + 1
  | .lit _ => 1
  | .nil => 1
  | .ptr d => uptoBulk d + 1
  | .slice elems spare => uptoBulkAll elems + uptoBulkAll spare + 1
  | .agg parts => uptoBulkAll parts + 1
  | .iface _ d => uptoBulk d + 1
  | .map entries => uptoBulkEntries entries + 1
  | .held _ => 1
def uptoBulkAll {H : Type} : List (DataW H) → Nat
  | [] => 0
  | d :: r => uptoBulk d + uptoBulkAll r
def uptoBulkEntries {H : Type} : List (Lit × DataW H) → Nat
  | [] => 0
  | x :: r => uptoBulkEntry x + uptoBulkEntries r
def uptoBulkEntry {H : Type} : Lit × DataW H → Nat
  | (.string bytes, d) => bytes.length + uptoBulk d + 1
  | (_, d) => uptoBulk d + 1
 end
def uptoSmall : (H : Type) → List (DataW H) → Bool := fun _ ds => decide (uptoBulkAll ds ≤ 1048576)
def OpenSpec.upto (s : _root_.Go.ChangeSpec) : _root_.Go.OpenSpec := { _root_.Go.OpenSpec.ofChange s with cond := some uptoSmall }

/-- 'laws.FnExactGoodTrade', WHERE WHAT IT READS IS OF BULK AT MOST 1048576: true; the input reads as it did. -/
def fnExactGoodTradeUptoRow : OpenClaim := { program := "yticekgjgknfloaa", sum := "d44999f4726e2236ccec44e47ad6862af677f605cb8298f7fa804ac7dbedb2b2", func := "loop.example/g00451/laws.FnExactGoodTrade", spec := "fnExactGoodTrade", apart := false, narrowed := true }
def FnExactGoodTradeUptoSaid : Prop := fnExactGoodTradeUptoRow.holds Try.pinned (OpenSpec.upto fnExactGoodTradeSpec)

/-- 'laws.FnExactLotCost', WHERE WHAT IT READS IS OF BULK AT MOST 1048576: true; the input reads as it did. -/
def fnExactLotCostUptoRow : OpenClaim := { program := "yticekgjgknfloaa", sum := "d44999f4726e2236ccec44e47ad6862af677f605cb8298f7fa804ac7dbedb2b2", func := "loop.example/g00451/laws.FnExactLotCost", spec := "fnExactLotCost", unfollowed := true, recurses := true, apart := false, narrowed := true }
def FnExactLotCostUptoSaid : Prop := fnExactLotCostUptoRow.holds Try.pinned (OpenSpec.upto fnExactLotCostSpec)

/-- 'laws.FnExactBestLots', WHERE WHAT IT READS IS OF BULK AT MOST 1048576: true; the input reads as it did. -/
def fnExactBestLotsUptoRow : OpenClaim := { program := "yticekgjgknfloaa", sum := "d44999f4726e2236ccec44e47ad6862af677f605cb8298f7fa804ac7dbedb2b2", func := "loop.example/g00451/laws.FnExactBestLots", spec := "fnExactBestLots", inPlace := ["slices.overlaps[int]"], unfollowed := true, recurses := true, apart := false, narrowed := true }
def FnExactBestLotsUptoSaid : Prop := fnExactBestLotsUptoRow.holds Try.pinned (OpenSpec.upto fnExactBestLotsSpec)

/-- 'laws.FnExactIsLean', WHERE WHAT IT READS IS OF BULK AT MOST 1048576: true; the input reads as it did. -/
def fnExactIsLeanUptoRow : OpenClaim := { program := "yticekgjgknfloaa", sum := "d44999f4726e2236ccec44e47ad6862af677f605cb8298f7fa804ac7dbedb2b2", func := "loop.example/g00451/laws.FnExactIsLean", spec := "fnExactIsLean", apart := false, narrowed := true }
def FnExactIsLeanUptoSaid : Prop := fnExactIsLeanUptoRow.holds Try.pinned (OpenSpec.upto fnExactIsLeanSpec)

/-- 'laws.FnExactLotsFor', WHERE WHAT IT READS IS OF BULK AT MOST 1048576: true; the input reads as it did. -/
def fnExactLotsForUptoRow : OpenClaim := { program := "yticekgjgknfloaa", sum := "d44999f4726e2236ccec44e47ad6862af677f605cb8298f7fa804ac7dbedb2b2", func := "loop.example/g00451/laws.FnExactLotsFor", spec := "fnExactLotsFor", apart := false, narrowed := true }
def FnExactLotsForUptoSaid : Prop := fnExactLotsForUptoRow.holds Try.pinned (OpenSpec.upto fnExactLotsForSpec)

/-- 'laws.FnExactEachDay', WHERE WHAT IT READS IS OF BULK AT MOST 1048576: true; the input reads as it did. -/
def fnExactEachDayUptoRow : OpenClaim := { program := "yticekgjgknfloaa", sum := "d44999f4726e2236ccec44e47ad6862af677f605cb8298f7fa804ac7dbedb2b2", func := "loop.example/g00451/laws.FnExactEachDay", spec := "fnExactEachDay", apart := false, narrowed := true }
def FnExactEachDayUptoSaid : Prop := fnExactEachDayUptoRow.holds Try.pinned (OpenSpec.upto fnExactEachDaySpec)

end Rows
end Go.Proofs.Yticekgjgknfloaa
