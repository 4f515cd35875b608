/-
  DERIVED. GIVEN WITH THE SEED: THE CARDS: each row of YtdmdhmcnedmnbaaDoorRows.lean that lists a variable, with what it lists TIED to the program's text (the seventh form; the later family's looks); each row that meets fmt, with fmt's text TOLD by the authors' own Lean function (tested against real Go, not proved from fmt's source: count such statements apart). THE CARD IS WHAT COUNTS. Prove the row's statement (the work); the ties are given (YtdmdhmcnedmnbaaDoorTie.lean); close each card by the builder's one call (the guide's Derived/Test/ToyasCard.lean, 'card_holds'). Laid BY PROGRAM, IN A SANDBOX (cutbox-door.mjs). By AI agents, Wed Nov 11 2026. No macro, syntax, notation, axiom, sorry.
-/
import Derived.Test.YtdmdhmcnedmnbaaDoorRows
import GoSem.ClaimSeven
namespace Go.Proofs.YtdmdhmcnedmnbaaDoor
namespace Rows

/-- THE TIED CARD OF 'laws.FnFracs'. -/
def fnFracsCard : Claim7 := { stood := { row := fnFracsRow, standIns := [], harness := (true, "9110f611b71097a43af9231c8786ac1962c58115ca8f6d850edac62736a8c90e"), looks := false }, kinds := [], alts := [], laidByText := true, laidKinds := [.data, .data, .data], laidTests := true, laidLooks := .later }
def FnFracsCardSaid : Prop := Claim7.holds Tryd.pinned (.plain (OpenSpec.ofChange fnFracsSpec)) fnFracsCard

/-- THE SECOND FORM's CARD OF 'laws.FnFracs'. -/
def fnFracsUptoCard : Claim7 := { stood := { row := fnFracsUptoRow, standIns := [], harness := (true, "9110f611b71097a43af9231c8786ac1962c58115ca8f6d850edac62736a8c90e"), looks := false }, kinds := [], alts := [], laidByText := true, laidKinds := [.data, .data, .data], laidTests := true, laidLooks := .later }
def FnFracsUptoCardSaid : Prop := Claim7.holds Tryd.pinned (.plain (OpenSpec.upto fnFracsSpec)) fnFracsUptoCard
end Rows
end Go.Proofs.YtdmdhmcnedmnbaaDoor
