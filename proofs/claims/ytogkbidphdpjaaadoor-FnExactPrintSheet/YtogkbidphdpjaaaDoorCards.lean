/-
  DERIVED. GIVEN WITH THE SEED: THE CARDS: each row of YtogkbidphdpjaaaDoorRows.lean that lists a variable, with what it lists TIED to the program's text (the seventh form; the later family's looks); each row that meets fmt, with fmt's text TOLD by the authors' own Lean function (tested against real Go, not proved from fmt's source: count such statements apart). THE CARD IS WHAT COUNTS. Prove the row's statement (the work); the ties are given (YtogkbidphdpjaaaDoorTie.lean); close each card by the builder's one call (the guide's Derived/Test/ToyasCard.lean, 'card_holds'). Laid BY PROGRAM, IN A SANDBOX (cutbox-door.mjs). By AI agents, Wed Nov 11 2026. No macro, syntax, notation, axiom, sorry.
-/
import Derived.Test.YtogkbidphdpjaaaDoorRows
import GoSem.ClaimSeven
namespace Go.Proofs.YtogkbidphdpjaaaDoor
namespace Rows

/-- THE TIED CARD OF 'laws.FnExactPrintSheet'. -/
def fnExactPrintSheetCard : Claim7 := { stood := { row := fnExactPrintSheetRow, standIns := [], harness := (true, "b6a30b0c516b42a8c63120a5bb9ef0371b8258bf018c34ab90ebedc194075467"), looks := false }, kinds := [], alts := [], laidByText := true, laidKinds := [.data, .data, .data, .data], laidTests := true, laidLooks := .later }
def FnExactPrintSheetCardSaid : Prop := Claim7.holds Tryd.pinned (.plain (OpenSpec.ofChange fnExactPrintSheetSpec)) fnExactPrintSheetCard

/-- THE TIED CARD OF 'laws.FnExactParseSheet'. -/
def fnExactParseSheetCard : Claim7 := { stood := { row := fnExactParseSheetRow, standIns := [], harness := (true, "b6a30b0c516b42a8c63120a5bb9ef0371b8258bf018c34ab90ebedc194075467"), looks := false }, kinds := [], alts := [], laidByText := true, laidKinds := [.data, .data, .pinned], laidTests := true, laidLooks := .later }
def FnExactParseSheetCardSaid : Prop := Claim7.holds Tryd.pinned (.plain (OpenSpec.ofChange fnExactParseSheetSpec)) fnExactParseSheetCard

/-- THE SECOND FORM's CARD OF 'laws.FnExactPrintSheet'. -/
def fnExactPrintSheetUptoCard : Claim7 := { stood := { row := fnExactPrintSheetUptoRow, standIns := [], harness := (true, "b6a30b0c516b42a8c63120a5bb9ef0371b8258bf018c34ab90ebedc194075467"), looks := false }, kinds := [], alts := [], laidByText := true, laidKinds := [.data, .data, .data, .data], laidTests := true, laidLooks := .later }
def FnExactPrintSheetUptoCardSaid : Prop := Claim7.holds Tryd.pinned (.plain (OpenSpec.upto fnExactPrintSheetSpec)) fnExactPrintSheetUptoCard

/-- THE SECOND FORM's CARD OF 'laws.FnExactParseSheet'. -/
def fnExactParseSheetUptoCard : Claim7 := { stood := { row := fnExactParseSheetUptoRow, standIns := [], harness := (true, "b6a30b0c516b42a8c63120a5bb9ef0371b8258bf018c34ab90ebedc194075467"), looks := false }, kinds := [], alts := [], laidByText := true, laidKinds := [.data, .data, .pinned], laidTests := true, laidLooks := .later }
def FnExactParseSheetUptoCardSaid : Prop := Claim7.holds Tryd.pinned (.plain (OpenSpec.upto fnExactParseSheetSpec)) fnExactParseSheetUptoCard
end Rows
end Go.Proofs.YtogkbidphdpjaaaDoor
