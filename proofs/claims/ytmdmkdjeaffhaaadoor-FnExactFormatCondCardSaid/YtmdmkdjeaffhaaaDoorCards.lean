/-
  DERIVED. GIVEN WITH THE SEED: THE CARDS: each row of YtmdmkdjeaffhaaaDoorRows.lean that lists a variable, with what it lists TIED to the program's text (the seventh form; the later family's looks); each row that meets fmt, with fmt's text TOLD by the authors' own Lean function (tested against real Go, not proved from fmt's source: count such statements apart). THE CARD IS WHAT COUNTS. Prove the row's statement (the work); the ties are given (YtmdmkdjeaffhaaaDoorTie.lean); close each card by the builder's one call (the guide's Derived/Test/ToyasCard.lean, 'card_holds'). Laid BY PROGRAM, IN A SANDBOX (cutbox-door.mjs). By AI agents, Wed Nov 11 2026. No macro, syntax, notation, axiom, sorry.
-/
import Derived.Test.YtmdmkdjeaffhaaaDoorRows
import GoSem.ClaimSeven
namespace Go.Proofs.YtmdmkdjeaffhaaaDoor
namespace Rows

/-- THE TIED CARD OF 'laws.FnExactFormatCond'. -/
def fnExactFormatCondCard : Claim7 := { stood := { row := fnExactFormatCondRow, standIns := [], harness := (true, "259421c9a769a4cf5f84ead1e4835a480fe0f3798b9bc162f3b4b23f6ba29a55"), looks := true }, kinds := [], alts := [], laidByText := true, laidKinds := [.data, .data, .data], laidTests := true, laidLooks := .later }
def FnExactFormatCondCardSaid : Prop := Claim7.holds Tryd.pinned (.plain (OpenSpec.ofChange fnExactFormatCondSpec)) fnExactFormatCondCard

/-- THE TIED CARD OF 'laws.FnExactParseCond'. -/
def fnExactParseCondCard : Claim7 := { stood := { row := fnExactParseCondRow, standIns := [], harness := (true, "259421c9a769a4cf5f84ead1e4835a480fe0f3798b9bc162f3b4b23f6ba29a55"), looks := true }, kinds := [], alts := [], laidByText := true, laidKinds := [.data, .data, .data, .sentinel, .sentinel], laidTests := true, laidLooks := .later }
def FnExactParseCondCardSaid : Prop := Claim7.holds Tryd.pinned (.plain (OpenSpec.ofChange fnExactParseCondSpec)) fnExactParseCondCard

/-- THE SECOND FORM's CARD OF 'laws.FnExactFormatCond'. -/
def fnExactFormatCondUptoCard : Claim7 := { stood := { row := fnExactFormatCondUptoRow, standIns := [], harness := (true, "259421c9a769a4cf5f84ead1e4835a480fe0f3798b9bc162f3b4b23f6ba29a55"), looks := true }, kinds := [], alts := [], laidByText := true, laidKinds := [.data, .data, .data], laidTests := true, laidLooks := .later }
def FnExactFormatCondUptoCardSaid : Prop := Claim7.holds Tryd.pinned (.plain (OpenSpec.upto fnExactFormatCondSpec)) fnExactFormatCondUptoCard

/-- THE SECOND FORM's CARD OF 'laws.FnExactParseCond'. -/
def fnExactParseCondUptoCard : Claim7 := { stood := { row := fnExactParseCondUptoRow, standIns := [], harness := (true, "259421c9a769a4cf5f84ead1e4835a480fe0f3798b9bc162f3b4b23f6ba29a55"), looks := true }, kinds := [], alts := [], laidByText := true, laidKinds := [.data, .data, .data, .sentinel, .sentinel], laidTests := true, laidLooks := .later }
def FnExactParseCondUptoCardSaid : Prop := Claim7.holds Tryd.pinned (.plain (OpenSpec.upto fnExactParseCondSpec)) fnExactParseCondUptoCard
end Rows
end Go.Proofs.YtmdmkdjeaffhaaaDoor
