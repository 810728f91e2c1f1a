/-
  DERIVED. GIVEN WITH THE SEED: THE CARDS: each row of YtagbbndiofimdaaDoorRows.lean that lists a variable, with what it lists TIED to the program's text (the seventh form; the later family's looks); each row that meets fmt, with fmt's text TOLD by the authors' own Lean function (tested against real Go, not proved from fmt's source: count such statements apart). THE CARD IS WHAT COUNTS. Prove the row's statement (the work); the ties are given (YtagbbndiofimdaaDoorTie.lean); close each card by the builder's one call (the guide's Derived/Test/ToyasCard.lean, 'card_holds'). Laid BY PROGRAM, IN A SANDBOX (cutbox-door.mjs). By AI agents, Wed Nov 11 2026. No macro, syntax, notation, axiom, sorry.
-/
import Derived.Test.YtagbbndiofimdaaDoorRows
import GoSem.ClaimSeven
namespace Go.Proofs.YtagbbndiofimdaaDoor
namespace Rows

/-- THE TIED CARD OF 'laws.FnMeasurements'. -/
def fnMeasurementsCard : Claim7 := { stood := { row := fnMeasurementsRow, standIns := [], harness := (true, "27fc11213c54d3872fda49a361c1fe5e13dc9c41d9968bb8e7bb400241068373"), looks := true }, kinds := [], alts := [], laidByText := true, laidKinds := [.sentinel], laidTests := true, laidLooks := .later }
def FnMeasurementsCardSaid : Prop := Claim7.holds Tryd.pinned (.plain (OpenSpec.ofChange fnMeasurementsSpec)) fnMeasurementsCard

/-- THE TIED CARD OF 'laws.FnExactMakeQuote'. -/
def fnExactMakeQuoteCard : Claim7 := { stood := { row := fnExactMakeQuoteRow, standIns := [], harness := (true, "27fc11213c54d3872fda49a361c1fe5e13dc9c41d9968bb8e7bb400241068373"), looks := true }, kinds := [], alts := [], laidByText := true, laidKinds := [.sentinel], laidTests := true, laidLooks := .later }
def FnExactMakeQuoteCardSaid : Prop := Claim7.holds Tryd.pinned (.plain (OpenSpec.ofChange fnExactMakeQuoteSpec)) fnExactMakeQuoteCard

/-- THE TIED CARD OF 'laws.FnExactCheckQuote'. -/
def fnExactCheckQuoteCard : Claim7 := { stood := { row := fnExactCheckQuoteRow, standIns := [], harness := (true, "27fc11213c54d3872fda49a361c1fe5e13dc9c41d9968bb8e7bb400241068373"), looks := true }, kinds := [], alts := [], laidByText := true, laidKinds := [.sentinel], laidTests := true, laidLooks := .later }
def FnExactCheckQuoteCardSaid : Prop := Claim7.holds Tryd.pinned (.plain (OpenSpec.ofChange fnExactCheckQuoteSpec)) fnExactCheckQuoteCard

/-- THE SECOND FORM's CARD OF 'laws.FnMeasurements'. -/
def fnMeasurementsUptoCard : Claim7 := { stood := { row := fnMeasurementsUptoRow, standIns := [], harness := (true, "27fc11213c54d3872fda49a361c1fe5e13dc9c41d9968bb8e7bb400241068373"), looks := true }, kinds := [], alts := [], laidByText := true, laidKinds := [.sentinel], laidTests := true, laidLooks := .later }
def FnMeasurementsUptoCardSaid : Prop := Claim7.holds Tryd.pinned (.plain (OpenSpec.upto fnMeasurementsSpec)) fnMeasurementsUptoCard

/-- THE SECOND FORM's CARD OF 'laws.FnExactMakeQuote'. -/
def fnExactMakeQuoteUptoCard : Claim7 := { stood := { row := fnExactMakeQuoteUptoRow, standIns := [], harness := (true, "27fc11213c54d3872fda49a361c1fe5e13dc9c41d9968bb8e7bb400241068373"), looks := true }, kinds := [], alts := [], laidByText := true, laidKinds := [.sentinel], laidTests := true, laidLooks := .later }
def FnExactMakeQuoteUptoCardSaid : Prop := Claim7.holds Tryd.pinned (.plain (OpenSpec.upto fnExactMakeQuoteSpec)) fnExactMakeQuoteUptoCard

/-- THE SECOND FORM's CARD OF 'laws.FnExactCheckQuote'. -/
def fnExactCheckQuoteUptoCard : Claim7 := { stood := { row := fnExactCheckQuoteUptoRow, standIns := [], harness := (true, "27fc11213c54d3872fda49a361c1fe5e13dc9c41d9968bb8e7bb400241068373"), looks := true }, kinds := [], alts := [], laidByText := true, laidKinds := [.sentinel], laidTests := true, laidLooks := .later }
def FnExactCheckQuoteUptoCardSaid : Prop := Claim7.holds Tryd.pinned (.plain (OpenSpec.upto fnExactCheckQuoteSpec)) fnExactCheckQuoteUptoCard
end Rows
end Go.Proofs.YtagbbndiofimdaaDoor
