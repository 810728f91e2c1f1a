/-
  DERIVED. GIVEN WITH THE SEED: THE CARDS: each row of YtmmnajlncmnnhaaDoorRows.lean that lists a variable, with what it lists TIED to the program's text (the seventh form; the later family's looks); each row that meets fmt, with fmt's text TOLD by the authors' own Lean function (tested against real Go, not proved from fmt's source: count such statements apart). THE CARD IS WHAT COUNTS. Prove the row's statement (the work); the ties are given (YtmmnajlncmnnhaaDoorTie.lean); close each card by the builder's one call (the guide's Derived/Test/ToyasCard.lean, 'card_holds'). Laid BY PROGRAM, IN A SANDBOX (cutbox-door.mjs). By AI agents, Wed Nov 11 2026. No macro, syntax, notation, axiom, sorry.
-/
import Derived.Test.YtmmnajlncmnnhaaDoorRows
import GoSem.ClaimSeven
namespace Go.Proofs.YtmmnajlncmnnhaaDoor
namespace Rows

/-- THE TIED CARD OF 'laws.FnExactIsIssuer'. -/
def fnExactIsIssuerCard : Claim7 := { stood := { row := fnExactIsIssuerRow, standIns := [], harness := (true, "5a82186890b370a9f0c26035932f7b1e91190b5433af8d458c40d2e62fbc62ec"), looks := true }, kinds := [], alts := [], laidByText := true, laidKinds := [.sentinel], laidTests := true, laidLooks := .later }
def FnExactIsIssuerCardSaid : Prop := Claim7.holds Tryd.pinned (.plain (OpenSpec.ofChange fnExactIsIssuerSpec)) fnExactIsIssuerCard

/-- THE TIED CARD OF 'laws.FnExactAreIssuers'. -/
def fnExactAreIssuersCard : Claim7 := { stood := { row := fnExactAreIssuersRow, standIns := [], harness := (true, "5a82186890b370a9f0c26035932f7b1e91190b5433af8d458c40d2e62fbc62ec"), looks := true }, kinds := [], alts := [], laidByText := true, laidKinds := [.sentinel], laidTests := true, laidLooks := .later }
def FnExactAreIssuersCardSaid : Prop := Claim7.holds Tryd.pinned (.plain (OpenSpec.ofChange fnExactAreIssuersSpec)) fnExactAreIssuersCard

/-- THE TIED CARD OF 'laws.FnExactStateFact'. -/
def fnExactStateFactCard : Claim7 := { stood := { row := fnExactStateFactRow, standIns := [], harness := (true, "5a82186890b370a9f0c26035932f7b1e91190b5433af8d458c40d2e62fbc62ec"), looks := true }, kinds := [], alts := [], laidByText := true, laidKinds := [.sentinel], laidTests := true, laidLooks := .later }
def FnExactStateFactCardSaid : Prop := Claim7.holds Tryd.pinned (.plain (OpenSpec.ofChange fnExactStateFactSpec)) fnExactStateFactCard

/-- THE SECOND FORM's CARD OF 'laws.FnExactIsIssuer'. -/
def fnExactIsIssuerUptoCard : Claim7 := { stood := { row := fnExactIsIssuerUptoRow, standIns := [], harness := (true, "5a82186890b370a9f0c26035932f7b1e91190b5433af8d458c40d2e62fbc62ec"), looks := true }, kinds := [], alts := [], laidByText := true, laidKinds := [.sentinel], laidTests := true, laidLooks := .later }
def FnExactIsIssuerUptoCardSaid : Prop := Claim7.holds Tryd.pinned (.plain (OpenSpec.upto fnExactIsIssuerSpec)) fnExactIsIssuerUptoCard

/-- THE SECOND FORM's CARD OF 'laws.FnExactAreIssuers'. -/
def fnExactAreIssuersUptoCard : Claim7 := { stood := { row := fnExactAreIssuersUptoRow, standIns := [], harness := (true, "5a82186890b370a9f0c26035932f7b1e91190b5433af8d458c40d2e62fbc62ec"), looks := true }, kinds := [], alts := [], laidByText := true, laidKinds := [.sentinel], laidTests := true, laidLooks := .later }
def FnExactAreIssuersUptoCardSaid : Prop := Claim7.holds Tryd.pinned (.plain (OpenSpec.upto fnExactAreIssuersSpec)) fnExactAreIssuersUptoCard

/-- THE SECOND FORM's CARD OF 'laws.FnExactStateFact'. -/
def fnExactStateFactUptoCard : Claim7 := { stood := { row := fnExactStateFactUptoRow, standIns := [], harness := (true, "5a82186890b370a9f0c26035932f7b1e91190b5433af8d458c40d2e62fbc62ec"), looks := true }, kinds := [], alts := [], laidByText := true, laidKinds := [.sentinel], laidTests := true, laidLooks := .later }
def FnExactStateFactUptoCardSaid : Prop := Claim7.holds Tryd.pinned (.plain (OpenSpec.upto fnExactStateFactSpec)) fnExactStateFactUptoCard
end Rows
end Go.Proofs.YtmmnajlncmnnhaaDoor
