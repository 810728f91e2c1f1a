/-
  DERIVED. GIVEN WITH THE SEED: THE CARDS: each row of YtmmnajlncmnnhabDoorRows.lean that lists a variable, with what it lists TIED to the program's text (the seventh form; the later family's looks); each row that meets fmt, with fmt's text TOLD by the authors' own Lean function (tested against real Go, not proved from fmt's source: count such statements apart). THE CARD IS WHAT COUNTS. Prove the row's statement (the work); the ties are given (YtmmnajlncmnnhabDoorTie.lean); close each card by the builder's one call (the guide's Derived/Test/ToyasCard.lean, 'card_holds'). Laid BY PROGRAM, IN A SANDBOX (cutbox-door.mjs). By AI agents, Wed Nov 11 2026. No macro, syntax, notation, axiom, sorry.
-/
import Derived.Test.YtmmnajlncmnnhabDoorRows
import GoSem.ClaimSeven
namespace Go.Proofs.YtmmnajlncmnnhabDoor
namespace Rows

/-- THE TIED CARD OF 'laws.FnExactIsBelieved'. -/
def fnExactIsBelievedCard : Claim7 := { stood := { row := fnExactIsBelievedRow, standIns := [], harness := (true, "f57a1b9a7d18fdc40109bf62d33276e078164b69a10af4d6179dead594b1575b"), looks := true }, kinds := [], alts := [], laidByText := true, laidKinds := [.sentinel], laidTests := true, laidLooks := .later }
def FnExactIsBelievedCardSaid : Prop := Claim7.holds Tryd.pinned (.plain (OpenSpec.ofChange fnExactIsBelievedSpec)) fnExactIsBelievedCard

/-- THE SECOND FORM's CARD OF 'laws.FnExactIsBelieved'. -/
def fnExactIsBelievedUptoCard : Claim7 := { stood := { row := fnExactIsBelievedUptoRow, standIns := [], harness := (true, "f57a1b9a7d18fdc40109bf62d33276e078164b69a10af4d6179dead594b1575b"), looks := true }, kinds := [], alts := [], laidByText := true, laidKinds := [.sentinel], laidTests := true, laidLooks := .later }
def FnExactIsBelievedUptoCardSaid : Prop := Claim7.holds Tryd.pinned (.plain (OpenSpec.upto fnExactIsBelievedSpec)) fnExactIsBelievedUptoCard
end Rows
end Go.Proofs.YtmmnajlncmnnhabDoor
