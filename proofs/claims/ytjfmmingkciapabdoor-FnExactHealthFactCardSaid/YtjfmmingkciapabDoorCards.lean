/-
  DERIVED. GIVEN WITH THE SEED: THE CARDS: each row of YtjfmmingkciapabDoorRows.lean that lists a variable, with what it lists TIED to the program's text (the seventh form; the later family's looks); each row that meets fmt, with fmt's text TOLD by the authors' own Lean function (tested against real Go, not proved from fmt's source: count such statements apart). THE CARD IS WHAT COUNTS. Prove the row's statement (the work); the ties are given (YtjfmmingkciapabDoorTie.lean); close each card by the builder's one call (the guide's Derived/Test/ToyasCard.lean, 'card_holds'). Laid BY PROGRAM, IN A SANDBOX (cutbox-door.mjs). By AI agents, Wed Nov 11 2026. No macro, syntax, notation, axiom, sorry.
-/
import Derived.Test.YtjfmmingkciapabDoorRows
import GoSem.ClaimSeven
namespace Go.Proofs.YtjfmmingkciapabDoor
namespace Rows

/-- THE TIED CARD OF 'laws.FnExactHealthFact'. -/
def fnExactHealthFactCard : Claim7 := { stood := { row := fnExactHealthFactRow, standIns := [], harness := (true, "fb5168798e8fcc0619c65b7025fe582c1a060254a7d2b2b4cf18a6dc0924b454"), looks := true }, kinds := [], alts := [], laidByText := true, laidKinds := [.sentinel], laidTests := true, laidLooks := .later }
def FnExactHealthFactCardSaid : Prop := Claim7.holds Tryd.pinned (.plain (OpenSpec.ofChange fnExactHealthFactSpec)) fnExactHealthFactCard

/-- THE SECOND FORM's CARD OF 'laws.FnExactHealthFact'. -/
def fnExactHealthFactUptoCard : Claim7 := { stood := { row := fnExactHealthFactUptoRow, standIns := [], harness := (true, "fb5168798e8fcc0619c65b7025fe582c1a060254a7d2b2b4cf18a6dc0924b454"), looks := true }, kinds := [], alts := [], laidByText := true, laidKinds := [.sentinel], laidTests := true, laidLooks := .later }
def FnExactHealthFactUptoCardSaid : Prop := Claim7.holds Tryd.pinned (.plain (OpenSpec.upto fnExactHealthFactSpec)) fnExactHealthFactUptoCard
end Rows
end Go.Proofs.YtjfmmingkciapabDoor
