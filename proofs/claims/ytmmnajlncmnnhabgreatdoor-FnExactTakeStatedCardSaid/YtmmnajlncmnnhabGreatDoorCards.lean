/-
  DERIVED. GIVEN WITH THE SEED: THE CARDS: each row of YtmmnajlncmnnhabGreatDoorRows.lean that lists a variable, with what it lists TIED to the program's text (the seventh form; the later family's looks); each row that meets fmt, with fmt's text TOLD by the authors' own Lean function (tested against real Go, not proved from fmt's source: count such statements apart). THE CARD IS WHAT COUNTS. Prove the row's statement (the work); the ties are given (YtmmnajlncmnnhabGreatDoorTie.lean); close each card by the builder's one call (the guide's Derived/Test/ToyasCard.lean, 'card_holds'). Laid BY PROGRAM, IN A SANDBOX (cutbox-door.mjs). By AI agents, Wed Nov 11 2026. No macro, syntax, notation, axiom, sorry.
-/
import Derived.Test.YtmmnajlncmnnhabGreatDoorRows
import GoSem.ClaimSeven
namespace Go.Proofs.YtmmnajlncmnnhabGreatDoor
namespace Rows

/-- THE TIED CARD OF 'laws.FnExactTakeStated'. -/
def fnExactTakeStatedCard : Claim7 := { stood := { row := fnExactTakeStatedRow, standIns := [], harness := (true, "f29cedb46c7552e05ec45ba90d3b23d87ffb2107b835b43e13ea678dbd425150"), looks := true }, kinds := [], alts := [], laidByText := true, laidKinds := [.sentinel], laidTests := true, laidLooks := .later }
def FnExactTakeStatedCardSaid : Prop := Claim7.holds Tryz.pinned (.plain (OpenSpec.ofChange fnExactTakeStatedSpec)) fnExactTakeStatedCard

/-- THE SECOND FORM's CARD OF 'laws.FnExactTakeStated'. -/
def fnExactTakeStatedUptoCard : Claim7 := { stood := { row := fnExactTakeStatedUptoRow, standIns := [], harness := (true, "f29cedb46c7552e05ec45ba90d3b23d87ffb2107b835b43e13ea678dbd425150"), looks := true }, kinds := [], alts := [], laidByText := true, laidKinds := [.sentinel], laidTests := true, laidLooks := .later }
def FnExactTakeStatedUptoCardSaid : Prop := Claim7.holds Tryz.pinned (.plain (OpenSpec.upto fnExactTakeStatedSpec)) fnExactTakeStatedUptoCard
end Rows
end Go.Proofs.YtmmnajlncmnnhabGreatDoor
