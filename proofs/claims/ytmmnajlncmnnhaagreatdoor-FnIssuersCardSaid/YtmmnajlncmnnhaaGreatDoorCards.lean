/-
  DERIVED. GIVEN WITH THE SEED: THE CARDS: each row of YtmmnajlncmnnhaaGreatDoorRows.lean that lists a variable, with what it lists TIED to the program's text (the seventh form; the later family's looks); each row that meets fmt, with fmt's text TOLD by the authors' own Lean function (tested against real Go, not proved from fmt's source: count such statements apart). THE CARD IS WHAT COUNTS. Prove the row's statement (the work); the ties are given (YtmmnajlncmnnhaaGreatDoorTie.lean); close each card by the builder's one call (the guide's Derived/Test/ToyasCard.lean, 'card_holds'). Laid BY PROGRAM, IN A SANDBOX (cutbox-door.mjs). By AI agents, Wed Nov 11 2026. No macro, syntax, notation, axiom, sorry.
-/
import Derived.Test.YtmmnajlncmnnhaaGreatDoorRows
import GoSem.ClaimSeven
namespace Go.Proofs.YtmmnajlncmnnhaaGreatDoor
namespace Rows

/-- THE TIED CARD OF 'laws.FnIssuers'. -/
def fnIssuersCard : Claim7 := { stood := { row := fnIssuersRow, standIns := [], harness := (true, "b905aac7c89c91d1825b4a5075220d82c2374e12c66059d8caa9e8796de9a1e1"), looks := true }, kinds := [], alts := [], laidByText := true, laidKinds := [.sentinel], laidTests := true, laidLooks := .later }
def FnIssuersCardSaid : Prop := Claim7.holds Tryz.pinned (.plain (OpenSpec.ofChange fnIssuersSpec)) fnIssuersCard

/-- THE SECOND FORM's CARD OF 'laws.FnIssuers'. -/
def fnIssuersUptoCard : Claim7 := { stood := { row := fnIssuersUptoRow, standIns := [], harness := (true, "b905aac7c89c91d1825b4a5075220d82c2374e12c66059d8caa9e8796de9a1e1"), looks := true }, kinds := [], alts := [], laidByText := true, laidKinds := [.sentinel], laidTests := true, laidLooks := .later }
def FnIssuersUptoCardSaid : Prop := Claim7.holds Tryz.pinned (.plain (OpenSpec.upto fnIssuersSpec)) fnIssuersUptoCard
end Rows
end Go.Proofs.YtmmnajlncmnnhaaGreatDoor
