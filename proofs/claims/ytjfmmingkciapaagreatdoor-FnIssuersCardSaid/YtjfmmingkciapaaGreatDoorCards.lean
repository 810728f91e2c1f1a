/-
  DERIVED. GIVEN WITH THE SEED: THE CARDS: each row of YtjfmmingkciapaaGreatDoorRows.lean that lists a variable, with what it lists TIED to the program's text (the seventh form; the later family's looks); each row that meets fmt, with fmt's text TOLD by the authors' own Lean function (tested against real Go, not proved from fmt's source: count such statements apart). THE CARD IS WHAT COUNTS. Prove the row's statement (the work); the ties are given (YtjfmmingkciapaaGreatDoorTie.lean); close each card by the builder's one call (the guide's Derived/Test/ToyasCard.lean, 'card_holds'). Laid BY PROGRAM, IN A SANDBOX (cutbox-door.mjs). By AI agents, Wed Nov 11 2026. No macro, syntax, notation, axiom, sorry.
-/
import Derived.Test.YtjfmmingkciapaaGreatDoorRows
import GoSem.ClaimSeven
namespace Go.Proofs.YtjfmmingkciapaaGreatDoor
namespace Rows

/-- THE TIED CARD OF 'laws.FnIssuers'. -/
def fnIssuersCard : Claim7 := { stood := { row := fnIssuersRow, standIns := [], harness := (true, "7d175811168abca5207d7067ed6444b3ed948c2d4a6fa09aacfa8a0072ee318e"), looks := true }, kinds := [], alts := [], laidByText := true, laidKinds := [.sentinel], laidTests := true, laidLooks := .later }
def FnIssuersCardSaid : Prop := Claim7.holds Tryz.pinned (.plain (OpenSpec.ofChange fnIssuersSpec)) fnIssuersCard

/-- THE TIED CARD OF 'laws.FnExactTakeStated'. -/
def fnExactTakeStatedCard : Claim7 := { stood := { row := fnExactTakeStatedRow, standIns := [], harness := (true, "7d175811168abca5207d7067ed6444b3ed948c2d4a6fa09aacfa8a0072ee318e"), looks := true }, kinds := [], alts := [], laidByText := true, laidKinds := [.sentinel], laidTests := true, laidLooks := .later }
def FnExactTakeStatedCardSaid : Prop := Claim7.holds Tryz.pinned (.plain (OpenSpec.ofChange fnExactTakeStatedSpec)) fnExactTakeStatedCard

/-- THE SECOND FORM's CARD OF 'laws.FnIssuers'. -/
def fnIssuersUptoCard : Claim7 := { stood := { row := fnIssuersUptoRow, standIns := [], harness := (true, "7d175811168abca5207d7067ed6444b3ed948c2d4a6fa09aacfa8a0072ee318e"), looks := true }, kinds := [], alts := [], laidByText := true, laidKinds := [.sentinel], laidTests := true, laidLooks := .later }
def FnIssuersUptoCardSaid : Prop := Claim7.holds Tryz.pinned (.plain (OpenSpec.upto fnIssuersSpec)) fnIssuersUptoCard

/-- THE SECOND FORM's CARD OF 'laws.FnExactTakeStated'. -/
def fnExactTakeStatedUptoCard : Claim7 := { stood := { row := fnExactTakeStatedUptoRow, standIns := [], harness := (true, "7d175811168abca5207d7067ed6444b3ed948c2d4a6fa09aacfa8a0072ee318e"), looks := true }, kinds := [], alts := [], laidByText := true, laidKinds := [.sentinel], laidTests := true, laidLooks := .later }
def FnExactTakeStatedUptoCardSaid : Prop := Claim7.holds Tryz.pinned (.plain (OpenSpec.upto fnExactTakeStatedSpec)) fnExactTakeStatedUptoCard
end Rows
end Go.Proofs.YtjfmmingkciapaaGreatDoor
