/-
  DERIVED. GIVEN WITH THE SEED: THE CARDS: each row of YtjfmmingkciapaaDoorRows.lean that lists a variable, with what it lists TIED to the program's text (the seventh form; the later family's looks); each row that meets fmt, with fmt's text TOLD by the authors' own Lean function (tested against real Go, not proved from fmt's source: count such statements apart). THE CARD IS WHAT COUNTS. Prove the row's statement (the work); the ties are given (YtjfmmingkciapaaDoorTie.lean); close each card by the builder's one call (the guide's Derived/Test/ToyasCard.lean, 'card_holds'). Laid BY PROGRAM, IN A SANDBOX (cutbox-door.mjs). By AI agents, Wed Nov 11 2026. No macro, syntax, notation, axiom, sorry.
-/
import Derived.Test.YtjfmmingkciapaaDoorRows
import GoSem.ClaimSeven
namespace Go.Proofs.YtjfmmingkciapaaDoor
namespace Rows

/-- THE TIED CARD OF 'laws.FnAppraisal'. -/
def fnAppraisalCard : Claim7 := { stood := { row := fnAppraisalRow, standIns := [], harness := (true, "0592efe006d1ad42a82f27500408a1db8ff30398c1cb7916794a0ba0b6fa0ef7"), looks := true }, kinds := [], alts := [], laidByText := true, laidKinds := [.sentinel], laidTests := true, laidLooks := .later }
def FnAppraisalCardSaid : Prop := Claim7.holds Tryd.pinned (.plain (OpenSpec.ofChange fnAppraisalSpec)) fnAppraisalCard

/-- THE SECOND FORM's CARD OF 'laws.FnAppraisal'. -/
def fnAppraisalUptoCard : Claim7 := { stood := { row := fnAppraisalUptoRow, standIns := [], harness := (true, "0592efe006d1ad42a82f27500408a1db8ff30398c1cb7916794a0ba0b6fa0ef7"), looks := true }, kinds := [], alts := [], laidByText := true, laidKinds := [.sentinel], laidTests := true, laidLooks := .later }
def FnAppraisalUptoCardSaid : Prop := Claim7.holds Tryd.pinned (.plain (OpenSpec.upto fnAppraisalSpec)) fnAppraisalUptoCard
end Rows
end Go.Proofs.YtjfmmingkciapaaDoor
