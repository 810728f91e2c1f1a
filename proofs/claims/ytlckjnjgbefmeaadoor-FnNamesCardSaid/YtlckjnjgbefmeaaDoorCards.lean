/-
  DERIVED. GIVEN WITH THE SEED: THE CARDS: each row of YtlckjnjgbefmeaaDoorRows.lean that lists a variable, with what it lists TIED to the program's text (the seventh form; the later family's looks); each row that meets fmt, with fmt's text TOLD by the authors' own Lean function (tested against real Go, not proved from fmt's source: count such statements apart). THE CARD IS WHAT COUNTS. Prove the row's statement (the work); the ties are given (YtlckjnjgbefmeaaDoorTie.lean); close each card by the builder's one call (the guide's Derived/Test/ToyasCard.lean, 'card_holds'). Laid BY PROGRAM, IN A SANDBOX (cutbox-door.mjs). By AI agents, Wed Nov 11 2026. No macro, syntax, notation, axiom, sorry.
-/
import Derived.Test.YtlckjnjgbefmeaaDoorRows
import GoSem.ClaimSeven
namespace Go.Proofs.YtlckjnjgbefmeaaDoor
namespace Rows

/-- THE TIED CARD OF 'laws.FnNames'. -/
def fnNamesCard : Claim7 := { stood := { row := fnNamesRow, standIns := [], harness := (true, "f618729591dcfb1cefbeba59305889cc396a65a68b3500d7216109ff2aa73a1a"), looks := false }, kinds := [], alts := [], laidByText := true, laidKinds := [.data, .data, .data], laidTests := true, laidLooks := .later }
def FnNamesCardSaid : Prop := Claim7.holds Tryd.pinned (.plain (OpenSpec.ofChange fnNamesSpec)) fnNamesCard

/-- THE TIED CARD OF 'laws.FnExactFormatName'. -/
def fnExactFormatNameCard : Claim7 := { stood := { row := fnExactFormatNameRow, standIns := [], harness := (true, "f618729591dcfb1cefbeba59305889cc396a65a68b3500d7216109ff2aa73a1a"), looks := false }, kinds := [], alts := [], laidByText := true, laidKinds := [.data, .data, .data], laidTests := true, laidLooks := .later }
def FnExactFormatNameCardSaid : Prop := Claim7.holds Tryd.pinned (.plain (OpenSpec.ofChange fnExactFormatNameSpec)) fnExactFormatNameCard

/-- THE SECOND FORM's CARD OF 'laws.FnNames'. -/
def fnNamesUptoCard : Claim7 := { stood := { row := fnNamesUptoRow, standIns := [], harness := (true, "f618729591dcfb1cefbeba59305889cc396a65a68b3500d7216109ff2aa73a1a"), looks := false }, kinds := [], alts := [], laidByText := true, laidKinds := [.data, .data, .data], laidTests := true, laidLooks := .later }
def FnNamesUptoCardSaid : Prop := Claim7.holds Tryd.pinned (.plain (OpenSpec.upto fnNamesSpec)) fnNamesUptoCard

/-- THE SECOND FORM's CARD OF 'laws.FnExactFormatName'. -/
def fnExactFormatNameUptoCard : Claim7 := { stood := { row := fnExactFormatNameUptoRow, standIns := [], harness := (true, "f618729591dcfb1cefbeba59305889cc396a65a68b3500d7216109ff2aa73a1a"), looks := false }, kinds := [], alts := [], laidByText := true, laidKinds := [.data, .data, .data], laidTests := true, laidLooks := .later }
def FnExactFormatNameUptoCardSaid : Prop := Claim7.holds Tryd.pinned (.plain (OpenSpec.upto fnExactFormatNameSpec)) fnExactFormatNameUptoCard
end Rows
end Go.Proofs.YtlckjnjgbefmeaaDoor
