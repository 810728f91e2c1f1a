/-
  DERIVED. GIVEN WITH THE SEED: THE CARDS: each row of YtlkiihnbciaadaaDoorRows.lean that lists a variable, with what it lists TIED to the program's text (the seventh form; the later family's looks); each row that meets fmt, with fmt's text TOLD by the authors' own Lean function (tested against real Go, not proved from fmt's source: count such statements apart). THE CARD IS WHAT COUNTS. Prove the row's statement (the work); the ties are given (YtlkiihnbciaadaaDoorTie.lean); close each card by the builder's one call (the guide's Derived/Test/ToyasCard.lean, 'card_holds'). Laid BY PROGRAM, IN A SANDBOX (cutbox-door.mjs). By AI agents, Wed Nov 11 2026. No macro, syntax, notation, axiom, sorry.
-/
import Derived.Test.YtlkiihnbciaadaaDoorRows
import GoSem.ClaimSeven
namespace Go.Proofs.YtlkiihnbciaadaaDoor
namespace Rows

/-- THE TIED CARD OF 'laws.FnExactIsCert'. -/
def fnExactIsCertCard : Claim7 := { stood := { row := fnExactIsCertRow, standIns := [], harness := (true, "4bd2c1dac8ae8b247d9f2a971bf9a7c8853c56f11eb8482eb7b25d8f0d935bfd"), looks := true }, kinds := [], alts := [], laidByText := true, laidKinds := [.sentinel], laidTests := true, laidLooks := .later }
def FnExactIsCertCardSaid : Prop := Claim7.holds Tryd.pinned (.plain (OpenSpec.ofChange fnExactIsCertSpec)) fnExactIsCertCard

/-- THE TIED CARD OF 'laws.FnExactIssueCert'. -/
def fnExactIssueCertCard : Claim7 := { stood := { row := fnExactIssueCertRow, standIns := [], harness := (true, "4bd2c1dac8ae8b247d9f2a971bf9a7c8853c56f11eb8482eb7b25d8f0d935bfd"), looks := true }, kinds := [], alts := [], laidByText := true, laidKinds := [.sentinel], laidTests := true, laidLooks := .later }
def FnExactIssueCertCardSaid : Prop := Claim7.holds Tryd.pinned (.plain (OpenSpec.ofChange fnExactIssueCertSpec)) fnExactIssueCertCard

/-- THE TIED CARD OF 'laws.FnExactCheckCert'. -/
def fnExactCheckCertCard : Claim7 := { stood := { row := fnExactCheckCertRow, standIns := [], harness := (true, "4bd2c1dac8ae8b247d9f2a971bf9a7c8853c56f11eb8482eb7b25d8f0d935bfd"), looks := true }, kinds := [], alts := [], laidByText := true, laidKinds := [.sentinel], laidTests := true, laidLooks := .later }
def FnExactCheckCertCardSaid : Prop := Claim7.holds Tryd.pinned (.plain (OpenSpec.ofChange fnExactCheckCertSpec)) fnExactCheckCertCard

/-- THE TIED CARD OF 'laws.FnExactHasProved'. -/
def fnExactHasProvedCard : Claim7 := { stood := { row := fnExactHasProvedRow, standIns := [], harness := (true, "4bd2c1dac8ae8b247d9f2a971bf9a7c8853c56f11eb8482eb7b25d8f0d935bfd"), looks := true }, kinds := [], alts := [], laidByText := true, laidKinds := [.sentinel], laidTests := true, laidLooks := .later }
def FnExactHasProvedCardSaid : Prop := Claim7.holds Tryd.pinned (.plain (OpenSpec.ofChange fnExactHasProvedSpec)) fnExactHasProvedCard

/-- THE SECOND FORM's CARD OF 'laws.FnExactIsCert'. -/
def fnExactIsCertUptoCard : Claim7 := { stood := { row := fnExactIsCertUptoRow, standIns := [], harness := (true, "4bd2c1dac8ae8b247d9f2a971bf9a7c8853c56f11eb8482eb7b25d8f0d935bfd"), looks := true }, kinds := [], alts := [], laidByText := true, laidKinds := [.sentinel], laidTests := true, laidLooks := .later }
def FnExactIsCertUptoCardSaid : Prop := Claim7.holds Tryd.pinned (.plain (OpenSpec.upto fnExactIsCertSpec)) fnExactIsCertUptoCard

/-- THE SECOND FORM's CARD OF 'laws.FnExactIssueCert'. -/
def fnExactIssueCertUptoCard : Claim7 := { stood := { row := fnExactIssueCertUptoRow, standIns := [], harness := (true, "4bd2c1dac8ae8b247d9f2a971bf9a7c8853c56f11eb8482eb7b25d8f0d935bfd"), looks := true }, kinds := [], alts := [], laidByText := true, laidKinds := [.sentinel], laidTests := true, laidLooks := .later }
def FnExactIssueCertUptoCardSaid : Prop := Claim7.holds Tryd.pinned (.plain (OpenSpec.upto fnExactIssueCertSpec)) fnExactIssueCertUptoCard

/-- THE SECOND FORM's CARD OF 'laws.FnExactCheckCert'. -/
def fnExactCheckCertUptoCard : Claim7 := { stood := { row := fnExactCheckCertUptoRow, standIns := [], harness := (true, "4bd2c1dac8ae8b247d9f2a971bf9a7c8853c56f11eb8482eb7b25d8f0d935bfd"), looks := true }, kinds := [], alts := [], laidByText := true, laidKinds := [.sentinel], laidTests := true, laidLooks := .later }
def FnExactCheckCertUptoCardSaid : Prop := Claim7.holds Tryd.pinned (.plain (OpenSpec.upto fnExactCheckCertSpec)) fnExactCheckCertUptoCard

/-- THE SECOND FORM's CARD OF 'laws.FnExactHasProved'. -/
def fnExactHasProvedUptoCard : Claim7 := { stood := { row := fnExactHasProvedUptoRow, standIns := [], harness := (true, "4bd2c1dac8ae8b247d9f2a971bf9a7c8853c56f11eb8482eb7b25d8f0d935bfd"), looks := true }, kinds := [], alts := [], laidByText := true, laidKinds := [.sentinel], laidTests := true, laidLooks := .later }
def FnExactHasProvedUptoCardSaid : Prop := Claim7.holds Tryd.pinned (.plain (OpenSpec.upto fnExactHasProvedSpec)) fnExactHasProvedUptoCard
end Rows
end Go.Proofs.YtlkiihnbciaadaaDoor
