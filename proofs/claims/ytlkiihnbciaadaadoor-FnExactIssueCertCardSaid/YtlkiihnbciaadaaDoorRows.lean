/-
  NARROWER THAN 'FOR EVERY INPUT', by the rows' own cells (each row's printed sentence says how): FnExactIsCert: ifaces, laid · FnExactIssueCert: ifaces, laid · FnExactCheckCert: ifaces, laid · FnExactHasProved: ifaces, laid.
  DERIVED. THE GIVEN ROWS OF THIS SEAT. 4 by the template 'for every input the law returns true; each argument reads behind the call as it read before'; 0 by the template 'total and deterministic' (their statements: YtlkiihnbciaadaaDoorTotals.lean).
  GIVEN WITH THE SEED: the statements are not yours to turn. If you find one false, say at which input.
  Laid BY PROGRAM, IN A SANDBOX (cutbox-rows.mjs): the forced cells as the released guide's own fill.sh prints them over the translation 0009ce39edf79dd2… (all of the seat's roots in one cut). By AI agents, Wed Nov 11 2026. No macro, syntax, notation, axiom, sorry.
-/
import Derived.Test.YtlkiihnbciaadaaDoorChecked
import GoSem.Claim
import GoSem.ClaimJoined
import GoSem.ClaimMapViews
import Derived.JoinedTies
import Derived.KernelRfl
namespace Go.Proofs.YtlkiihnbciaadaaDoor
/- THE CELL 'sum', in the pinned program and in every row, IS THE sha256 OF THE DUMP (.gsa) THAT YtlkiihnbciaadaaDoorProg.lean LOADS. Nothing in Lean hashes anything: it is a label: what it is worth is what the hold of that sum in a sandbox is worth. -/
noncomputable def Tryd.pinned : Pinned := { name := "ytlkiihnbciaadaadoor", sum := "0009ce39edf79dd2679cdf146a8c9dfc79eeb6c5d59c350d44e7f3e555147b46", checked := Tryd.checked }
namespace Rows
def none {H : Type} : Left H := { results := [], args := [] }

/- WHAT THE LISTED PACKAGE-LEVEL VARIABLES READ AS WHEN THE CALL BEGINS. Each datum BY PROGRAM (the guide's laid-datum.mjs) off the statement by which the dump's own 'gosem.cut.vars' lays the variable. In a bare row this is a premise. The card (YtlkiihnbciaadaaDoorCards.lean) ties it to the program's text. -/
def laid_loop_example_g00594_impl_errNoKey {H : Type} : DataW H := .iface "*errors.errorString" (.ptr (.agg [.lit (.string [110, 111, 116, 32, 97, 32, 107, 101, 121])]))

/-- 'laws.FnExactIsCert': WHATEVER THE INPUT: true; the input reads as it did. -/
def fnExactIsCertSpec : ChangeSpec := { name := "fnExactIsCert", vars := ["loop.example/g00594/impl.errNoKey"], fn := fun _ => fun
  | [d, g1] => { results := [.lit (.bool true)], args := [d], vars := [g1] }
  | _ => none }
def fnExactIsCertRow : OpenClaim := { program := "ytlkiihnbciaadaadoor", sum := "0009ce39edf79dd2679cdf146a8c9dfc79eeb6c5d59c350d44e7f3e555147b46", func := "loop.example/g00594/laws.FnExactIsCert", spec := "fnExactIsCert", inPlace := ["internal/reflectlite.TypeOf"], unfollowed := true, recurses := true, named := ["loop.example/g00594/impl.errNoKey"], ifaces := true, apart := false, laid := [("loop.example/g00594/impl.errNoKey", laid_loop_example_g00594_impl_errNoKey)] }
def FnExactIsCertSaid : Prop := fnExactIsCertRow.holds Tryd.pinned (OpenSpec.ofChange fnExactIsCertSpec)

/-- ITS FALSE NEIGHBOUR: 'it returns false'. Refute it at one input. -/
def fnExactIsCertWrong : ChangeSpec := { name := "fnExactIsCert", vars := ["loop.example/g00594/impl.errNoKey"], fn := fun _ => fun
  | [d, g1] => { results := [.lit (.bool false)], args := [d], vars := [g1] }
  | _ => none }
def FnExactIsCertWrongFalsely : Prop := fnExactIsCertRow.holds Tryd.pinned (OpenSpec.ofChange fnExactIsCertWrong)

/-- 'laws.FnExactIssueCert': WHATEVER THE INPUT: true; the input reads as it did. -/
def fnExactIssueCertSpec : ChangeSpec := { name := "fnExactIssueCert", vars := ["loop.example/g00594/impl.errNoKey"], fn := fun _ => fun
  | [d1, d2, d3, d4, d5, d6, g1] => { results := [.lit (.bool true)], args := [d1, d2, d3, d4, d5, d6], vars := [g1] }
  | _ => none }
def fnExactIssueCertRow : OpenClaim := { program := "ytlkiihnbciaadaadoor", sum := "0009ce39edf79dd2679cdf146a8c9dfc79eeb6c5d59c350d44e7f3e555147b46", func := "loop.example/g00594/laws.FnExactIssueCert", spec := "fnExactIssueCert", inPlace := ["internal/reflectlite.TypeOf"], unfollowed := true, recurses := true, named := ["loop.example/g00594/impl.errNoKey"], ifaces := true, apart := false, laid := [("loop.example/g00594/impl.errNoKey", laid_loop_example_g00594_impl_errNoKey)] }
def FnExactIssueCertSaid : Prop := fnExactIssueCertRow.holds Tryd.pinned (OpenSpec.ofChange fnExactIssueCertSpec)

/-- ITS FALSE NEIGHBOUR: 'it returns false'. Refute it at one input. -/
def fnExactIssueCertWrong : ChangeSpec := { name := "fnExactIssueCert", vars := ["loop.example/g00594/impl.errNoKey"], fn := fun _ => fun
  | [d1, d2, d3, d4, d5, d6, g1] => { results := [.lit (.bool false)], args := [d1, d2, d3, d4, d5, d6], vars := [g1] }
  | _ => none }
def FnExactIssueCertWrongFalsely : Prop := fnExactIssueCertRow.holds Tryd.pinned (OpenSpec.ofChange fnExactIssueCertWrong)

/-- 'laws.FnExactCheckCert': WHATEVER THE INPUT: true; the input reads as it did. -/
def fnExactCheckCertSpec : ChangeSpec := { name := "fnExactCheckCert", vars := ["loop.example/g00594/impl.errNoKey"], fn := fun _ => fun
  | [d1, d2, d3, g1] => { results := [.lit (.bool true)], args := [d1, d2, d3], vars := [g1] }
  | _ => none }
def fnExactCheckCertRow : OpenClaim := { program := "ytlkiihnbciaadaadoor", sum := "0009ce39edf79dd2679cdf146a8c9dfc79eeb6c5d59c350d44e7f3e555147b46", func := "loop.example/g00594/laws.FnExactCheckCert", spec := "fnExactCheckCert", inPlace := ["internal/reflectlite.TypeOf"], unfollowed := true, recurses := true, named := ["loop.example/g00594/impl.errNoKey"], ifaces := true, apart := false, laid := [("loop.example/g00594/impl.errNoKey", laid_loop_example_g00594_impl_errNoKey)] }
def FnExactCheckCertSaid : Prop := fnExactCheckCertRow.holds Tryd.pinned (OpenSpec.ofChange fnExactCheckCertSpec)

/-- ITS FALSE NEIGHBOUR: 'it returns false'. Refute it at one input. -/
def fnExactCheckCertWrong : ChangeSpec := { name := "fnExactCheckCert", vars := ["loop.example/g00594/impl.errNoKey"], fn := fun _ => fun
  | [d1, d2, d3, g1] => { results := [.lit (.bool false)], args := [d1, d2, d3], vars := [g1] }
  | _ => none }
def FnExactCheckCertWrongFalsely : Prop := fnExactCheckCertRow.holds Tryd.pinned (OpenSpec.ofChange fnExactCheckCertWrong)

/-- 'laws.FnExactHasProved': WHATEVER THE INPUT: true; the input reads as it did. -/
def fnExactHasProvedSpec : ChangeSpec := { name := "fnExactHasProved", vars := ["loop.example/g00594/impl.errNoKey"], fn := fun _ => fun
  | [d1, d2, d3, d4, d5, g1] => { results := [.lit (.bool true)], args := [d1, d2, d3, d4, d5], vars := [g1] }
  | _ => none }
def fnExactHasProvedRow : OpenClaim := { program := "ytlkiihnbciaadaadoor", sum := "0009ce39edf79dd2679cdf146a8c9dfc79eeb6c5d59c350d44e7f3e555147b46", func := "loop.example/g00594/laws.FnExactHasProved", spec := "fnExactHasProved", inPlace := ["internal/reflectlite.TypeOf"], unfollowed := true, recurses := true, named := ["loop.example/g00594/impl.errNoKey"], ifaces := true, apart := false, laid := [("loop.example/g00594/impl.errNoKey", laid_loop_example_g00594_impl_errNoKey)] }
def FnExactHasProvedSaid : Prop := fnExactHasProvedRow.holds Tryd.pinned (OpenSpec.ofChange fnExactHasProvedSpec)

/-- ITS FALSE NEIGHBOUR: 'it returns false'. Refute it at one input. -/
def fnExactHasProvedWrong : ChangeSpec := { name := "fnExactHasProved", vars := ["loop.example/g00594/impl.errNoKey"], fn := fun _ => fun
  | [d1, d2, d3, d4, d5, g1] => { results := [.lit (.bool false)], args := [d1, d2, d3, d4, d5], vars := [g1] }
  | _ => none }
def FnExactHasProvedWrongFalsely : Prop := fnExactHasProvedRow.holds Tryd.pinned (OpenSpec.ofChange fnExactHasProvedWrong)

/- THE SECOND FORM. 'bulk': how many values and letters a reading holds, each counted each time it is reached (what is shared counts as often as it is met; a slice's spare places count too). A statement '..UptoSaid' is the law's where the arguments, and the package variables that the reading takes, are together of bulk at most 1048576: NARROWER than '..Said'. Prove '..Said' where nothing that the law and all that it calls make is longer than what came in: it says more and counts as full. Else prove '..UptoSaid'. A law counts once. -/
mutual
def uptoBulk {H : Type} : DataW H → Nat
  | .lit (.string bytes) => bytes.length + 1
  | .lit _ => 1
  | .nil => 1
  | .ptr d => uptoBulk d + 1
  | .slice elems spare => uptoBulkAll elems + uptoBulkAll spare + 1
  | .agg parts => uptoBulkAll parts + 1
  | .iface _ d => uptoBulk d + 1
  | .map entries => uptoBulkEntries entries + 1
  | .held _ => 1
def uptoBulkAll {H : Type} : List (DataW H) → Nat
  | [] => 0
  | d :: r => uptoBulk d + uptoBulkAll r
def uptoBulkEntries {H : Type} : List (Lit × DataW H) → Nat
  | [] => 0
  | x :: r => uptoBulkEntry x + uptoBulkEntries r
def uptoBulkEntry {H : Type} : Lit × DataW H → Nat
  | (.string bytes, d) => bytes.length + uptoBulk d + 1
  | (_, d) => uptoBulk d + 1
 end
def uptoSmall : (H : Type) → List (DataW H) → Bool := fun _ ds => decide (uptoBulkAll ds ≤ 1048576)
def OpenSpec.upto (s : _root_.Go.ChangeSpec) : _root_.Go.OpenSpec := { _root_.Go.OpenSpec.ofChange s with cond := some uptoSmall }

/-- 'laws.FnExactIsCert', WHERE WHAT IT READS IS OF BULK AT MOST 1048576: true; the input reads as it did. -/
def fnExactIsCertUptoRow : OpenClaim := { program := "ytlkiihnbciaadaadoor", sum := "0009ce39edf79dd2679cdf146a8c9dfc79eeb6c5d59c350d44e7f3e555147b46", func := "loop.example/g00594/laws.FnExactIsCert", spec := "fnExactIsCert", inPlace := ["internal/reflectlite.TypeOf"], unfollowed := true, recurses := true, named := ["loop.example/g00594/impl.errNoKey"], ifaces := true, apart := false, laid := [("loop.example/g00594/impl.errNoKey", laid_loop_example_g00594_impl_errNoKey)], narrowed := true }
def FnExactIsCertUptoSaid : Prop := fnExactIsCertUptoRow.holds Tryd.pinned (OpenSpec.upto fnExactIsCertSpec)

/-- 'laws.FnExactIssueCert', WHERE WHAT IT READS IS OF BULK AT MOST 1048576: true; the input reads as it did. -/
def fnExactIssueCertUptoRow : OpenClaim := { program := "ytlkiihnbciaadaadoor", sum := "0009ce39edf79dd2679cdf146a8c9dfc79eeb6c5d59c350d44e7f3e555147b46", func := "loop.example/g00594/laws.FnExactIssueCert", spec := "fnExactIssueCert", inPlace := ["internal/reflectlite.TypeOf"], unfollowed := true, recurses := true, named := ["loop.example/g00594/impl.errNoKey"], ifaces := true, apart := false, laid := [("loop.example/g00594/impl.errNoKey", laid_loop_example_g00594_impl_errNoKey)], narrowed := true }
def FnExactIssueCertUptoSaid : Prop := fnExactIssueCertUptoRow.holds Tryd.pinned (OpenSpec.upto fnExactIssueCertSpec)

/-- 'laws.FnExactCheckCert', WHERE WHAT IT READS IS OF BULK AT MOST 1048576: true; the input reads as it did. -/
def fnExactCheckCertUptoRow : OpenClaim := { program := "ytlkiihnbciaadaadoor", sum := "0009ce39edf79dd2679cdf146a8c9dfc79eeb6c5d59c350d44e7f3e555147b46", func := "loop.example/g00594/laws.FnExactCheckCert", spec := "fnExactCheckCert", inPlace := ["internal/reflectlite.TypeOf"], unfollowed := true, recurses := true, named := ["loop.example/g00594/impl.errNoKey"], ifaces := true, apart := false, laid := [("loop.example/g00594/impl.errNoKey", laid_loop_example_g00594_impl_errNoKey)], narrowed := true }
def FnExactCheckCertUptoSaid : Prop := fnExactCheckCertUptoRow.holds Tryd.pinned (OpenSpec.upto fnExactCheckCertSpec)

/-- 'laws.FnExactHasProved', WHERE WHAT IT READS IS OF BULK AT MOST 1048576: true; the input reads as it did. -/
def fnExactHasProvedUptoRow : OpenClaim := { program := "ytlkiihnbciaadaadoor", sum := "0009ce39edf79dd2679cdf146a8c9dfc79eeb6c5d59c350d44e7f3e555147b46", func := "loop.example/g00594/laws.FnExactHasProved", spec := "fnExactHasProved", inPlace := ["internal/reflectlite.TypeOf"], unfollowed := true, recurses := true, named := ["loop.example/g00594/impl.errNoKey"], ifaces := true, apart := false, laid := [("loop.example/g00594/impl.errNoKey", laid_loop_example_g00594_impl_errNoKey)], narrowed := true }
def FnExactHasProvedUptoSaid : Prop := fnExactHasProvedUptoRow.holds Tryd.pinned (OpenSpec.upto fnExactHasProvedSpec)

end Rows
end Go.Proofs.YtlkiihnbciaadaaDoor
