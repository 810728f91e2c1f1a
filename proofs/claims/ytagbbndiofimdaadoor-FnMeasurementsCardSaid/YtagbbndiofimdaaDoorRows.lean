/-
  NARROWER THAN 'FOR EVERY INPUT', by the rows' own cells (each row's printed sentence says how): FnMeasurements: ifaces, laid · FnExactMakeQuote: ifaces, laid · FnExactCheckQuote: ifaces, laid.
  DERIVED. THE GIVEN ROWS OF THIS SEAT. 3 by the template 'for every input the law returns true; each argument reads behind the call as it read before'; 0 by the template 'total and deterministic' (their statements: YtagbbndiofimdaaDoorTotals.lean).
  GIVEN WITH THE SEED: the statements are not yours to turn. If you find one false, say at which input.
  Laid BY PROGRAM, IN A SANDBOX (cutbox-rows.mjs): the forced cells as the released guide's own fill.sh prints them over the translation ab9ee8a43b5bff0d… (all of the seat's roots in one cut). By AI agents, Wed Nov 11 2026. No macro, syntax, notation, axiom, sorry.
-/
import Derived.Test.YtagbbndiofimdaaDoorChecked
import GoSem.Claim
import GoSem.ClaimJoined
import GoSem.ClaimMapViews
import Derived.JoinedTies
import Derived.KernelRfl
namespace Go.Proofs.YtagbbndiofimdaaDoor
/- THE CELL 'sum', in the pinned program and in every row, IS THE sha256 OF THE DUMP (.gsa) THAT YtagbbndiofimdaaDoorProg.lean LOADS. Nothing in Lean hashes anything: it is a label: what it is worth is what the hold of that sum in a sandbox is worth. -/
noncomputable def Tryd.pinned : Pinned := { name := "ytagbbndiofimdaadoor", sum := "ab9ee8a43b5bff0d4b4d0465d3bdc5bb7f44425278dfb4b0ebe7f422cdb1c9dc", checked := Tryd.checked }
namespace Rows
def none {H : Type} : Left H := { results := [], args := [] }

/- WHAT THE LISTED PACKAGE-LEVEL VARIABLES READ AS WHEN THE CALL BEGINS. Each datum BY PROGRAM (the guide's laid-datum.mjs) off the statement by which the dump's own 'gosem.cut.vars' lays the variable. In a bare row this is a premise. The card (YtagbbndiofimdaaDoorCards.lean) ties it to the program's text. -/
def laid_loop_example_g00594_impl_errNoKey {H : Type} : DataW H := .iface "*errors.errorString" (.ptr (.agg [.lit (.string [110, 111, 116, 32, 97, 32, 107, 101, 121])]))

/-- 'laws.FnMeasurements': WHATEVER THE INPUT: true; the input reads as it did. -/
def fnMeasurementsSpec : ChangeSpec := { name := "fnMeasurements", vars := ["loop.example/g00594/impl.errNoKey"], fn := fun _ => fun
  | [d, g1] => { results := [.lit (.bool true)], args := [d], vars := [g1] }
  | _ => none }
def fnMeasurementsRow : OpenClaim := { program := "ytagbbndiofimdaadoor", sum := "ab9ee8a43b5bff0d4b4d0465d3bdc5bb7f44425278dfb4b0ebe7f422cdb1c9dc", func := "loop.example/g00594/laws.FnMeasurements", spec := "fnMeasurements", inPlace := ["internal/reflectlite.TypeOf"], unfollowed := true, recurses := true, named := ["loop.example/g00594/impl.errNoKey"], ifaces := true, apart := false, laid := [("loop.example/g00594/impl.errNoKey", laid_loop_example_g00594_impl_errNoKey)] }
def FnMeasurementsSaid : Prop := fnMeasurementsRow.holds Tryd.pinned (OpenSpec.ofChange fnMeasurementsSpec)

/-- ITS FALSE NEIGHBOUR: 'it returns false'. Refute it at one input. -/
def fnMeasurementsWrong : ChangeSpec := { name := "fnMeasurements", vars := ["loop.example/g00594/impl.errNoKey"], fn := fun _ => fun
  | [d, g1] => { results := [.lit (.bool false)], args := [d], vars := [g1] }
  | _ => none }
def FnMeasurementsWrongFalsely : Prop := fnMeasurementsRow.holds Tryd.pinned (OpenSpec.ofChange fnMeasurementsWrong)

/-- 'laws.FnExactMakeQuote': WHATEVER THE INPUT: true; the input reads as it did. -/
def fnExactMakeQuoteSpec : ChangeSpec := { name := "fnExactMakeQuote", vars := ["loop.example/g00594/impl.errNoKey"], fn := fun _ => fun
  | [d1, d2, d3, d4, d5, g1] => { results := [.lit (.bool true)], args := [d1, d2, d3, d4, d5], vars := [g1] }
  | _ => none }
def fnExactMakeQuoteRow : OpenClaim := { program := "ytagbbndiofimdaadoor", sum := "ab9ee8a43b5bff0d4b4d0465d3bdc5bb7f44425278dfb4b0ebe7f422cdb1c9dc", func := "loop.example/g00594/laws.FnExactMakeQuote", spec := "fnExactMakeQuote", inPlace := ["internal/reflectlite.TypeOf"], unfollowed := true, recurses := true, named := ["loop.example/g00594/impl.errNoKey"], ifaces := true, apart := false, laid := [("loop.example/g00594/impl.errNoKey", laid_loop_example_g00594_impl_errNoKey)] }
def FnExactMakeQuoteSaid : Prop := fnExactMakeQuoteRow.holds Tryd.pinned (OpenSpec.ofChange fnExactMakeQuoteSpec)

/-- ITS FALSE NEIGHBOUR: 'it returns false'. Refute it at one input. -/
def fnExactMakeQuoteWrong : ChangeSpec := { name := "fnExactMakeQuote", vars := ["loop.example/g00594/impl.errNoKey"], fn := fun _ => fun
  | [d1, d2, d3, d4, d5, g1] => { results := [.lit (.bool false)], args := [d1, d2, d3, d4, d5], vars := [g1] }
  | _ => none }
def FnExactMakeQuoteWrongFalsely : Prop := fnExactMakeQuoteRow.holds Tryd.pinned (OpenSpec.ofChange fnExactMakeQuoteWrong)

/-- 'laws.FnExactCheckQuote': WHATEVER THE INPUT: true; the input reads as it did. -/
def fnExactCheckQuoteSpec : ChangeSpec := { name := "fnExactCheckQuote", vars := ["loop.example/g00594/impl.errNoKey"], fn := fun _ => fun
  | [d1, d2, d3, d4, d5, d6, g1] => { results := [.lit (.bool true)], args := [d1, d2, d3, d4, d5, d6], vars := [g1] }
  | _ => none }
def fnExactCheckQuoteRow : OpenClaim := { program := "ytagbbndiofimdaadoor", sum := "ab9ee8a43b5bff0d4b4d0465d3bdc5bb7f44425278dfb4b0ebe7f422cdb1c9dc", func := "loop.example/g00594/laws.FnExactCheckQuote", spec := "fnExactCheckQuote", inPlace := ["internal/reflectlite.TypeOf"], unfollowed := true, recurses := true, named := ["loop.example/g00594/impl.errNoKey"], ifaces := true, apart := false, laid := [("loop.example/g00594/impl.errNoKey", laid_loop_example_g00594_impl_errNoKey)] }
def FnExactCheckQuoteSaid : Prop := fnExactCheckQuoteRow.holds Tryd.pinned (OpenSpec.ofChange fnExactCheckQuoteSpec)

/-- ITS FALSE NEIGHBOUR: 'it returns false'. Refute it at one input. -/
def fnExactCheckQuoteWrong : ChangeSpec := { name := "fnExactCheckQuote", vars := ["loop.example/g00594/impl.errNoKey"], fn := fun _ => fun
  | [d1, d2, d3, d4, d5, d6, g1] => { results := [.lit (.bool false)], args := [d1, d2, d3, d4, d5, d6], vars := [g1] }
  | _ => none }
def FnExactCheckQuoteWrongFalsely : Prop := fnExactCheckQuoteRow.holds Tryd.pinned (OpenSpec.ofChange fnExactCheckQuoteWrong)

/- THE SECOND FORM. 'bulk': how many values and letters a reading holds, each counted each time it is reached (what is shared counts as often as it is met; a slice's spare places count too). A statement '..UptoSaid' is the law's where the arguments, and the package variables that the reading takes, are together of bulk at most 1048576: NARROWER than '..Said'. Prove '..Said' where nothing that the law and all that it calls make is longer than what came in: it says more and counts as full. Else prove '..UptoSaid'. A law counts once. -/
mutual
def uptoBulk {H : Type} : DataW H → Nat
  | .lit (.string bytes) => bytes.length + 1
  | .lit _ => 1
  | .nil => 1
  | .ptr d => uptoBulk d + 1
  | .slice elems spare => uptoBulkAll elems + uptoBulkAll spare + 1
  | .agg parts => uptoBulkAll parts + 1
  | .iface _ d => uptoBulk d + 1
  | .map entries => uptoBulkEntries entries + 1
  | .held _ => 1
def uptoBulkAll {H : Type} : List (DataW H) → Nat
  | [] => 0
  | d :: r => uptoBulk d + uptoBulkAll r
def uptoBulkEntries {H : Type} : List (Lit × DataW H) → Nat
  | [] => 0
  | x :: r => uptoBulkEntry x + uptoBulkEntries r
def uptoBulkEntry {H : Type} : Lit × DataW H → Nat
  | (.string bytes, d) => bytes.length + uptoBulk d + 1
  | (_, d) => uptoBulk d + 1
 end
def uptoSmall : (H : Type) → List (DataW H) → Bool := fun _ ds => decide (uptoBulkAll ds ≤ 1048576)
def OpenSpec.upto (s : _root_.Go.ChangeSpec) : _root_.Go.OpenSpec := { _root_.Go.OpenSpec.ofChange s with cond := some uptoSmall }

/-- 'laws.FnMeasurements', WHERE WHAT IT READS IS OF BULK AT MOST 1048576: true; the input reads as it did. -/
def fnMeasurementsUptoRow : OpenClaim := { program := "ytagbbndiofimdaadoor", sum := "ab9ee8a43b5bff0d4b4d0465d3bdc5bb7f44425278dfb4b0ebe7f422cdb1c9dc", func := "loop.example/g00594/laws.FnMeasurements", spec := "fnMeasurements", inPlace := ["internal/reflectlite.TypeOf"], unfollowed := true, recurses := true, named := ["loop.example/g00594/impl.errNoKey"], ifaces := true, apart := false, laid := [("loop.example/g00594/impl.errNoKey", laid_loop_example_g00594_impl_errNoKey)], narrowed := true }
def FnMeasurementsUptoSaid : Prop := fnMeasurementsUptoRow.holds Tryd.pinned (OpenSpec.upto fnMeasurementsSpec)

/-- 'laws.FnExactMakeQuote', WHERE WHAT IT READS IS OF BULK AT MOST 1048576: true; the input reads as it did. -/
def fnExactMakeQuoteUptoRow : OpenClaim := { program := "ytagbbndiofimdaadoor", sum := "ab9ee8a43b5bff0d4b4d0465d3bdc5bb7f44425278dfb4b0ebe7f422cdb1c9dc", func := "loop.example/g00594/laws.FnExactMakeQuote", spec := "fnExactMakeQuote", inPlace := ["internal/reflectlite.TypeOf"], unfollowed := true, recurses := true, named := ["loop.example/g00594/impl.errNoKey"], ifaces := true, apart := false, laid := [("loop.example/g00594/impl.errNoKey", laid_loop_example_g00594_impl_errNoKey)], narrowed := true }
def FnExactMakeQuoteUptoSaid : Prop := fnExactMakeQuoteUptoRow.holds Tryd.pinned (OpenSpec.upto fnExactMakeQuoteSpec)

/-- 'laws.FnExactCheckQuote', WHERE WHAT IT READS IS OF BULK AT MOST 1048576: true; the input reads as it did. -/
def fnExactCheckQuoteUptoRow : OpenClaim := { program := "ytagbbndiofimdaadoor", sum := "ab9ee8a43b5bff0d4b4d0465d3bdc5bb7f44425278dfb4b0ebe7f422cdb1c9dc", func := "loop.example/g00594/laws.FnExactCheckQuote", spec := "fnExactCheckQuote", inPlace := ["internal/reflectlite.TypeOf"], unfollowed := true, recurses := true, named := ["loop.example/g00594/impl.errNoKey"], ifaces := true, apart := false, laid := [("loop.example/g00594/impl.errNoKey", laid_loop_example_g00594_impl_errNoKey)], narrowed := true }
def FnExactCheckQuoteUptoSaid : Prop := fnExactCheckQuoteUptoRow.holds Tryd.pinned (OpenSpec.upto fnExactCheckQuoteSpec)

end Rows
end Go.Proofs.YtagbbndiofimdaaDoor
