/-
  NARROWER THAN 'FOR EVERY INPUT', by the rows' own cells (each row's printed sentence says how): FnExactIsIssuer: ifaces, laid · FnExactAreIssuers: ifaces, laid · FnExactStateFact: ifaces, laid.
  DERIVED. THE GIVEN ROWS OF THIS SEAT. 3 by the template 'for every input the law returns true; each argument reads behind the call as it read before'; 0 by the template 'total and deterministic' (their statements: YtmmnajlncmnnhaaDoorTotals.lean).
  GIVEN WITH THE SEED: the statements are not yours to turn. If you find one false, say at which input.
  Laid BY PROGRAM, IN A SANDBOX (cutbox-rows.mjs): the forced cells as the released guide's own fill.sh prints them over the translation 9820577bb0e0370b… (all of the seat's roots in one cut). By AI agents, Wed Nov 11 2026. No macro, syntax, notation, axiom, sorry.
-/
import Derived.Test.YtmmnajlncmnnhaaDoorChecked
import GoSem.Claim
import GoSem.ClaimJoined
import GoSem.ClaimMapViews
import Derived.JoinedTies
import Derived.KernelRfl
namespace Go.Proofs.YtmmnajlncmnnhaaDoor
/- THE CELL 'sum', in the pinned program and in every row, IS THE sha256 OF THE DUMP (.gsa) THAT YtmmnajlncmnnhaaDoorProg.lean LOADS. Nothing in Lean hashes anything: it is a label: what it is worth is what the hold of that sum in a sandbox is worth. -/
noncomputable def Tryd.pinned : Pinned := { name := "ytmmnajlncmnnhaadoor", sum := "9820577bb0e0370b18753ca4fd0adde238f5b92444e4ec82b3b240cd43d73beb", checked := Tryd.checked }
namespace Rows
def none {H : Type} : Left H := { results := [], args := [] }

/- WHAT THE LISTED PACKAGE-LEVEL VARIABLES READ AS WHEN THE CALL BEGINS. Each datum BY PROGRAM (the guide's laid-datum.mjs) off the statement by which the dump's own 'gosem.cut.vars' lays the variable. In a bare row this is a premise. The card (YtmmnajlncmnnhaaDoorCards.lean) ties it to the program's text. -/
def laid_loop_example_g00594_impl_errNoKey {H : Type} : DataW H := .iface "*errors.errorString" (.ptr (.agg [.lit (.string [110, 111, 116, 32, 97, 32, 107, 101, 121])]))

/-- 'laws.FnExactIsIssuer': WHATEVER THE INPUT: true; the input reads as it did. -/
def fnExactIsIssuerSpec : ChangeSpec := { name := "fnExactIsIssuer", vars := ["loop.example/g00594/impl.errNoKey"], fn := fun _ => fun
  | [d, g1] => { results := [.lit (.bool true)], args := [d], vars := [g1] }
  | _ => none }
def fnExactIsIssuerRow : OpenClaim := { program := "ytmmnajlncmnnhaadoor", sum := "9820577bb0e0370b18753ca4fd0adde238f5b92444e4ec82b3b240cd43d73beb", func := "loop.example/g00594/laws.FnExactIsIssuer", spec := "fnExactIsIssuer", inPlace := ["internal/reflectlite.TypeOf"], unfollowed := true, recurses := true, named := ["loop.example/g00594/impl.errNoKey"], ifaces := true, apart := false, laid := [("loop.example/g00594/impl.errNoKey", laid_loop_example_g00594_impl_errNoKey)] }
def FnExactIsIssuerSaid : Prop := fnExactIsIssuerRow.holds Tryd.pinned (OpenSpec.ofChange fnExactIsIssuerSpec)

/-- ITS FALSE NEIGHBOUR: 'it returns false'. Refute it at one input. -/
def fnExactIsIssuerWrong : ChangeSpec := { name := "fnExactIsIssuer", vars := ["loop.example/g00594/impl.errNoKey"], fn := fun _ => fun
  | [d, g1] => { results := [.lit (.bool false)], args := [d], vars := [g1] }
  | _ => none }
def FnExactIsIssuerWrongFalsely : Prop := fnExactIsIssuerRow.holds Tryd.pinned (OpenSpec.ofChange fnExactIsIssuerWrong)

/-- 'laws.FnExactAreIssuers': WHATEVER THE INPUT: true; the input reads as it did. -/
def fnExactAreIssuersSpec : ChangeSpec := { name := "fnExactAreIssuers", vars := ["loop.example/g00594/impl.errNoKey"], fn := fun _ => fun
  | [d, g1] => { results := [.lit (.bool true)], args := [d], vars := [g1] }
  | _ => none }
def fnExactAreIssuersRow : OpenClaim := { program := "ytmmnajlncmnnhaadoor", sum := "9820577bb0e0370b18753ca4fd0adde238f5b92444e4ec82b3b240cd43d73beb", func := "loop.example/g00594/laws.FnExactAreIssuers", spec := "fnExactAreIssuers", inPlace := ["internal/reflectlite.TypeOf"], unfollowed := true, recurses := true, named := ["loop.example/g00594/impl.errNoKey"], ifaces := true, apart := false, laid := [("loop.example/g00594/impl.errNoKey", laid_loop_example_g00594_impl_errNoKey)] }
def FnExactAreIssuersSaid : Prop := fnExactAreIssuersRow.holds Tryd.pinned (OpenSpec.ofChange fnExactAreIssuersSpec)

/-- ITS FALSE NEIGHBOUR: 'it returns false'. Refute it at one input. -/
def fnExactAreIssuersWrong : ChangeSpec := { name := "fnExactAreIssuers", vars := ["loop.example/g00594/impl.errNoKey"], fn := fun _ => fun
  | [d, g1] => { results := [.lit (.bool false)], args := [d], vars := [g1] }
  | _ => none }
def FnExactAreIssuersWrongFalsely : Prop := fnExactAreIssuersRow.holds Tryd.pinned (OpenSpec.ofChange fnExactAreIssuersWrong)

/-- 'laws.FnExactStateFact': WHATEVER THE INPUT: true; the input reads as it did. -/
def fnExactStateFactSpec : ChangeSpec := { name := "fnExactStateFact", vars := ["loop.example/g00594/impl.errNoKey"], fn := fun _ => fun
  | [d1, d2, g1] => { results := [.lit (.bool true)], args := [d1, d2], vars := [g1] }
  | _ => none }
def fnExactStateFactRow : OpenClaim := { program := "ytmmnajlncmnnhaadoor", sum := "9820577bb0e0370b18753ca4fd0adde238f5b92444e4ec82b3b240cd43d73beb", func := "loop.example/g00594/laws.FnExactStateFact", spec := "fnExactStateFact", inPlace := ["internal/reflectlite.TypeOf"], unfollowed := true, recurses := true, named := ["loop.example/g00594/impl.errNoKey"], ifaces := true, apart := false, laid := [("loop.example/g00594/impl.errNoKey", laid_loop_example_g00594_impl_errNoKey)] }
def FnExactStateFactSaid : Prop := fnExactStateFactRow.holds Tryd.pinned (OpenSpec.ofChange fnExactStateFactSpec)

/-- ITS FALSE NEIGHBOUR: 'it returns false'. Refute it at one input. -/
def fnExactStateFactWrong : ChangeSpec := { name := "fnExactStateFact", vars := ["loop.example/g00594/impl.errNoKey"], fn := fun _ => fun
  | [d1, d2, g1] => { results := [.lit (.bool false)], args := [d1, d2], vars := [g1] }
  | _ => none }
def FnExactStateFactWrongFalsely : Prop := fnExactStateFactRow.holds Tryd.pinned (OpenSpec.ofChange fnExactStateFactWrong)

/- THE SECOND FORM. 'bulk': how many values and letters a reading holds, each counted each time it is reached (what is shared counts as often as it is met; a slice's spare places count too). A statement '..UptoSaid' is the law's where the arguments, and the package variables that the reading takes, are together of bulk at most 1048576: NARROWER than '..Said'. Prove '..Said' where nothing that the law and all that it calls make is longer than what came in: it says more and counts as full. Else prove '..UptoSaid'. A law counts once. -/
mutual
def uptoBulk {H : Type} : DataW H → Nat
  | .lit (.string bytes) => bytes.length + 1
  | .lit _ => 1
  | .nil => 1
  | .ptr d => uptoBulk d + 1
  | .slice elems spare => uptoBulkAll elems + uptoBulkAll spare + 1
  | .agg parts => uptoBulkAll parts + 1
  | .iface _ d => uptoBulk d + 1
  | .map entries => uptoBulkEntries entries + 1
  | .held _ => 1
def uptoBulkAll {H : Type} : List (DataW H) → Nat
  | [] => 0
  | d :: r => uptoBulk d + uptoBulkAll r
def uptoBulkEntries {H : Type} : List (Lit × DataW H) → Nat
  | [] => 0
  | x :: r => uptoBulkEntry x + uptoBulkEntries r
def uptoBulkEntry {H : Type} : Lit × DataW H → Nat
  | (.string bytes, d) => bytes.length + uptoBulk d + 1
  | (_, d) => uptoBulk d + 1
 end
def uptoSmall : (H : Type) → List (DataW H) → Bool := fun _ ds => decide (uptoBulkAll ds ≤ 1048576)
def OpenSpec.upto (s : _root_.Go.ChangeSpec) : _root_.Go.OpenSpec := { _root_.Go.OpenSpec.ofChange s with cond := some uptoSmall }

/-- 'laws.FnExactIsIssuer', WHERE WHAT IT READS IS OF BULK AT MOST 1048576: true; the input reads as it did. -/
def fnExactIsIssuerUptoRow : OpenClaim := { program := "ytmmnajlncmnnhaadoor", sum := "9820577bb0e0370b18753ca4fd0adde238f5b92444e4ec82b3b240cd43d73beb", func := "loop.example/g00594/laws.FnExactIsIssuer", spec := "fnExactIsIssuer", inPlace := ["internal/reflectlite.TypeOf"], unfollowed := true, recurses := true, named := ["loop.example/g00594/impl.errNoKey"], ifaces := true, apart := false, laid := [("loop.example/g00594/impl.errNoKey", laid_loop_example_g00594_impl_errNoKey)], narrowed := true }
def FnExactIsIssuerUptoSaid : Prop := fnExactIsIssuerUptoRow.holds Tryd.pinned (OpenSpec.upto fnExactIsIssuerSpec)

/-- 'laws.FnExactAreIssuers', WHERE WHAT IT READS IS OF BULK AT MOST 1048576: true; the input reads as it did. -/
def fnExactAreIssuersUptoRow : OpenClaim := { program := "ytmmnajlncmnnhaadoor", sum := "9820577bb0e0370b18753ca4fd0adde238f5b92444e4ec82b3b240cd43d73beb", func := "loop.example/g00594/laws.FnExactAreIssuers", spec := "fnExactAreIssuers", inPlace := ["internal/reflectlite.TypeOf"], unfollowed := true, recurses := true, named := ["loop.example/g00594/impl.errNoKey"], ifaces := true, apart := false, laid := [("loop.example/g00594/impl.errNoKey", laid_loop_example_g00594_impl_errNoKey)], narrowed := true }
def FnExactAreIssuersUptoSaid : Prop := fnExactAreIssuersUptoRow.holds Tryd.pinned (OpenSpec.upto fnExactAreIssuersSpec)

/-- 'laws.FnExactStateFact', WHERE WHAT IT READS IS OF BULK AT MOST 1048576: true; the input reads as it did. -/
def fnExactStateFactUptoRow : OpenClaim := { program := "ytmmnajlncmnnhaadoor", sum := "9820577bb0e0370b18753ca4fd0adde238f5b92444e4ec82b3b240cd43d73beb", func := "loop.example/g00594/laws.FnExactStateFact", spec := "fnExactStateFact", inPlace := ["internal/reflectlite.TypeOf"], unfollowed := true, recurses := true, named := ["loop.example/g00594/impl.errNoKey"], ifaces := true, apart := false, laid := [("loop.example/g00594/impl.errNoKey", laid_loop_example_g00594_impl_errNoKey)], narrowed := true }
def FnExactStateFactUptoSaid : Prop := fnExactStateFactUptoRow.holds Tryd.pinned (OpenSpec.upto fnExactStateFactSpec)

end Rows
end Go.Proofs.YtmmnajlncmnnhaaDoor
