/-
  NARROWER THAN 'FOR EVERY INPUT', by the rows' own cells (each row's printed sentence says how): FnIssuers: ifaces, laid · FnExactTakeStated: ifaces, laid.
  DERIVED. THE GIVEN ROWS OF THIS SEAT. 2 by the template 'for every input the law returns true; each argument reads behind the call as it read before'; 0 by the template 'total and deterministic' (their statements: YtjfmmingkciapaaGreatDoorTotals.lean).
  GIVEN WITH THE SEED: the statements are not yours to turn. If you find one false, say at which input.
  Laid BY PROGRAM, IN A SANDBOX (cutbox-rows.mjs): the forced cells as the released guide's own fill.sh prints them over the translation 0d3b3ddaa3d83395… (all of the seat's roots in one cut). By AI agents, Wed Nov 11 2026. No macro, syntax, notation, axiom, sorry.
-/
import Derived.Test.YtjfmmingkciapaaGreatDoorChecked
import GoSem.Claim
import GoSem.ClaimJoined
import GoSem.ClaimMapViews
import Derived.JoinedTies
import Derived.KernelRfl
namespace Go.Proofs.YtjfmmingkciapaaGreatDoor
/- THE CELL 'sum', in the pinned program and in every row, IS THE sha256 OF THE DUMP (.gsa) THAT YtjfmmingkciapaaGreatDoorProg.lean LOADS. Nothing in Lean hashes anything: it is a label: what it is worth is what the hold of that sum in a sandbox is worth. -/
noncomputable def Tryz.pinned : Pinned := { name := "ytjfmmingkciapaagreatdoor", sum := "0d3b3ddaa3d83395f4547f874ec3621adaba6b19c1271eaa9073d769c7b42cf3", checked := Tryz.checked }
namespace Rows
def none {H : Type} : Left H := { results := [], args := [] }

/- WHAT THE LISTED PACKAGE-LEVEL VARIABLES READ AS WHEN THE CALL BEGINS. Each datum BY PROGRAM (the guide's laid-datum.mjs) off the statement by which the dump's own 'gosem.cut.vars' lays the variable. In a bare row this is a premise. The card (YtjfmmingkciapaaGreatDoorCards.lean) ties it to the program's text. -/
def laid_loop_example_g00594_impl_errNoKey {H : Type} : DataW H := .iface "*errors.errorString" (.ptr (.agg [.lit (.string [110, 111, 116, 32, 97, 32, 107, 101, 121])]))

/-- 'laws.FnIssuers': WHATEVER THE INPUT: true; the input reads as it did. -/
def fnIssuersSpec : ChangeSpec := { name := "fnIssuers", vars := ["loop.example/g00594/impl.errNoKey"], fn := fun _ => fun
  | [d, g1] => { results := [.lit (.bool true)], args := [d], vars := [g1] }
  | _ => none }
def fnIssuersRow : OpenClaim := { program := "ytjfmmingkciapaagreatdoor", sum := "0d3b3ddaa3d83395f4547f874ec3621adaba6b19c1271eaa9073d769c7b42cf3", func := "loop.example/g00594/laws.FnIssuers", spec := "fnIssuers", inPlace := ["internal/reflectlite.TypeOf", "slices.overlaps[loop.example/g00594/impl.Fact]"], unfollowed := true, recurses := true, named := ["loop.example/g00594/impl.errNoKey"], ifaces := true, plainKeys := false, apart := false, laid := [("loop.example/g00594/impl.errNoKey", laid_loop_example_g00594_impl_errNoKey)] }
def FnIssuersSaid : Prop := fnIssuersRow.holds Tryz.pinned (OpenSpec.ofChange fnIssuersSpec)

/-- ITS FALSE NEIGHBOUR: 'it returns false'. Refute it at one input. -/
def fnIssuersWrong : ChangeSpec := { name := "fnIssuers", vars := ["loop.example/g00594/impl.errNoKey"], fn := fun _ => fun
  | [d, g1] => { results := [.lit (.bool false)], args := [d], vars := [g1] }
  | _ => none }
def FnIssuersWrongFalsely : Prop := fnIssuersRow.holds Tryz.pinned (OpenSpec.ofChange fnIssuersWrong)

/-- 'laws.FnExactTakeStated': WHATEVER THE INPUT: true; the input reads as it did. -/
def fnExactTakeStatedSpec : ChangeSpec := { name := "fnExactTakeStated", vars := ["loop.example/g00594/impl.errNoKey"], fn := fun _ => fun
  | [d1, d2, d3, g1] => { results := [.lit (.bool true)], args := [d1, d2, d3], vars := [g1] }
  | _ => none }
def fnExactTakeStatedRow : OpenClaim := { program := "ytjfmmingkciapaagreatdoor", sum := "0d3b3ddaa3d83395f4547f874ec3621adaba6b19c1271eaa9073d769c7b42cf3", func := "loop.example/g00594/laws.FnExactTakeStated", spec := "fnExactTakeStated", inPlace := ["internal/reflectlite.TypeOf", "slices.overlaps[loop.example/g00594/impl.Fact]"], unfollowed := true, recurses := true, named := ["loop.example/g00594/impl.errNoKey"], ifaces := true, plainKeys := false, apart := false, laid := [("loop.example/g00594/impl.errNoKey", laid_loop_example_g00594_impl_errNoKey)] }
def FnExactTakeStatedSaid : Prop := fnExactTakeStatedRow.holds Tryz.pinned (OpenSpec.ofChange fnExactTakeStatedSpec)

/-- ITS FALSE NEIGHBOUR: 'it returns false'. Refute it at one input. -/
def fnExactTakeStatedWrong : ChangeSpec := { name := "fnExactTakeStated", vars := ["loop.example/g00594/impl.errNoKey"], fn := fun _ => fun
  | [d1, d2, d3, g1] => { results := [.lit (.bool false)], args := [d1, d2, d3], vars := [g1] }
  | _ => none }
def FnExactTakeStatedWrongFalsely : Prop := fnExactTakeStatedRow.holds Tryz.pinned (OpenSpec.ofChange fnExactTakeStatedWrong)

/- THE SECOND FORM. 'bulk': how many values and letters a reading holds, each counted each time it is reached (what is shared counts as often as it is met; a slice's spare places count too). A statement '..UptoSaid' is the law's where the arguments, and the package variables that the reading takes, are together of bulk at most 1048576: NARROWER than '..Said'. Prove '..Said' where nothing that the law and all that it calls make is longer than what came in: it says more and counts as full. Else prove '..UptoSaid'. A law counts once. -/
mutual
def uptoBulk {H : Type} : DataW H → Nat
  | .lit (.string bytes) => bytes.length + 1
  | .lit _ => 1
  | .nil => 1
  | .ptr d => uptoBulk d + 1
  | .slice elems spare => uptoBulkAll elems + uptoBulkAll spare + 1
  | .agg parts => uptoBulkAll parts + 1
  | .iface _ d => uptoBulk d + 1
  | .map entries => uptoBulkEntries entries + 1
  | .held _ => 1
def uptoBulkAll {H : Type} : List (DataW H) → Nat
  | [] => 0
  | d :: r => uptoBulk d + uptoBulkAll r
def uptoBulkEntries {H : Type} : List (Lit × DataW H) → Nat
  | [] => 0
  | x :: r => uptoBulkEntry x + uptoBulkEntries r
def uptoBulkEntry {H : Type} : Lit × DataW H → Nat
  | (.string bytes, d) => bytes.length + uptoBulk d + 1
  | (_, d) => uptoBulk d + 1
 end
def uptoSmall : (H : Type) → List (DataW H) → Bool := fun _ ds => decide (uptoBulkAll ds ≤ 1048576)
def OpenSpec.upto (s : _root_.Go.ChangeSpec) : _root_.Go.OpenSpec := { _root_.Go.OpenSpec.ofChange s with cond := some uptoSmall }

/-- 'laws.FnIssuers', WHERE WHAT IT READS IS OF BULK AT MOST 1048576: true; the input reads as it did. -/
def fnIssuersUptoRow : OpenClaim := { program := "ytjfmmingkciapaagreatdoor", sum := "0d3b3ddaa3d83395f4547f874ec3621adaba6b19c1271eaa9073d769c7b42cf3", func := "loop.example/g00594/laws.FnIssuers", spec := "fnIssuers", inPlace := ["internal/reflectlite.TypeOf", "slices.overlaps[loop.example/g00594/impl.Fact]"], unfollowed := true, recurses := true, named := ["loop.example/g00594/impl.errNoKey"], ifaces := true, plainKeys := false, apart := false, laid := [("loop.example/g00594/impl.errNoKey", laid_loop_example_g00594_impl_errNoKey)], narrowed := true }
def FnIssuersUptoSaid : Prop := fnIssuersUptoRow.holds Tryz.pinned (OpenSpec.upto fnIssuersSpec)

/-- 'laws.FnExactTakeStated', WHERE WHAT IT READS IS OF BULK AT MOST 1048576: true; the input reads as it did. -/
def fnExactTakeStatedUptoRow : OpenClaim := { program := "ytjfmmingkciapaagreatdoor", sum := "0d3b3ddaa3d83395f4547f874ec3621adaba6b19c1271eaa9073d769c7b42cf3", func := "loop.example/g00594/laws.FnExactTakeStated", spec := "fnExactTakeStated", inPlace := ["internal/reflectlite.TypeOf", "slices.overlaps[loop.example/g00594/impl.Fact]"], unfollowed := true, recurses := true, named := ["loop.example/g00594/impl.errNoKey"], ifaces := true, plainKeys := false, apart := false, laid := [("loop.example/g00594/impl.errNoKey", laid_loop_example_g00594_impl_errNoKey)], narrowed := true }
def FnExactTakeStatedUptoSaid : Prop := fnExactTakeStatedUptoRow.holds Tryz.pinned (OpenSpec.upto fnExactTakeStatedSpec)

end Rows
end Go.Proofs.YtjfmmingkciapaaGreatDoor
