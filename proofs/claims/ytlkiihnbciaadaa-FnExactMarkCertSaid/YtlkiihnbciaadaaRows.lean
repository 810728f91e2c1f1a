/-
  No cell of these rows narrows 'for every input' (looked for: loops, veiled, ifaces, maps, wideKeys, modest, calm, conditions, laid).
  DERIVED. THE GIVEN ROWS OF THIS SEAT. 2 by the template 'for every input the law returns true; each argument reads behind the call as it read before'; 0 by the template 'total and deterministic' (their statements: YtlkiihnbciaadaaTotals.lean).
  GIVEN WITH THE SEED: the statements are not yours to turn. If you find one false, say at which input.
  Laid BY PROGRAM, IN A SANDBOX (cutbox-rows.mjs): the forced cells as the released guide's own fill.sh prints them over the translation 051c16b4ed42206b… (all of the seat's roots in one cut). By AI agents, Wed Nov 11 2026. No macro, syntax, notation, axiom, sorry.
-/
import Derived.Test.YtlkiihnbciaadaaChecked
import GoSem.Claim
import GoSem.ClaimJoined
import GoSem.ClaimMapViews
import Derived.JoinedTies
import Derived.KernelRfl
namespace Go.Proofs.Ytlkiihnbciaadaa
/- THE CELL 'sum', in the pinned program and in every row, IS THE sha256 OF THE DUMP (.gsa) THAT YtlkiihnbciaadaaProg.lean LOADS. Nothing in Lean hashes anything: it is a label: what it is worth is what the hold of that sum in a sandbox is worth. -/
noncomputable def Try.pinned : Pinned := { name := "ytlkiihnbciaadaa", sum := "051c16b4ed42206b10659693044698d3c743087b71b6bc607868c19bf06e3a8a", checked := Try.checked }
namespace Rows
def none {H : Type} : Left H := { results := [], args := [] }

/-- 'laws.FnExactMarkCert': WHATEVER THE INPUT: true; the input reads as it did. -/
def fnExactMarkCertSpec : ChangeSpec := { name := "fnExactMarkCert", fn := fun _ => fun
  | [d1, d2] => { results := [.lit (.bool true)], args := [d1, d2] }
  | _ => none }
def fnExactMarkCertRow : OpenClaim := { program := "ytlkiihnbciaadaa", sum := "051c16b4ed42206b10659693044698d3c743087b71b6bc607868c19bf06e3a8a", func := "loop.example/g00594/laws.FnExactMarkCert", spec := "fnExactMarkCert", unfollowed := true, recurses := true, apart := false }
def FnExactMarkCertSaid : Prop := fnExactMarkCertRow.holds Try.pinned (OpenSpec.ofChange fnExactMarkCertSpec)

/-- ITS FALSE NEIGHBOUR: 'it returns false'. Refute it at one input. -/
def fnExactMarkCertWrong : ChangeSpec := { name := "fnExactMarkCert", fn := fun _ => fun
  | [d1, d2] => { results := [.lit (.bool false)], args := [d1, d2] }
  | _ => none }
def FnExactMarkCertWrongFalsely : Prop := fnExactMarkCertRow.holds Try.pinned (OpenSpec.ofChange fnExactMarkCertWrong)

/-- 'laws.FnExactProveKey': WHATEVER THE INPUT: true; the input reads as it did. -/
def fnExactProveKeySpec : ChangeSpec := { name := "fnExactProveKey", fn := fun _ => fun
  | [d1, d2] => { results := [.lit (.bool true)], args := [d1, d2] }
  | _ => none }
def fnExactProveKeyRow : OpenClaim := { program := "ytlkiihnbciaadaa", sum := "051c16b4ed42206b10659693044698d3c743087b71b6bc607868c19bf06e3a8a", func := "loop.example/g00594/laws.FnExactProveKey", spec := "fnExactProveKey", unfollowed := true, recurses := true, apart := false }
def FnExactProveKeySaid : Prop := fnExactProveKeyRow.holds Try.pinned (OpenSpec.ofChange fnExactProveKeySpec)

/-- ITS FALSE NEIGHBOUR: 'it returns false'. Refute it at one input. -/
def fnExactProveKeyWrong : ChangeSpec := { name := "fnExactProveKey", fn := fun _ => fun
  | [d1, d2] => { results := [.lit (.bool false)], args := [d1, d2] }
  | _ => none }
def FnExactProveKeyWrongFalsely : Prop := fnExactProveKeyRow.holds Try.pinned (OpenSpec.ofChange fnExactProveKeyWrong)

/- THE SECOND FORM. 'bulk': how many values and letters a reading holds, each counted each time it is reached (what is shared counts as often as it is met; a slice's spare places count too). A statement '..UptoSaid' is the law's where the arguments, and the package variables that the reading takes, are together of bulk at most 1048576: NARROWER than '..Said'. Prove '..Said' where nothing that the law and all that it calls make is longer than what came in: it says more and counts as full. Else prove '..UptoSaid'. A law counts once. -/
mutual
def uptoBulk {H : Type} : DataW H → Nat
  | .lit (.string bytes) => bytes.length + 1
  | .lit _ => 1
  | .nil => 1
  | .ptr d => uptoBulk d + 1
  | .slice elems spare => uptoBulkAll elems + uptoBulkAll spare + 1
  | .agg parts => uptoBulkAll parts + 1
  | .iface _ d => uptoBulk d + 1
  | .map entries => uptoBulkEntries entries + 1
  | .held _ => 1
def uptoBulkAll {H : Type} : List (DataW H) → Nat
  | [] => 0
  | d :: r => uptoBulk d + uptoBulkAll r
def uptoBulkEntries {H : Type} : List (Lit × DataW H) → Nat
  | [] => 0
  | x :: r => uptoBulkEntry x + uptoBulkEntries r
def uptoBulkEntry {H : Type} : Lit × DataW H → Nat
  | (.string bytes, d) => bytes.length + uptoBulk d + 1
  | (_, d) => uptoBulk d + 1
 end
def uptoSmall : (H : Type) → List (DataW H) → Bool := fun _ ds => decide (uptoBulkAll ds ≤ 1048576)
def OpenSpec.upto (s : _root_.Go.ChangeSpec) : _root_.Go.OpenSpec := { _root_.Go.OpenSpec.ofChange s with cond := some uptoSmall }

/-- 'laws.FnExactMarkCert', WHERE WHAT IT READS IS OF BULK AT MOST 1048576: true; the input reads as it did. -/
def fnExactMarkCertUptoRow : OpenClaim := { program := "ytlkiihnbciaadaa", sum := "051c16b4ed42206b10659693044698d3c743087b71b6bc607868c19bf06e3a8a", func := "loop.example/g00594/laws.FnExactMarkCert", spec := "fnExactMarkCert", unfollowed := true, recurses := true, apart := false, narrowed := true }
def FnExactMarkCertUptoSaid : Prop := fnExactMarkCertUptoRow.holds Try.pinned (OpenSpec.upto fnExactMarkCertSpec)

/-- 'laws.FnExactProveKey', WHERE WHAT IT READS IS OF BULK AT MOST 1048576: true; the input reads as it did. -/
def fnExactProveKeyUptoRow : OpenClaim := { program := "ytlkiihnbciaadaa", sum := "051c16b4ed42206b10659693044698d3c743087b71b6bc607868c19bf06e3a8a", func := "loop.example/g00594/laws.FnExactProveKey", spec := "fnExactProveKey", unfollowed := true, recurses := true, apart := false, narrowed := true }
def FnExactProveKeyUptoSaid : Prop := fnExactProveKeyUptoRow.holds Try.pinned (OpenSpec.upto fnExactProveKeySpec)

end Rows
end Go.Proofs.Ytlkiihnbciaadaa
