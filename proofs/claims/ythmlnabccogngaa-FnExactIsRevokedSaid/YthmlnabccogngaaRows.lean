/-
  No cell of these rows narrows 'for every input' (looked for: loops, veiled, ifaces, maps, wideKeys, modest, calm, conditions, laid).
  DERIVED. THE GIVEN ROWS OF THIS SEAT. 6 by the template 'for every input the law returns true; each argument reads behind the call as it read before'; 0 by the template 'total and deterministic' (their statements: YthmlnabccogngaaTotals.lean).
  GIVEN WITH THE SEED: the statements are not yours to turn. If you find one false, say at which input.
  Laid BY PROGRAM, IN A SANDBOX (cutbox-rows.mjs): the forced cells as the released guide's own fill.sh prints them over the translation fe3dac69e427d128… (all of the seat's roots in one cut). By AI agents, Wed Nov 11 2026. No macro, syntax, notation, axiom, sorry.
-/
import Derived.Test.YthmlnabccogngaaChecked
import GoSem.Claim
import GoSem.ClaimJoined
import GoSem.ClaimMapViews
import Derived.JoinedTies
import Derived.KernelRfl
namespace Go.Proofs.Ythmlnabccogngaa
/- THE CELL 'sum', in the pinned program and in every row, IS THE sha256 OF THE DUMP (.gsa) THAT YthmlnabccogngaaProg.lean LOADS. Nothing in Lean hashes anything: it is a label: what it is worth is what the hold of that sum in a sandbox is worth. -/
noncomputable def Try.pinned : Pinned := { name := "ythmlnabccogngaa", sum := "fe3dac69e427d1288b0e3c6a88bdb9468abf274b8db5b636deb92bd7e4ce5cd1", checked := Try.checked }
namespace Rows
def none {H : Type} : Left H := { results := [], args := [] }

/-- 'laws.FnExactAreRevoked': WHATEVER THE INPUT: true; the input reads as it did. -/
def fnExactAreRevokedSpec : ChangeSpec := { name := "fnExactAreRevoked", fn := fun _ => fun
  | [d] => { results := [.lit (.bool true)], args := [d] }
  | _ => none }
def fnExactAreRevokedRow : OpenClaim := { program := "ythmlnabccogngaa", sum := "fe3dac69e427d1288b0e3c6a88bdb9468abf274b8db5b636deb92bd7e4ce5cd1", func := "loop.example/g00594/laws.FnExactAreRevoked", spec := "fnExactAreRevoked", apart := false }
def FnExactAreRevokedSaid : Prop := fnExactAreRevokedRow.holds Try.pinned (OpenSpec.ofChange fnExactAreRevokedSpec)

/-- ITS FALSE NEIGHBOUR: 'it returns false'. Refute it at one input. -/
def fnExactAreRevokedWrong : ChangeSpec := { name := "fnExactAreRevoked", fn := fun _ => fun
  | [d] => { results := [.lit (.bool false)], args := [d] }
  | _ => none }
def FnExactAreRevokedWrongFalsely : Prop := fnExactAreRevokedRow.holds Try.pinned (OpenSpec.ofChange fnExactAreRevokedWrong)

/-- 'laws.FnExactAddRevoked': WHATEVER THE INPUT: true; the input reads as it did. -/
def fnExactAddRevokedSpec : ChangeSpec := { name := "fnExactAddRevoked", fn := fun _ => fun
  | [d1, d2, d3] => { results := [.lit (.bool true)], args := [d1, d2, d3] }
  | _ => none }
def fnExactAddRevokedRow : OpenClaim := { program := "ythmlnabccogngaa", sum := "fe3dac69e427d1288b0e3c6a88bdb9468abf274b8db5b636deb92bd7e4ce5cd1", func := "loop.example/g00594/laws.FnExactAddRevoked", spec := "fnExactAddRevoked", inPlace := ["slices.overlaps[loop.example/g00594/impl.Revoked]"], unfollowed := true, recurses := true, apart := false }
def FnExactAddRevokedSaid : Prop := fnExactAddRevokedRow.holds Try.pinned (OpenSpec.ofChange fnExactAddRevokedSpec)

/-- ITS FALSE NEIGHBOUR: 'it returns false'. Refute it at one input. -/
def fnExactAddRevokedWrong : ChangeSpec := { name := "fnExactAddRevoked", fn := fun _ => fun
  | [d1, d2, d3] => { results := [.lit (.bool false)], args := [d1, d2, d3] }
  | _ => none }
def FnExactAddRevokedWrongFalsely : Prop := fnExactAddRevokedRow.holds Try.pinned (OpenSpec.ofChange fnExactAddRevokedWrong)

/-- 'laws.FnExactRevokedAt': WHATEVER THE INPUT: true; the input reads as it did. -/
def fnExactRevokedAtSpec : ChangeSpec := { name := "fnExactRevokedAt", fn := fun _ => fun
  | [d1, d2] => { results := [.lit (.bool true)], args := [d1, d2] }
  | _ => none }
def fnExactRevokedAtRow : OpenClaim := { program := "ythmlnabccogngaa", sum := "fe3dac69e427d1288b0e3c6a88bdb9468abf274b8db5b636deb92bd7e4ce5cd1", func := "loop.example/g00594/laws.FnExactRevokedAt", spec := "fnExactRevokedAt", apart := false }
def FnExactRevokedAtSaid : Prop := fnExactRevokedAtRow.holds Try.pinned (OpenSpec.ofChange fnExactRevokedAtSpec)

/-- ITS FALSE NEIGHBOUR: 'it returns false'. Refute it at one input. -/
def fnExactRevokedAtWrong : ChangeSpec := { name := "fnExactRevokedAt", fn := fun _ => fun
  | [d1, d2] => { results := [.lit (.bool false)], args := [d1, d2] }
  | _ => none }
def FnExactRevokedAtWrongFalsely : Prop := fnExactRevokedAtRow.holds Try.pinned (OpenSpec.ofChange fnExactRevokedAtWrong)

/-- 'laws.FnExactIsRevoked': WHATEVER THE INPUT: true; the input reads as it did. -/
def fnExactIsRevokedSpec : ChangeSpec := { name := "fnExactIsRevoked", fn := fun _ => fun
  | [d1, d2, d3] => { results := [.lit (.bool true)], args := [d1, d2, d3] }
  | _ => none }
def fnExactIsRevokedRow : OpenClaim := { program := "ythmlnabccogngaa", sum := "fe3dac69e427d1288b0e3c6a88bdb9468abf274b8db5b636deb92bd7e4ce5cd1", func := "loop.example/g00594/laws.FnExactIsRevoked", spec := "fnExactIsRevoked", apart := false }
def FnExactIsRevokedSaid : Prop := fnExactIsRevokedRow.holds Try.pinned (OpenSpec.ofChange fnExactIsRevokedSpec)

/-- ITS FALSE NEIGHBOUR: 'it returns false'. Refute it at one input. -/
def fnExactIsRevokedWrong : ChangeSpec := { name := "fnExactIsRevoked", fn := fun _ => fun
  | [d1, d2, d3] => { results := [.lit (.bool false)], args := [d1, d2, d3] }
  | _ => none }
def FnExactIsRevokedWrongFalsely : Prop := fnExactIsRevokedRow.holds Try.pinned (OpenSpec.ofChange fnExactIsRevokedWrong)

/-- 'laws.FnExactMergeRevoked': WHATEVER THE INPUT: true; the input reads as it did. -/
def fnExactMergeRevokedSpec : ChangeSpec := { name := "fnExactMergeRevoked", fn := fun _ => fun
  | [d1, d2] => { results := [.lit (.bool true)], args := [d1, d2] }
  | _ => none }
def fnExactMergeRevokedRow : OpenClaim := { program := "ythmlnabccogngaa", sum := "fe3dac69e427d1288b0e3c6a88bdb9468abf274b8db5b636deb92bd7e4ce5cd1", func := "loop.example/g00594/laws.FnExactMergeRevoked", spec := "fnExactMergeRevoked", inPlace := ["slices.overlaps[loop.example/g00594/impl.Revoked]"], unfollowed := true, recurses := true, apart := false }
def FnExactMergeRevokedSaid : Prop := fnExactMergeRevokedRow.holds Try.pinned (OpenSpec.ofChange fnExactMergeRevokedSpec)

/-- ITS FALSE NEIGHBOUR: 'it returns false'. Refute it at one input. -/
def fnExactMergeRevokedWrong : ChangeSpec := { name := "fnExactMergeRevoked", fn := fun _ => fun
  | [d1, d2] => { results := [.lit (.bool false)], args := [d1, d2] }
  | _ => none }
def FnExactMergeRevokedWrongFalsely : Prop := fnExactMergeRevokedRow.holds Try.pinned (OpenSpec.ofChange fnExactMergeRevokedWrong)

/-- 'laws.FnExactKnowsMore': WHATEVER THE INPUT: true; the input reads as it did. -/
def fnExactKnowsMoreSpec : ChangeSpec := { name := "fnExactKnowsMore", fn := fun _ => fun
  | [d1, d2] => { results := [.lit (.bool true)], args := [d1, d2] }
  | _ => none }
def fnExactKnowsMoreRow : OpenClaim := { program := "ythmlnabccogngaa", sum := "fe3dac69e427d1288b0e3c6a88bdb9468abf274b8db5b636deb92bd7e4ce5cd1", func := "loop.example/g00594/laws.FnExactKnowsMore", spec := "fnExactKnowsMore", apart := false }
def FnExactKnowsMoreSaid : Prop := fnExactKnowsMoreRow.holds Try.pinned (OpenSpec.ofChange fnExactKnowsMoreSpec)

/-- ITS FALSE NEIGHBOUR: 'it returns false'. Refute it at one input. -/
def fnExactKnowsMoreWrong : ChangeSpec := { name := "fnExactKnowsMore", fn := fun _ => fun
  | [d1, d2] => { results := [.lit (.bool false)], args := [d1, d2] }
  | _ => none }
def FnExactKnowsMoreWrongFalsely : Prop := fnExactKnowsMoreRow.holds Try.pinned (OpenSpec.ofChange fnExactKnowsMoreWrong)

/- THE SECOND FORM. 'bulk': how many values and letters a reading holds, each counted each time it is reached (what is shared counts as often as it is met; a slice's spare places count too). A statement '..UptoSaid' is the law's where the arguments, and the package variables that the reading takes, are together of bulk at most 1048576: NARROWER than '..Said'. Prove '..Said' where nothing that the law and all that it calls make is longer than what came in: it says more and counts as full. Else prove '..UptoSaid'. A law counts once. -/
mutual
def uptoBulk {H : Type} : DataW H → Nat
  | .lit (.string bytes) => bytes.length + 1
  | .lit _ => 1
  | .nil => 1
  | .ptr d => uptoBulk d + 1
  | .slice elems spare => uptoBulkAll elems + uptoBulkAll spare + 1
  | .agg parts => uptoBulkAll parts + 1
  | .iface _ d => uptoBulk d + 1
  | .map entries => uptoBulkEntries entries + 1
  | .held _ => 1
def uptoBulkAll {H : Type} : List (DataW H) → Nat
  | [] => 0
  | d :: r => uptoBulk d + uptoBulkAll r
def uptoBulkEntries {H : Type} : List (Lit × DataW H) → Nat
  | [] => 0
  | x :: r => uptoBulkEntry x + uptoBulkEntries r
def uptoBulkEntry {H : Type} : Lit × DataW H → Nat
  | (.string bytes, d) => bytes.length + uptoBulk d + 1
  | (_, d) => uptoBulk d + 1
 end
def uptoSmall : (H : Type) → List (DataW H) → Bool := fun _ ds => decide (uptoBulkAll ds ≤ 1048576)
def OpenSpec.upto (s : _root_.Go.ChangeSpec) : _root_.Go.OpenSpec := { _root_.Go.OpenSpec.ofChange s with cond := some uptoSmall }

/-- 'laws.FnExactAreRevoked', WHERE WHAT IT READS IS OF BULK AT MOST 1048576: true; the input reads as it did. -/
def fnExactAreRevokedUptoRow : OpenClaim := { program := "ythmlnabccogngaa", sum := "fe3dac69e427d1288b0e3c6a88bdb9468abf274b8db5b636deb92bd7e4ce5cd1", func := "loop.example/g00594/laws.FnExactAreRevoked", spec := "fnExactAreRevoked", apart := false, narrowed := true }
def FnExactAreRevokedUptoSaid : Prop := fnExactAreRevokedUptoRow.holds Try.pinned (OpenSpec.upto fnExactAreRevokedSpec)

/-- 'laws.FnExactAddRevoked', WHERE WHAT IT READS IS OF BULK AT MOST 1048576: true; the input reads as it did. -/
def fnExactAddRevokedUptoRow : OpenClaim := { program := "ythmlnabccogngaa", sum := "fe3dac69e427d1288b0e3c6a88bdb9468abf274b8db5b636deb92bd7e4ce5cd1", func := "loop.example/g00594/laws.FnExactAddRevoked", spec := "fnExactAddRevoked", inPlace := ["slices.overlaps[loop.example/g00594/impl.Revoked]"], unfollowed := true, recurses := true, apart := false, narrowed := true }
def FnExactAddRevokedUptoSaid : Prop := fnExactAddRevokedUptoRow.holds Try.pinned (OpenSpec.upto fnExactAddRevokedSpec)

/-- 'laws.FnExactRevokedAt', WHERE WHAT IT READS IS OF BULK AT MOST 1048576: true; the input reads as it did. -/
def fnExactRevokedAtUptoRow : OpenClaim := { program := "ythmlnabccogngaa", sum := "fe3dac69e427d1288b0e3c6a88bdb9468abf274b8db5b636deb92bd7e4ce5cd1", func := "loop.example/g00594/laws.FnExactRevokedAt", spec := "fnExactRevokedAt", apart := false, narrowed := true }
def FnExactRevokedAtUptoSaid : Prop := fnExactRevokedAtUptoRow.holds Try.pinned (OpenSpec.upto fnExactRevokedAtSpec)

/-- 'laws.FnExactIsRevoked', WHERE WHAT IT READS IS OF BULK AT MOST 1048576: true; the input reads as it did. -/
def fnExactIsRevokedUptoRow : OpenClaim := { program := "ythmlnabccogngaa", sum := "fe3dac69e427d1288b0e3c6a88bdb9468abf274b8db5b636deb92bd7e4ce5cd1", func := "loop.example/g00594/laws.FnExactIsRevoked", spec := "fnExactIsRevoked", apart := false, narrowed := true }
def FnExactIsRevokedUptoSaid : Prop := fnExactIsRevokedUptoRow.holds Try.pinned (OpenSpec.upto fnExactIsRevokedSpec)

/-- 'laws.FnExactMergeRevoked', WHERE WHAT IT READS IS OF BULK AT MOST 1048576: true; the input reads as it did. -/
def fnExactMergeRevokedUptoRow : OpenClaim := { program := "ythmlnabccogngaa", sum := "fe3dac69e427d1288b0e3c6a88bdb9468abf274b8db5b636deb92bd7e4ce5cd1", func := "loop.example/g00594/laws.FnExactMergeRevoked", spec := "fnExactMergeRevoked", inPlace := ["slices.overlaps[loop.example/g00594/impl.Revoked]"], unfollowed := true, recurses := true, apart := false, narrowed := true }
def FnExactMergeRevokedUptoSaid : Prop := fnExactMergeRevokedUptoRow.holds Try.pinned (OpenSpec.upto fnExactMergeRevokedSpec)

/-- 'laws.FnExactKnowsMore', WHERE WHAT IT READS IS OF BULK AT MOST 1048576: true; the input reads as it did. -/
def fnExactKnowsMoreUptoRow : OpenClaim := { program := "ythmlnabccogngaa", sum := "fe3dac69e427d1288b0e3c6a88bdb9468abf274b8db5b636deb92bd7e4ce5cd1", func := "loop.example/g00594/laws.FnExactKnowsMore", spec := "fnExactKnowsMore", apart := false, narrowed := true }
def FnExactKnowsMoreUptoSaid : Prop := fnExactKnowsMoreUptoRow.holds Try.pinned (OpenSpec.upto fnExactKnowsMoreSpec)

end Rows
end Go.Proofs.Ythmlnabccogngaa
