/-
  No cell of these rows narrows 'for every input' (looked for: loops, veiled, ifaces, maps, wideKeys, modest, calm, conditions, laid).
  DERIVED. THE GIVEN ROWS OF THIS SEAT. 5 by the template 'for every input the law returns true; each argument reads behind the call as it read before'; 0 by the template 'total and deterministic' (their statements: YtefcihpghjlobaaTotals.lean).
  GIVEN WITH THE SEED: the statements are not yours to turn. If you find one false, say at which input.
  Laid BY PROGRAM, IN A SANDBOX (cutbox-rows.mjs): the forced cells as the released guide's own fill.sh prints them over the translation 7a3f31b87b96eff0… (all of the seat's roots in one cut). By AI agents, Wed Nov 11 2026. No macro, syntax, notation, axiom, sorry.
-/
import Derived.Test.YtefcihpghjlobaaChecked
import GoSem.Claim
import GoSem.ClaimJoined
import GoSem.ClaimMapViews
import Derived.JoinedTies
import Derived.KernelRfl
namespace Go.Proofs.Ytefcihpghjlobaa
/- THE CELL 'sum', in the pinned program and in every row, IS THE sha256 OF THE DUMP (.gsa) THAT YtefcihpghjlobaaProg.lean LOADS. Nothing in Lean hashes anything: it is a label: what it is worth is what the hold of that sum in a sandbox is worth. -/
noncomputable def Try.pinned : Pinned := { name := "ytefcihpghjlobaa", sum := "7a3f31b87b96eff00bace5b5f4fa1eab99e5a173a0903b36e29d5c45559db411", checked := Try.checked }
namespace Rows
def none {H : Type} : Left H := { results := [], args := [] }

/-- 'laws.FnAgreement': WHATEVER THE INPUT: true; the input reads as it did. -/
def fnAgreementSpec : ChangeSpec := { name := "fnAgreement", fn := fun _ => fun
  | [d] => { results := [.lit (.bool true)], args := [d] }
  | _ => none }
def fnAgreementRow : OpenClaim := { program := "ytefcihpghjlobaa", sum := "7a3f31b87b96eff00bace5b5f4fa1eab99e5a173a0903b36e29d5c45559db411", func := "loop.example/g00594/laws.FnAgreement", spec := "fnAgreement", unfollowed := true, recurses := true, apart := false }
def FnAgreementSaid : Prop := fnAgreementRow.holds Try.pinned (OpenSpec.ofChange fnAgreementSpec)

/-- ITS FALSE NEIGHBOUR: 'it returns false'. Refute it at one input. -/
def fnAgreementWrong : ChangeSpec := { name := "fnAgreement", fn := fun _ => fun
  | [d] => { results := [.lit (.bool false)], args := [d] }
  | _ => none }
def FnAgreementWrongFalsely : Prop := fnAgreementRow.holds Try.pinned (OpenSpec.ofChange fnAgreementWrong)

/-- 'laws.FnExactWhoState': WHATEVER THE INPUT: true; the input reads as it did. -/
def fnExactWhoStateSpec : ChangeSpec := { name := "fnExactWhoState", fn := fun _ => fun
  | [d1, d2, d3, d4, d5, d6] => { results := [.lit (.bool true)], args := [d1, d2, d3, d4, d5, d6] }
  | _ => none }
def fnExactWhoStateRow : OpenClaim := { program := "ytefcihpghjlobaa", sum := "7a3f31b87b96eff00bace5b5f4fa1eab99e5a173a0903b36e29d5c45559db411", func := "loop.example/g00594/laws.FnExactWhoState", spec := "fnExactWhoState", unfollowed := true, recurses := true, apart := false }
def FnExactWhoStateSaid : Prop := fnExactWhoStateRow.holds Try.pinned (OpenSpec.ofChange fnExactWhoStateSpec)

/-- ITS FALSE NEIGHBOUR: 'it returns false'. Refute it at one input. -/
def fnExactWhoStateWrong : ChangeSpec := { name := "fnExactWhoState", fn := fun _ => fun
  | [d1, d2, d3, d4, d5, d6] => { results := [.lit (.bool false)], args := [d1, d2, d3, d4, d5, d6] }
  | _ => none }
def FnExactWhoStateWrongFalsely : Prop := fnExactWhoStateRow.holds Try.pinned (OpenSpec.ofChange fnExactWhoStateWrong)

/-- 'laws.FnExactIsAccepted': WHATEVER THE INPUT: true; the input reads as it did. -/
def fnExactIsAcceptedSpec : ChangeSpec := { name := "fnExactIsAccepted", fn := fun _ => fun
  | [d1, d2, d3, d4, d5, d6, d7] => { results := [.lit (.bool true)], args := [d1, d2, d3, d4, d5, d6, d7] }
  | _ => none }
def fnExactIsAcceptedRow : OpenClaim := { program := "ytefcihpghjlobaa", sum := "7a3f31b87b96eff00bace5b5f4fa1eab99e5a173a0903b36e29d5c45559db411", func := "loop.example/g00594/laws.FnExactIsAccepted", spec := "fnExactIsAccepted", unfollowed := true, recurses := true, apart := false }
def FnExactIsAcceptedSaid : Prop := fnExactIsAcceptedRow.holds Try.pinned (OpenSpec.ofChange fnExactIsAcceptedSpec)

/-- ITS FALSE NEIGHBOUR: 'it returns false'. Refute it at one input. -/
def fnExactIsAcceptedWrong : ChangeSpec := { name := "fnExactIsAccepted", fn := fun _ => fun
  | [d1, d2, d3, d4, d5, d6, d7] => { results := [.lit (.bool false)], args := [d1, d2, d3, d4, d5, d6, d7] }
  | _ => none }
def FnExactIsAcceptedWrongFalsely : Prop := fnExactIsAcceptedRow.holds Try.pinned (OpenSpec.ofChange fnExactIsAcceptedWrong)

/-- 'laws.FnExactAcceptedUntil': WHATEVER THE INPUT: true; the input reads as it did. -/
def fnExactAcceptedUntilSpec : ChangeSpec := { name := "fnExactAcceptedUntil", fn := fun _ => fun
  | [d1, d2, d3, d4, d5, d6, d7] => { results := [.lit (.bool true)], args := [d1, d2, d3, d4, d5, d6, d7] }
  | _ => none }
def fnExactAcceptedUntilRow : OpenClaim := { program := "ytefcihpghjlobaa", sum := "7a3f31b87b96eff00bace5b5f4fa1eab99e5a173a0903b36e29d5c45559db411", func := "loop.example/g00594/laws.FnExactAcceptedUntil", spec := "fnExactAcceptedUntil", unfollowed := true, recurses := true, apart := false }
def FnExactAcceptedUntilSaid : Prop := fnExactAcceptedUntilRow.holds Try.pinned (OpenSpec.ofChange fnExactAcceptedUntilSpec)

/-- ITS FALSE NEIGHBOUR: 'it returns false'. Refute it at one input. -/
def fnExactAcceptedUntilWrong : ChangeSpec := { name := "fnExactAcceptedUntil", fn := fun _ => fun
  | [d1, d2, d3, d4, d5, d6, d7] => { results := [.lit (.bool false)], args := [d1, d2, d3, d4, d5, d6, d7] }
  | _ => none }
def FnExactAcceptedUntilWrongFalsely : Prop := fnExactAcceptedUntilRow.holds Try.pinned (OpenSpec.ofChange fnExactAcceptedUntilWrong)

/-- 'laws.FnExactLastOf': WHATEVER THE INPUT: true; the input reads as it did. -/
def fnExactLastOfSpec : ChangeSpec := { name := "fnExactLastOf", fn := fun _ => fun
  | [d1, d2] => { results := [.lit (.bool true)], args := [d1, d2] }
  | _ => none }
def fnExactLastOfRow : OpenClaim := { program := "ytefcihpghjlobaa", sum := "7a3f31b87b96eff00bace5b5f4fa1eab99e5a173a0903b36e29d5c45559db411", func := "loop.example/g00594/laws.FnExactLastOf", spec := "fnExactLastOf", apart := false }
def FnExactLastOfSaid : Prop := fnExactLastOfRow.holds Try.pinned (OpenSpec.ofChange fnExactLastOfSpec)

/-- ITS FALSE NEIGHBOUR: 'it returns false'. Refute it at one input. -/
def fnExactLastOfWrong : ChangeSpec := { name := "fnExactLastOf", fn := fun _ => fun
  | [d1, d2] => { results := [.lit (.bool false)], args := [d1, d2] }
  | _ => none }
def FnExactLastOfWrongFalsely : Prop := fnExactLastOfRow.holds Try.pinned (OpenSpec.ofChange fnExactLastOfWrong)

/- THE SECOND FORM. 'bulk': how many values and letters a reading holds, each counted each time it is reached (what is shared counts as often as it is met; a slice's spare places count too). A statement '..UptoSaid' is the law's where the arguments, and the package variables that the reading takes, are together of bulk at most 1048576: NARROWER than '..Said'. Prove '..Said' where nothing that the law and all that it calls make is longer than what came in: it says more and counts as full. Else prove '..UptoSaid'. A law counts once. -/
mutual
def uptoBulk {H : Type} : DataW H → Nat
  | .lit (.string bytes) => bytes.length + 1
  | .lit _ => 1
  | .nil => 1
  | .ptr d => uptoBulk d + 1
  | .slice elems spare => uptoBulkAll elems + uptoBulkAll spare + 1
  | .agg parts => uptoBulkAll parts + 1
  | .iface _ d => uptoBulk d + 1
  | .map entries => uptoBulkEntries entries + 1
  | .held _ => 1
def uptoBulkAll {H : Type} : List (DataW H) → Nat
  | [] => 0
  | d :: r => uptoBulk d + uptoBulkAll r
def uptoBulkEntries {H : Type} : List (Lit × DataW H) → Nat
  | [] => 0
  | x :: r => uptoBulkEntry x + uptoBulkEntries r
def uptoBulkEntry {H : Type} : Lit × DataW H → Nat
  | (.string bytes, d) => bytes.length + uptoBulk d + 1
  | (_, d) => uptoBulk d + 1
 end
def uptoSmall : (H : Type) → List (DataW H) → Bool := fun _ ds => decide (uptoBulkAll ds ≤ 1048576)
def OpenSpec.upto (s : _root_.Go.ChangeSpec) : _root_.Go.OpenSpec := { _root_.Go.OpenSpec.ofChange s with cond := some uptoSmall }

/-- 'laws.FnAgreement', WHERE WHAT IT READS IS OF BULK AT MOST 1048576: true; the input reads as it did. -/
def fnAgreementUptoRow : OpenClaim := { program := "ytefcihpghjlobaa", sum := "7a3f31b87b96eff00bace5b5f4fa1eab99e5a173a0903b36e29d5c45559db411", func := "loop.example/g00594/laws.FnAgreement", spec := "fnAgreement", unfollowed := true, recurses := true, apart := false, narrowed := true }
def FnAgreementUptoSaid : Prop := fnAgreementUptoRow.holds Try.pinned (OpenSpec.upto fnAgreementSpec)

/-- 'laws.FnExactWhoState', WHERE WHAT IT READS IS OF BULK AT MOST 1048576: true; the input reads as it did. -/
def fnExactWhoStateUptoRow : OpenClaim := { program := "ytefcihpghjlobaa", sum := "7a3f31b87b96eff00bace5b5f4fa1eab99e5a173a0903b36e29d5c45559db411", func := "loop.example/g00594/laws.FnExactWhoState", spec := "fnExactWhoState", unfollowed := true, recurses := true, apart := false, narrowed := true }
def FnExactWhoStateUptoSaid : Prop := fnExactWhoStateUptoRow.holds Try.pinned (OpenSpec.upto fnExactWhoStateSpec)

/-- 'laws.FnExactIsAccepted', WHERE WHAT IT READS IS OF BULK AT MOST 1048576: true; the input reads as it did. -/
def fnExactIsAcceptedUptoRow : OpenClaim := { program := "ytefcihpghjlobaa", sum := "7a3f31b87b96eff00bace5b5f4fa1eab99e5a173a0903b36e29d5c45559db411", func := "loop.example/g00594/laws.FnExactIsAccepted", spec := "fnExactIsAccepted", unfollowed := true, recurses := true, apart := false, narrowed := true }
def FnExactIsAcceptedUptoSaid : Prop := fnExactIsAcceptedUptoRow.holds Try.pinned (OpenSpec.upto fnExactIsAcceptedSpec)

/-- 'laws.FnExactAcceptedUntil', WHERE WHAT IT READS IS OF BULK AT MOST 1048576: true; the input reads as it did. -/
def fnExactAcceptedUntilUptoRow : OpenClaim := { program := "ytefcihpghjlobaa", sum := "7a3f31b87b96eff00bace5b5f4fa1eab99e5a173a0903b36e29d5c45559db411", func := "loop.example/g00594/laws.FnExactAcceptedUntil", spec := "fnExactAcceptedUntil", unfollowed := true, recurses := true, apart := false, narrowed := true }
def FnExactAcceptedUntilUptoSaid : Prop := fnExactAcceptedUntilUptoRow.holds Try.pinned (OpenSpec.upto fnExactAcceptedUntilSpec)

/-- 'laws.FnExactLastOf', WHERE WHAT IT READS IS OF BULK AT MOST 1048576: true; the input reads as it did. -/
def fnExactLastOfUptoRow : OpenClaim := { program := "ytefcihpghjlobaa", sum := "7a3f31b87b96eff00bace5b5f4fa1eab99e5a173a0903b36e29d5c45559db411", func := "loop.example/g00594/laws.FnExactLastOf", spec := "fnExactLastOf", apart := false, narrowed := true }
def FnExactLastOfUptoSaid : Prop := fnExactLastOfUptoRow.holds Try.pinned (OpenSpec.upto fnExactLastOfSpec)

end Rows
end Go.Proofs.Ytefcihpghjlobaa
