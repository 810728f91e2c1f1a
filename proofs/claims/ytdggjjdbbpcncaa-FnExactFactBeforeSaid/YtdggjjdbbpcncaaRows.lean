/-
  No cell of these rows narrows 'for every input' (looked for: loops, veiled, ifaces, maps, wideKeys, modest, calm, conditions, laid).
  DERIVED. THE GIVEN ROWS OF THIS SEAT. 5 by the template 'for every input the law returns true; each argument reads behind the call as it read before'; 0 by the template 'total and deterministic' (their statements: YtdggjjdbbpcncaaTotals.lean).
  GIVEN WITH THE SEED: the statements are not yours to turn. If you find one false, say at which input.
  Laid BY PROGRAM, IN A SANDBOX (cutbox-rows.mjs): the forced cells as the released guide's own fill.sh prints them over the translation 885e09f727bf425b… (all of the seat's roots in one cut). By AI agents, Wed Nov 11 2026. No macro, syntax, notation, axiom, sorry.
-/
import Derived.Test.YtdggjjdbbpcncaaChecked
import GoSem.Claim
import GoSem.ClaimJoined
import GoSem.ClaimMapViews
import Derived.JoinedTies
import Derived.KernelRfl
namespace Go.Proofs.Ytdggjjdbbpcncaa
/- THE CELL 'sum', in the pinned program and in every row, IS THE sha256 OF THE DUMP (.gsa) THAT YtdggjjdbbpcncaaProg.lean LOADS. Nothing in Lean hashes anything: it is a label: what it is worth is what the hold of that sum in a sandbox is worth. -/
noncomputable def Try.pinned : Pinned := { name := "ytdggjjdbbpcncaa", sum := "885e09f727bf425b11c356b81f2b472e1c834e610bcb53f62183d7361d76711a", checked := Try.checked }
namespace Rows
def none {H : Type} : Left H := { results := [], args := [] }

/-- 'laws.FnExactIsFact': WHATEVER THE INPUT: true; the input reads as it did. -/
def fnExactIsFactSpec : ChangeSpec := { name := "fnExactIsFact", fn := fun _ => fun
  | [d] => { results := [.lit (.bool true)], args := [d] }
  | _ => none }
def fnExactIsFactRow : OpenClaim := { program := "ytdggjjdbbpcncaa", sum := "885e09f727bf425b11c356b81f2b472e1c834e610bcb53f62183d7361d76711a", func := "loop.example/g00594/laws.FnExactIsFact", spec := "fnExactIsFact", apart := false }
def FnExactIsFactSaid : Prop := fnExactIsFactRow.holds Try.pinned (OpenSpec.ofChange fnExactIsFactSpec)

/-- ITS FALSE NEIGHBOUR: 'it returns false'. Refute it at one input. -/
def fnExactIsFactWrong : ChangeSpec := { name := "fnExactIsFact", fn := fun _ => fun
  | [d] => { results := [.lit (.bool false)], args := [d] }
  | _ => none }
def FnExactIsFactWrongFalsely : Prop := fnExactIsFactRow.holds Try.pinned (OpenSpec.ofChange fnExactIsFactWrong)

/-- 'laws.FnExactFactName': WHATEVER THE INPUT: true; the input reads as it did. -/
def fnExactFactNameSpec : ChangeSpec := { name := "fnExactFactName", fn := fun _ => fun
  | [d] => { results := [.lit (.bool true)], args := [d] }
  | _ => none }
def fnExactFactNameRow : OpenClaim := { program := "ytdggjjdbbpcncaa", sum := "885e09f727bf425b11c356b81f2b472e1c834e610bcb53f62183d7361d76711a", func := "loop.example/g00594/laws.FnExactFactName", spec := "fnExactFactName", apart := false }
def FnExactFactNameSaid : Prop := fnExactFactNameRow.holds Try.pinned (OpenSpec.ofChange fnExactFactNameSpec)

/-- ITS FALSE NEIGHBOUR: 'it returns false'. Refute it at one input. -/
def fnExactFactNameWrong : ChangeSpec := { name := "fnExactFactName", fn := fun _ => fun
  | [d] => { results := [.lit (.bool false)], args := [d] }
  | _ => none }
def FnExactFactNameWrongFalsely : Prop := fnExactFactNameRow.holds Try.pinned (OpenSpec.ofChange fnExactFactNameWrong)

/-- 'laws.FnExactHoldsAt': WHATEVER THE INPUT: true; the input reads as it did. -/
def fnExactHoldsAtSpec : ChangeSpec := { name := "fnExactHoldsAt", fn := fun _ => fun
  | [d1, d2, d3] => { results := [.lit (.bool true)], args := [d1, d2, d3] }
  | _ => none }
def fnExactHoldsAtRow : OpenClaim := { program := "ytdggjjdbbpcncaa", sum := "885e09f727bf425b11c356b81f2b472e1c834e610bcb53f62183d7361d76711a", func := "loop.example/g00594/laws.FnExactHoldsAt", spec := "fnExactHoldsAt", apart := false }
def FnExactHoldsAtSaid : Prop := fnExactHoldsAtRow.holds Try.pinned (OpenSpec.ofChange fnExactHoldsAtSpec)

/-- ITS FALSE NEIGHBOUR: 'it returns false'. Refute it at one input. -/
def fnExactHoldsAtWrong : ChangeSpec := { name := "fnExactHoldsAt", fn := fun _ => fun
  | [d1, d2, d3] => { results := [.lit (.bool false)], args := [d1, d2, d3] }
  | _ => none }
def FnExactHoldsAtWrongFalsely : Prop := fnExactHoldsAtRow.holds Try.pinned (OpenSpec.ofChange fnExactHoldsAtWrong)

/-- 'laws.FnExactSameClaim': WHATEVER THE INPUT: true; the input reads as it did. -/
def fnExactSameClaimSpec : ChangeSpec := { name := "fnExactSameClaim", fn := fun _ => fun
  | [d1, d2] => { results := [.lit (.bool true)], args := [d1, d2] }
  | _ => none }
def fnExactSameClaimRow : OpenClaim := { program := "ytdggjjdbbpcncaa", sum := "885e09f727bf425b11c356b81f2b472e1c834e610bcb53f62183d7361d76711a", func := "loop.example/g00594/laws.FnExactSameClaim", spec := "fnExactSameClaim", apart := false }
def FnExactSameClaimSaid : Prop := fnExactSameClaimRow.holds Try.pinned (OpenSpec.ofChange fnExactSameClaimSpec)

/-- ITS FALSE NEIGHBOUR: 'it returns false'. Refute it at one input. -/
def fnExactSameClaimWrong : ChangeSpec := { name := "fnExactSameClaim", fn := fun _ => fun
  | [d1, d2] => { results := [.lit (.bool false)], args := [d1, d2] }
  | _ => none }
def FnExactSameClaimWrongFalsely : Prop := fnExactSameClaimRow.holds Try.pinned (OpenSpec.ofChange fnExactSameClaimWrong)

/-- 'laws.FnExactFactBefore': WHATEVER THE INPUT: true; the input reads as it did. -/
def fnExactFactBeforeSpec : ChangeSpec := { name := "fnExactFactBefore", fn := fun _ => fun
  | [d1, d2] => { results := [.lit (.bool true)], args := [d1, d2] }
  | _ => none }
def fnExactFactBeforeRow : OpenClaim := { program := "ytdggjjdbbpcncaa", sum := "885e09f727bf425b11c356b81f2b472e1c834e610bcb53f62183d7361d76711a", func := "loop.example/g00594/laws.FnExactFactBefore", spec := "fnExactFactBefore", apart := false }
def FnExactFactBeforeSaid : Prop := fnExactFactBeforeRow.holds Try.pinned (OpenSpec.ofChange fnExactFactBeforeSpec)

/-- ITS FALSE NEIGHBOUR: 'it returns false'. Refute it at one input. -/
def fnExactFactBeforeWrong : ChangeSpec := { name := "fnExactFactBefore", fn := fun _ => fun
  | [d1, d2] => { results := [.lit (.bool false)], args := [d1, d2] }
  | _ => none }
def FnExactFactBeforeWrongFalsely : Prop := fnExactFactBeforeRow.holds Try.pinned (OpenSpec.ofChange fnExactFactBeforeWrong)

/- THE SECOND FORM. 'bulk': how many values and letters a reading holds, each counted each time it is reached (what is shared counts as often as it is met; a slice's spare places count too). A statement '..UptoSaid' is the law's where the arguments, and the package variables that the reading takes, are together of bulk at most 1048576: NARROWER than '..Said'. Prove '..Said' where nothing that the law and all that it calls make is longer than what came in: it says more and counts as full. Else prove '..UptoSaid'. A law counts once. -/
mutual
def uptoBulk {H : Type} : DataW H → Nat
  | .lit (.string bytes) => bytes.length + 1
  | .lit _ => 1
  | .nil => 1
  | .ptr d => uptoBulk d + 1
  | .slice elems spare => uptoBulkAll elems + uptoBulkAll spare + 1
  | .agg parts => uptoBulkAll parts + 1
  | .iface _ d => uptoBulk d + 1
  | .map entries => uptoBulkEntries entries + 1
  | .held _ => 1
def uptoBulkAll {H : Type} : List (DataW H) → Nat
  | [] => 0
  | d :: r => uptoBulk d + uptoBulkAll r
def uptoBulkEntries {H : Type} : List (Lit × DataW H) → Nat
  | [] => 0
  | x :: r => uptoBulkEntry x + uptoBulkEntries r
def uptoBulkEntry {H : Type} : Lit × DataW H → Nat
  | (.string bytes, d) => bytes.length + uptoBulk d + 1
  | (_, d) => uptoBulk d + 1
 end
def uptoSmall : (H : Type) → List (DataW H) → Bool := fun _ ds => decide (uptoBulkAll ds ≤ 1048576)
def OpenSpec.upto (s : _root_.Go.ChangeSpec) : _root_.Go.OpenSpec := { _root_.Go.OpenSpec.ofChange s with cond := some uptoSmall }

/-- 'laws.FnExactIsFact', WHERE WHAT IT READS IS OF BULK AT MOST 1048576: true; the input reads as it did. -/
def fnExactIsFactUptoRow : OpenClaim := { program := "ytdggjjdbbpcncaa", sum := "885e09f727bf425b11c356b81f2b472e1c834e610bcb53f62183d7361d76711a", func := "loop.example/g00594/laws.FnExactIsFact", spec := "fnExactIsFact", apart := false, narrowed := true }
def FnExactIsFactUptoSaid : Prop := fnExactIsFactUptoRow.holds Try.pinned (OpenSpec.upto fnExactIsFactSpec)

/-- 'laws.FnExactFactName', WHERE WHAT IT READS IS OF BULK AT MOST 1048576: true; the input reads as it did. -/
def fnExactFactNameUptoRow : OpenClaim := { program := "ytdggjjdbbpcncaa", sum := "885e09f727bf425b11c356b81f2b472e1c834e610bcb53f62183d7361d76711a", func := "loop.example/g00594/laws.FnExactFactName", spec := "fnExactFactName", apart := false, narrowed := true }
def FnExactFactNameUptoSaid : Prop := fnExactFactNameUptoRow.holds Try.pinned (OpenSpec.upto fnExactFactNameSpec)

/-- 'laws.FnExactHoldsAt', WHERE WHAT IT READS IS OF BULK AT MOST 1048576: true; the input reads as it did. -/
def fnExactHoldsAtUptoRow : OpenClaim := { program := "ytdggjjdbbpcncaa", sum := "885e09f727bf425b11c356b81f2b472e1c834e610bcb53f62183d7361d76711a", func := "loop.example/g00594/laws.FnExactHoldsAt", spec := "fnExactHoldsAt", apart := false, narrowed := true }
def FnExactHoldsAtUptoSaid : Prop := fnExactHoldsAtUptoRow.holds Try.pinned (OpenSpec.upto fnExactHoldsAtSpec)

/-- 'laws.FnExactSameClaim', WHERE WHAT IT READS IS OF BULK AT MOST 1048576: true; the input reads as it did. -/
def fnExactSameClaimUptoRow : OpenClaim := { program := "ytdggjjdbbpcncaa", sum := "885e09f727bf425b11c356b81f2b472e1c834e610bcb53f62183d7361d76711a", func := "loop.example/g00594/laws.FnExactSameClaim", spec := "fnExactSameClaim", apart := false, narrowed := true }
def FnExactSameClaimUptoSaid : Prop := fnExactSameClaimUptoRow.holds Try.pinned (OpenSpec.upto fnExactSameClaimSpec)

/-- 'laws.FnExactFactBefore', WHERE WHAT IT READS IS OF BULK AT MOST 1048576: true; the input reads as it did. -/
def fnExactFactBeforeUptoRow : OpenClaim := { program := "ytdggjjdbbpcncaa", sum := "885e09f727bf425b11c356b81f2b472e1c834e610bcb53f62183d7361d76711a", func := "loop.example/g00594/laws.FnExactFactBefore", spec := "fnExactFactBefore", apart := false, narrowed := true }
def FnExactFactBeforeUptoSaid : Prop := fnExactFactBeforeUptoRow.holds Try.pinned (OpenSpec.upto fnExactFactBeforeSpec)

end Rows
end Go.Proofs.Ytdggjjdbbpcncaa
