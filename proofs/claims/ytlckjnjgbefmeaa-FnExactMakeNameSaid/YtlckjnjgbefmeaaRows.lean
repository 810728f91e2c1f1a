/-
  No cell of these rows narrows 'for every input' (looked for: loops, veiled, ifaces, maps, wideKeys, modest, calm, conditions, laid).
  DERIVED. THE GIVEN ROWS OF THIS SEAT. 5 by the template 'for every input the law returns true; each argument reads behind the call as it read before'; 0 by the template 'total and deterministic' (their statements: YtlckjnjgbefmeaaTotals.lean).
  GIVEN WITH THE SEED: the statements are not yours to turn. If you find one false, say at which input.
  Laid BY PROGRAM, IN A SANDBOX (cutbox-rows.mjs): the forced cells as the released guide's own fill.sh prints them over the translation a2a38dfbddeef840… (all of the seat's roots in one cut). By AI agents, Wed Nov 11 2026. No macro, syntax, notation, axiom, sorry.
-/
import Derived.Test.YtlckjnjgbefmeaaChecked
import GoSem.Claim
import GoSem.ClaimJoined
import GoSem.ClaimMapViews
import Derived.JoinedTies
import Derived.KernelRfl
namespace Go.Proofs.Ytlckjnjgbefmeaa
/- THE CELL 'sum', in the pinned program and in every row, IS THE sha256 OF THE DUMP (.gsa) THAT YtlckjnjgbefmeaaProg.lean LOADS. Nothing in Lean hashes anything: it is a label: what it is worth is what the hold of that sum in a sandbox is worth. -/
noncomputable def Try.pinned : Pinned := { name := "ytlckjnjgbefmeaa", sum := "a2a38dfbddeef840c507795ba4a8183c28446bc1e9c6703ca9ee6214b709caae", checked := Try.checked }
namespace Rows
def none {H : Type} : Left H := { results := [], args := [] }

/-- 'laws.FnExactMakeName': WHATEVER THE INPUT: true; the input reads as it did. -/
def fnExactMakeNameSpec : ChangeSpec := { name := "fnExactMakeName", fn := fun _ => fun
  | [d1, d2] => { results := [.lit (.bool true)], args := [d1, d2] }
  | _ => none }
def fnExactMakeNameRow : OpenClaim := { program := "ytlckjnjgbefmeaa", sum := "a2a38dfbddeef840c507795ba4a8183c28446bc1e9c6703ca9ee6214b709caae", func := "loop.example/g00594/laws.FnExactMakeName", spec := "fnExactMakeName", apart := false }
def FnExactMakeNameSaid : Prop := fnExactMakeNameRow.holds Try.pinned (OpenSpec.ofChange fnExactMakeNameSpec)

/-- ITS FALSE NEIGHBOUR: 'it returns false'. Refute it at one input. -/
def fnExactMakeNameWrong : ChangeSpec := { name := "fnExactMakeName", fn := fun _ => fun
  | [d1, d2] => { results := [.lit (.bool false)], args := [d1, d2] }
  | _ => none }
def FnExactMakeNameWrongFalsely : Prop := fnExactMakeNameRow.holds Try.pinned (OpenSpec.ofChange fnExactMakeNameWrong)

/-- 'laws.FnExactIsName': WHATEVER THE INPUT: true; the input reads as it did. -/
def fnExactIsNameSpec : ChangeSpec := { name := "fnExactIsName", fn := fun _ => fun
  | [d] => { results := [.lit (.bool true)], args := [d] }
  | _ => none }
def fnExactIsNameRow : OpenClaim := { program := "ytlckjnjgbefmeaa", sum := "a2a38dfbddeef840c507795ba4a8183c28446bc1e9c6703ca9ee6214b709caae", func := "loop.example/g00594/laws.FnExactIsName", spec := "fnExactIsName", apart := false }
def FnExactIsNameSaid : Prop := fnExactIsNameRow.holds Try.pinned (OpenSpec.ofChange fnExactIsNameSpec)

/-- ITS FALSE NEIGHBOUR: 'it returns false'. Refute it at one input. -/
def fnExactIsNameWrong : ChangeSpec := { name := "fnExactIsName", fn := fun _ => fun
  | [d] => { results := [.lit (.bool false)], args := [d] }
  | _ => none }
def FnExactIsNameWrongFalsely : Prop := fnExactIsNameRow.holds Try.pinned (OpenSpec.ofChange fnExactIsNameWrong)

/-- 'laws.FnExactKindOf': WHATEVER THE INPUT: true; the input reads as it did. -/
def fnExactKindOfSpec : ChangeSpec := { name := "fnExactKindOf", fn := fun _ => fun
  | [d] => { results := [.lit (.bool true)], args := [d] }
  | _ => none }
def fnExactKindOfRow : OpenClaim := { program := "ytlckjnjgbefmeaa", sum := "a2a38dfbddeef840c507795ba4a8183c28446bc1e9c6703ca9ee6214b709caae", func := "loop.example/g00594/laws.FnExactKindOf", spec := "fnExactKindOf", apart := false }
def FnExactKindOfSaid : Prop := fnExactKindOfRow.holds Try.pinned (OpenSpec.ofChange fnExactKindOfSpec)

/-- ITS FALSE NEIGHBOUR: 'it returns false'. Refute it at one input. -/
def fnExactKindOfWrong : ChangeSpec := { name := "fnExactKindOf", fn := fun _ => fun
  | [d] => { results := [.lit (.bool false)], args := [d] }
  | _ => none }
def FnExactKindOfWrongFalsely : Prop := fnExactKindOfRow.holds Try.pinned (OpenSpec.ofChange fnExactKindOfWrong)

/-- 'laws.FnExactHasKind': WHATEVER THE INPUT: true; the input reads as it did. -/
def fnExactHasKindSpec : ChangeSpec := { name := "fnExactHasKind", fn := fun _ => fun
  | [d1, d2] => { results := [.lit (.bool true)], args := [d1, d2] }
  | _ => none }
def fnExactHasKindRow : OpenClaim := { program := "ytlckjnjgbefmeaa", sum := "a2a38dfbddeef840c507795ba4a8183c28446bc1e9c6703ca9ee6214b709caae", func := "loop.example/g00594/laws.FnExactHasKind", spec := "fnExactHasKind", apart := false }
def FnExactHasKindSaid : Prop := fnExactHasKindRow.holds Try.pinned (OpenSpec.ofChange fnExactHasKindSpec)

/-- ITS FALSE NEIGHBOUR: 'it returns false'. Refute it at one input. -/
def fnExactHasKindWrong : ChangeSpec := { name := "fnExactHasKind", fn := fun _ => fun
  | [d1, d2] => { results := [.lit (.bool false)], args := [d1, d2] }
  | _ => none }
def FnExactHasKindWrongFalsely : Prop := fnExactHasKindRow.holds Try.pinned (OpenSpec.ofChange fnExactHasKindWrong)

/-- 'laws.FnExactParseName': WHATEVER THE INPUT: true; the input reads as it did. -/
def fnExactParseNameSpec : ChangeSpec := { name := "fnExactParseName", fn := fun _ => fun
  | [d] => { results := [.lit (.bool true)], args := [d] }
  | _ => none }
def fnExactParseNameRow : OpenClaim := { program := "ytlckjnjgbefmeaa", sum := "a2a38dfbddeef840c507795ba4a8183c28446bc1e9c6703ca9ee6214b709caae", func := "loop.example/g00594/laws.FnExactParseName", spec := "fnExactParseName", apart := false }
def FnExactParseNameSaid : Prop := fnExactParseNameRow.holds Try.pinned (OpenSpec.ofChange fnExactParseNameSpec)

/-- ITS FALSE NEIGHBOUR: 'it returns false'. Refute it at one input. -/
def fnExactParseNameWrong : ChangeSpec := { name := "fnExactParseName", fn := fun _ => fun
  | [d] => { results := [.lit (.bool false)], args := [d] }
  | _ => none }
def FnExactParseNameWrongFalsely : Prop := fnExactParseNameRow.holds Try.pinned (OpenSpec.ofChange fnExactParseNameWrong)

/- THE SECOND FORM. 'bulk': how many values and letters a reading holds, each counted each time it is reached (what is shared counts as often as it is met; a slice's spare places count too). A statement '..UptoSaid' is the law's where the arguments, and the package variables that the reading takes, are together of bulk at most 1048576: NARROWER than '..Said'. Prove '..Said' where nothing that the law and all that it calls make is longer than what came in: it says more and counts as full. Else prove '..UptoSaid'. A law counts once. -/
mutual
def uptoBulk {H : Type} : DataW H → Nat
  | .lit (.string bytes) => bytes.length + 1
  | .lit _ => 1
  | .nil => 1
  | .ptr d => uptoBulk d + 1
  | .slice elems spare => uptoBulkAll elems + uptoBulkAll spare + 1
  | .agg parts => uptoBulkAll parts + 1
  | .iface _ d => uptoBulk d + 1
  | .map entries => uptoBulkEntries entries + 1
  | .held _ => 1
def uptoBulkAll {H : Type} : List (DataW H) → Nat
  | [] => 0
  | d :: r => uptoBulk d + uptoBulkAll r
def uptoBulkEntries {H : Type} : List (Lit × DataW H) → Nat
  | [] => 0
  | x :: r => uptoBulkEntry x + uptoBulkEntries r
def uptoBulkEntry {H : Type} : Lit × DataW H → Nat
  | (.string bytes, d) => bytes.length + uptoBulk d + 1
  | (_, d) => uptoBulk d + 1
 end
def uptoSmall : (H : Type) → List (DataW H) → Bool := fun _ ds => decide (uptoBulkAll ds ≤ 1048576)
def OpenSpec.upto (s : _root_.Go.ChangeSpec) : _root_.Go.OpenSpec := { _root_.Go.OpenSpec.ofChange s with cond := some uptoSmall }

/-- 'laws.FnExactMakeName', WHERE WHAT IT READS IS OF BULK AT MOST 1048576: true; the input reads as it did. -/
def fnExactMakeNameUptoRow : OpenClaim := { program := "ytlckjnjgbefmeaa", sum := "a2a38dfbddeef840c507795ba4a8183c28446bc1e9c6703ca9ee6214b709caae", func := "loop.example/g00594/laws.FnExactMakeName", spec := "fnExactMakeName", apart := false, narrowed := true }
def FnExactMakeNameUptoSaid : Prop := fnExactMakeNameUptoRow.holds Try.pinned (OpenSpec.upto fnExactMakeNameSpec)

/-- 'laws.FnExactIsName', WHERE WHAT IT READS IS OF BULK AT MOST 1048576: true; the input reads as it did. -/
def fnExactIsNameUptoRow : OpenClaim := { program := "ytlckjnjgbefmeaa", sum := "a2a38dfbddeef840c507795ba4a8183c28446bc1e9c6703ca9ee6214b709caae", func := "loop.example/g00594/laws.FnExactIsName", spec := "fnExactIsName", apart := false, narrowed := true }
def FnExactIsNameUptoSaid : Prop := fnExactIsNameUptoRow.holds Try.pinned (OpenSpec.upto fnExactIsNameSpec)

/-- 'laws.FnExactKindOf', WHERE WHAT IT READS IS OF BULK AT MOST 1048576: true; the input reads as it did. -/
def fnExactKindOfUptoRow : OpenClaim := { program := "ytlckjnjgbefmeaa", sum := "a2a38dfbddeef840c507795ba4a8183c28446bc1e9c6703ca9ee6214b709caae", func := "loop.example/g00594/laws.FnExactKindOf", spec := "fnExactKindOf", apart := false, narrowed := true }
def FnExactKindOfUptoSaid : Prop := fnExactKindOfUptoRow.holds Try.pinned (OpenSpec.upto fnExactKindOfSpec)

/-- 'laws.FnExactHasKind', WHERE WHAT IT READS IS OF BULK AT MOST 1048576: true; the input reads as it did. -/
def fnExactHasKindUptoRow : OpenClaim := { program := "ytlckjnjgbefmeaa", sum := "a2a38dfbddeef840c507795ba4a8183c28446bc1e9c6703ca9ee6214b709caae", func := "loop.example/g00594/laws.FnExactHasKind", spec := "fnExactHasKind", apart := false, narrowed := true }
def FnExactHasKindUptoSaid : Prop := fnExactHasKindUptoRow.holds Try.pinned (OpenSpec.upto fnExactHasKindSpec)

/-- 'laws.FnExactParseName', WHERE WHAT IT READS IS OF BULK AT MOST 1048576: true; the input reads as it did. -/
def fnExactParseNameUptoRow : OpenClaim := { program := "ytlckjnjgbefmeaa", sum := "a2a38dfbddeef840c507795ba4a8183c28446bc1e9c6703ca9ee6214b709caae", func := "loop.example/g00594/laws.FnExactParseName", spec := "fnExactParseName", apart := false, narrowed := true }
def FnExactParseNameUptoSaid : Prop := fnExactParseNameUptoRow.holds Try.pinned (OpenSpec.upto fnExactParseNameSpec)

end Rows
end Go.Proofs.Ytlckjnjgbefmeaa
