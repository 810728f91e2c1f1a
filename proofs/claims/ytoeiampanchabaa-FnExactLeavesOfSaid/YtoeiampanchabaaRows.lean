/-
  NARROWER THAN 'FOR EVERY INPUT', by the rows' own cells (each row's printed sentence says how): FnExactSizeOf: loops · FnExactIsCond: loops · FnExactEqualConds: loops · FnExactCondNot: loops · FnExactCondAnd: loops · FnExactCondOr: loops · FnExactLeavesOf: loops.
  DERIVED. THE GIVEN ROWS OF THIS SEAT. 9 by the template 'for every input the law returns true; each argument reads behind the call as it read before'; 0 by the template 'total and deterministic' (their statements: YtoeiampanchabaaTotals.lean).
  GIVEN WITH THE SEED: the statements are not yours to turn. If you find one false, say at which input.
  Laid BY PROGRAM, IN A SANDBOX (cutbox-rows.mjs): the forced cells as the released guide's own fill.sh prints them over the translation 8359fc34d3fee206… (all of the seat's roots in one cut). By AI agents, Wed Nov 11 2026. No macro, syntax, notation, axiom, sorry.
-/
import Derived.Test.YtoeiampanchabaaChecked
import GoSem.Claim
import GoSem.ClaimJoined
import GoSem.ClaimMapViews
import Derived.JoinedTies
import Derived.KernelRfl
namespace Go.Proofs.Ytoeiampanchabaa
/- THE CELL 'sum', in the pinned program and in every row, IS THE sha256 OF THE DUMP (.gsa) THAT YtoeiampanchabaaProg.lean LOADS. Nothing in Lean hashes anything: it is a label: what it is worth is what the hold of that sum in a sandbox is worth. -/
noncomputable def Try.pinned : Pinned := { name := "ytoeiampanchabaa", sum := "8359fc34d3fee2064a7d3d94389dc684d193a5bb56524cc490a4240744cae771", checked := Try.checked }
namespace Rows
def none {H : Type} : Left H := { results := [], args := [] }

/-- 'laws.FnConditions': WHATEVER THE INPUT: true; the input reads as it did. -/
def fnConditionsSpec : ChangeSpec := { name := "fnConditions", fn := fun _ => fun
  | [d] => { results := [.lit (.bool true)], args := [d] }
  | _ => none }
def fnConditionsRow : OpenClaim := { program := "ytoeiampanchabaa", sum := "8359fc34d3fee2064a7d3d94389dc684d193a5bb56524cc490a4240744cae771", func := "loop.example/g00594/laws.FnConditions", spec := "fnConditions", unfollowed := true, recurses := true, plainKeys := false, apart := false }
def FnConditionsSaid : Prop := fnConditionsRow.holds Try.pinned (OpenSpec.ofChange fnConditionsSpec)

/-- ITS FALSE NEIGHBOUR: 'it returns false'. Refute it at one input. -/
def fnConditionsWrong : ChangeSpec := { name := "fnConditions", fn := fun _ => fun
  | [d] => { results := [.lit (.bool false)], args := [d] }
  | _ => none }
def FnConditionsWrongFalsely : Prop := fnConditionsRow.holds Try.pinned (OpenSpec.ofChange fnConditionsWrong)

/-- 'laws.FnExactArityOf': WHATEVER THE INPUT: true; the input reads as it did. -/
def fnExactArityOfSpec : ChangeSpec := { name := "fnExactArityOf", fn := fun _ => fun
  | [d] => { results := [.lit (.bool true)], args := [d] }
  | _ => none }
def fnExactArityOfRow : OpenClaim := { program := "ytoeiampanchabaa", sum := "8359fc34d3fee2064a7d3d94389dc684d193a5bb56524cc490a4240744cae771", func := "loop.example/g00594/laws.FnExactArityOf", spec := "fnExactArityOf", plainKeys := false, apart := false }
def FnExactArityOfSaid : Prop := fnExactArityOfRow.holds Try.pinned (OpenSpec.ofChange fnExactArityOfSpec)

/-- ITS FALSE NEIGHBOUR: 'it returns false'. Refute it at one input. -/
def fnExactArityOfWrong : ChangeSpec := { name := "fnExactArityOf", fn := fun _ => fun
  | [d] => { results := [.lit (.bool false)], args := [d] }
  | _ => none }
def FnExactArityOfWrongFalsely : Prop := fnExactArityOfRow.holds Try.pinned (OpenSpec.ofChange fnExactArityOfWrong)

/-- 'laws.FnExactSizeOf': WHATEVER THE INPUT: true; the input reads as it did. -/
def fnExactSizeOfSpec : ChangeSpec := { name := "fnExactSizeOf", fn := fun _ => fun
  | [d] => { results := [.lit (.bool true)], args := [d] }
  | _ => none }
def fnExactSizeOfRow : OpenClaim := { program := "ytoeiampanchabaa", sum := "8359fc34d3fee2064a7d3d94389dc684d193a5bb56524cc490a4240744cae771", func := "loop.example/g00594/laws.FnExactSizeOf", spec := "fnExactSizeOf", unfollowed := true, recurses := true, loops := true, plainKeys := false, apart := false }
def FnExactSizeOfSaid : Prop := fnExactSizeOfRow.holds Try.pinned (OpenSpec.ofChange fnExactSizeOfSpec)

/-- ITS FALSE NEIGHBOUR: 'it returns false'. Refute it at one input. -/
def fnExactSizeOfWrong : ChangeSpec := { name := "fnExactSizeOf", fn := fun _ => fun
  | [d] => { results := [.lit (.bool false)], args := [d] }
  | _ => none }
def FnExactSizeOfWrongFalsely : Prop := fnExactSizeOfRow.holds Try.pinned (OpenSpec.ofChange fnExactSizeOfWrong)

/-- 'laws.FnExactIsCond': WHATEVER THE INPUT: true; the input reads as it did. -/
def fnExactIsCondSpec : ChangeSpec := { name := "fnExactIsCond", fn := fun _ => fun
  | [d] => { results := [.lit (.bool true)], args := [d] }
  | _ => none }
def fnExactIsCondRow : OpenClaim := { program := "ytoeiampanchabaa", sum := "8359fc34d3fee2064a7d3d94389dc684d193a5bb56524cc490a4240744cae771", func := "loop.example/g00594/laws.FnExactIsCond", spec := "fnExactIsCond", unfollowed := true, recurses := true, loops := true, plainKeys := false, apart := false }
def FnExactIsCondSaid : Prop := fnExactIsCondRow.holds Try.pinned (OpenSpec.ofChange fnExactIsCondSpec)

/-- ITS FALSE NEIGHBOUR: 'it returns false'. Refute it at one input. -/
def fnExactIsCondWrong : ChangeSpec := { name := "fnExactIsCond", fn := fun _ => fun
  | [d] => { results := [.lit (.bool false)], args := [d] }
  | _ => none }
def FnExactIsCondWrongFalsely : Prop := fnExactIsCondRow.holds Try.pinned (OpenSpec.ofChange fnExactIsCondWrong)

/-- 'laws.FnExactEqualConds': WHATEVER THE INPUT: true; the input reads as it did. -/
def fnExactEqualCondsSpec : ChangeSpec := { name := "fnExactEqualConds", fn := fun _ => fun
  | [d1, d2] => { results := [.lit (.bool true)], args := [d1, d2] }
  | _ => none }
def fnExactEqualCondsRow : OpenClaim := { program := "ytoeiampanchabaa", sum := "8359fc34d3fee2064a7d3d94389dc684d193a5bb56524cc490a4240744cae771", func := "loop.example/g00594/laws.FnExactEqualConds", spec := "fnExactEqualConds", unfollowed := true, recurses := true, loops := true, plainKeys := false, apart := false }
def FnExactEqualCondsSaid : Prop := fnExactEqualCondsRow.holds Try.pinned (OpenSpec.ofChange fnExactEqualCondsSpec)

/-- ITS FALSE NEIGHBOUR: 'it returns false'. Refute it at one input. -/
def fnExactEqualCondsWrong : ChangeSpec := { name := "fnExactEqualConds", fn := fun _ => fun
  | [d1, d2] => { results := [.lit (.bool false)], args := [d1, d2] }
  | _ => none }
def FnExactEqualCondsWrongFalsely : Prop := fnExactEqualCondsRow.holds Try.pinned (OpenSpec.ofChange fnExactEqualCondsWrong)

/-- 'laws.FnExactCondNot': WHATEVER THE INPUT: true; the input reads as it did. -/
def fnExactCondNotSpec : ChangeSpec := { name := "fnExactCondNot", fn := fun _ => fun
  | [d] => { results := [.lit (.bool true)], args := [d] }
  | _ => none }
def fnExactCondNotRow : OpenClaim := { program := "ytoeiampanchabaa", sum := "8359fc34d3fee2064a7d3d94389dc684d193a5bb56524cc490a4240744cae771", func := "loop.example/g00594/laws.FnExactCondNot", spec := "fnExactCondNot", unfollowed := true, recurses := true, loops := true, plainKeys := false, apart := false }
def FnExactCondNotSaid : Prop := fnExactCondNotRow.holds Try.pinned (OpenSpec.ofChange fnExactCondNotSpec)

/-- ITS FALSE NEIGHBOUR: 'it returns false'. Refute it at one input. -/
def fnExactCondNotWrong : ChangeSpec := { name := "fnExactCondNot", fn := fun _ => fun
  | [d] => { results := [.lit (.bool false)], args := [d] }
  | _ => none }
def FnExactCondNotWrongFalsely : Prop := fnExactCondNotRow.holds Try.pinned (OpenSpec.ofChange fnExactCondNotWrong)

/-- 'laws.FnExactCondAnd': WHATEVER THE INPUT: true; the input reads as it did. -/
def fnExactCondAndSpec : ChangeSpec := { name := "fnExactCondAnd", fn := fun _ => fun
  | [d1, d2] => { results := [.lit (.bool true)], args := [d1, d2] }
  | _ => none }
def fnExactCondAndRow : OpenClaim := { program := "ytoeiampanchabaa", sum := "8359fc34d3fee2064a7d3d94389dc684d193a5bb56524cc490a4240744cae771", func := "loop.example/g00594/laws.FnExactCondAnd", spec := "fnExactCondAnd", unfollowed := true, recurses := true, loops := true, plainKeys := false, apart := false }
def FnExactCondAndSaid : Prop := fnExactCondAndRow.holds Try.pinned (OpenSpec.ofChange fnExactCondAndSpec)

/-- ITS FALSE NEIGHBOUR: 'it returns false'. Refute it at one input. -/
def fnExactCondAndWrong : ChangeSpec := { name := "fnExactCondAnd", fn := fun _ => fun
  | [d1, d2] => { results := [.lit (.bool false)], args := [d1, d2] }
  | _ => none }
def FnExactCondAndWrongFalsely : Prop := fnExactCondAndRow.holds Try.pinned (OpenSpec.ofChange fnExactCondAndWrong)

/-- 'laws.FnExactCondOr': WHATEVER THE INPUT: true; the input reads as it did. -/
def fnExactCondOrSpec : ChangeSpec := { name := "fnExactCondOr", fn := fun _ => fun
  | [d1, d2] => { results := [.lit (.bool true)], args := [d1, d2] }
  | _ => none }
def fnExactCondOrRow : OpenClaim := { program := "ytoeiampanchabaa", sum := "8359fc34d3fee2064a7d3d94389dc684d193a5bb56524cc490a4240744cae771", func := "loop.example/g00594/laws.FnExactCondOr", spec := "fnExactCondOr", unfollowed := true, recurses := true, loops := true, plainKeys := false, apart := false }
def FnExactCondOrSaid : Prop := fnExactCondOrRow.holds Try.pinned (OpenSpec.ofChange fnExactCondOrSpec)

/-- ITS FALSE NEIGHBOUR: 'it returns false'. Refute it at one input. -/
def fnExactCondOrWrong : ChangeSpec := { name := "fnExactCondOr", fn := fun _ => fun
  | [d1, d2] => { results := [.lit (.bool false)], args := [d1, d2] }
  | _ => none }
def FnExactCondOrWrongFalsely : Prop := fnExactCondOrRow.holds Try.pinned (OpenSpec.ofChange fnExactCondOrWrong)

/-- 'laws.FnExactLeavesOf': WHATEVER THE INPUT: true; the input reads as it did. -/
def fnExactLeavesOfSpec : ChangeSpec := { name := "fnExactLeavesOf", fn := fun _ => fun
  | [d] => { results := [.lit (.bool true)], args := [d] }
  | _ => none }
def fnExactLeavesOfRow : OpenClaim := { program := "ytoeiampanchabaa", sum := "8359fc34d3fee2064a7d3d94389dc684d193a5bb56524cc490a4240744cae771", func := "loop.example/g00594/laws.FnExactLeavesOf", spec := "fnExactLeavesOf", unfollowed := true, recurses := true, loops := true, plainKeys := false, apart := false }
def FnExactLeavesOfSaid : Prop := fnExactLeavesOfRow.holds Try.pinned (OpenSpec.ofChange fnExactLeavesOfSpec)

/-- ITS FALSE NEIGHBOUR: 'it returns false'. Refute it at one input. -/
def fnExactLeavesOfWrong : ChangeSpec := { name := "fnExactLeavesOf", fn := fun _ => fun
  | [d] => { results := [.lit (.bool false)], args := [d] }
  | _ => none }
def FnExactLeavesOfWrongFalsely : Prop := fnExactLeavesOfRow.holds Try.pinned (OpenSpec.ofChange fnExactLeavesOfWrong)

/- THE SECOND FORM. 'bulk': how many values and letters a reading holds, each counted each time it is reached (what is shared counts as often as it is met; a slice's spare places count too). A statement '..UptoSaid' is the law's where the arguments, and the package variables that the reading takes, are together of bulk at most 1048576: NARROWER than '..Said'. Prove '..Said' where nothing that the law and all that it calls make is longer than what came in: it says more and counts as full. Else prove '..UptoSaid'. A law counts once. -/
mutual
def uptoBulk {H : Type} : DataW H → Nat
  | .lit (.string bytes) => bytes.length + 1
  | .lit _ => 1
  | .nil => 1
  | .ptr d => uptoBulk d + 1
  | .slice elems spare => uptoBulkAll elems + uptoBulkAll spare + 1
  | .agg parts => uptoBulkAll parts + 1
  | .iface _ d => uptoBulk d + 1
  | .map entries => uptoBulkEntries entries + 1
  | .held _ => 1
def uptoBulkAll {H : Type} : List (DataW H) → Nat
  | [] => 0
  | d :: r => uptoBulk d + uptoBulkAll r
def uptoBulkEntries {H : Type} : List (Lit × DataW H) → Nat
  | [] => 0
  | x :: r => uptoBulkEntry x + uptoBulkEntries r
def uptoBulkEntry {H : Type} : Lit × DataW H → Nat
  | (.string bytes, d) => bytes.length + uptoBulk d + 1
  | (_, d) => uptoBulk d + 1
 end
def uptoSmall : (H : Type) → List (DataW H) → Bool := fun _ ds => decide (uptoBulkAll ds ≤ 1048576)
def OpenSpec.upto (s : _root_.Go.ChangeSpec) : _root_.Go.OpenSpec := { _root_.Go.OpenSpec.ofChange s with cond := some uptoSmall }

/-- 'laws.FnConditions', WHERE WHAT IT READS IS OF BULK AT MOST 1048576: true; the input reads as it did. -/
def fnConditionsUptoRow : OpenClaim := { program := "ytoeiampanchabaa", sum := "8359fc34d3fee2064a7d3d94389dc684d193a5bb56524cc490a4240744cae771", func := "loop.example/g00594/laws.FnConditions", spec := "fnConditions", unfollowed := true, recurses := true, plainKeys := false, apart := false, narrowed := true }
def FnConditionsUptoSaid : Prop := fnConditionsUptoRow.holds Try.pinned (OpenSpec.upto fnConditionsSpec)

/-- 'laws.FnExactArityOf', WHERE WHAT IT READS IS OF BULK AT MOST 1048576: true; the input reads as it did. -/
def fnExactArityOfUptoRow : OpenClaim := { program := "ytoeiampanchabaa", sum := "8359fc34d3fee2064a7d3d94389dc684d193a5bb56524cc490a4240744cae771", func := "loop.example/g00594/laws.FnExactArityOf", spec := "fnExactArityOf", plainKeys := false, apart := false, narrowed := true }
def FnExactArityOfUptoSaid : Prop := fnExactArityOfUptoRow.holds Try.pinned (OpenSpec.upto fnExactArityOfSpec)

/-- 'laws.FnExactSizeOf', WHERE WHAT IT READS IS OF BULK AT MOST 1048576: true; the input reads as it did. -/
def fnExactSizeOfUptoRow : OpenClaim := { program := "ytoeiampanchabaa", sum := "8359fc34d3fee2064a7d3d94389dc684d193a5bb56524cc490a4240744cae771", func := "loop.example/g00594/laws.FnExactSizeOf", spec := "fnExactSizeOf", unfollowed := true, recurses := true, loops := true, plainKeys := false, apart := false, narrowed := true }
def FnExactSizeOfUptoSaid : Prop := fnExactSizeOfUptoRow.holds Try.pinned (OpenSpec.upto fnExactSizeOfSpec)

/-- 'laws.FnExactIsCond', WHERE WHAT IT READS IS OF BULK AT MOST 1048576: true; the input reads as it did. -/
def fnExactIsCondUptoRow : OpenClaim := { program := "ytoeiampanchabaa", sum := "8359fc34d3fee2064a7d3d94389dc684d193a5bb56524cc490a4240744cae771", func := "loop.example/g00594/laws.FnExactIsCond", spec := "fnExactIsCond", unfollowed := true, recurses := true, loops := true, plainKeys := false, apart := false, narrowed := true }
def FnExactIsCondUptoSaid : Prop := fnExactIsCondUptoRow.holds Try.pinned (OpenSpec.upto fnExactIsCondSpec)

/-- 'laws.FnExactEqualConds', WHERE WHAT IT READS IS OF BULK AT MOST 1048576: true; the input reads as it did. -/
def fnExactEqualCondsUptoRow : OpenClaim := { program := "ytoeiampanchabaa", sum := "8359fc34d3fee2064a7d3d94389dc684d193a5bb56524cc490a4240744cae771", func := "loop.example/g00594/laws.FnExactEqualConds", spec := "fnExactEqualConds", unfollowed := true, recurses := true, loops := true, plainKeys := false, apart := false, narrowed := true }
def FnExactEqualCondsUptoSaid : Prop := fnExactEqualCondsUptoRow.holds Try.pinned (OpenSpec.upto fnExactEqualCondsSpec)

/-- 'laws.FnExactCondNot', WHERE WHAT IT READS IS OF BULK AT MOST 1048576: true; the input reads as it did. -/
def fnExactCondNotUptoRow : OpenClaim := { program := "ytoeiampanchabaa", sum := "8359fc34d3fee2064a7d3d94389dc684d193a5bb56524cc490a4240744cae771", func := "loop.example/g00594/laws.FnExactCondNot", spec := "fnExactCondNot", unfollowed := true, recurses := true, loops := true, plainKeys := false, apart := false, narrowed := true }
def FnExactCondNotUptoSaid : Prop := fnExactCondNotUptoRow.holds Try.pinned (OpenSpec.upto fnExactCondNotSpec)

/-- 'laws.FnExactCondAnd', WHERE WHAT IT READS IS OF BULK AT MOST 1048576: true; the input reads as it did. -/
def fnExactCondAndUptoRow : OpenClaim := { program := "ytoeiampanchabaa", sum := "8359fc34d3fee2064a7d3d94389dc684d193a5bb56524cc490a4240744cae771", func := "loop.example/g00594/laws.FnExactCondAnd", spec := "fnExactCondAnd", unfollowed := true, recurses := true, loops := true, plainKeys := false, apart := false, narrowed := true }
def FnExactCondAndUptoSaid : Prop := fnExactCondAndUptoRow.holds Try.pinned (OpenSpec.upto fnExactCondAndSpec)

/-- 'laws.FnExactCondOr', WHERE WHAT IT READS IS OF BULK AT MOST 1048576: true; the input reads as it did. -/
def fnExactCondOrUptoRow : OpenClaim := { program := "ytoeiampanchabaa", sum := "8359fc34d3fee2064a7d3d94389dc684d193a5bb56524cc490a4240744cae771", func := "loop.example/g00594/laws.FnExactCondOr", spec := "fnExactCondOr", unfollowed := true, recurses := true, loops := true, plainKeys := false, apart := false, narrowed := true }
def FnExactCondOrUptoSaid : Prop := fnExactCondOrUptoRow.holds Try.pinned (OpenSpec.upto fnExactCondOrSpec)

/-- 'laws.FnExactLeavesOf', WHERE WHAT IT READS IS OF BULK AT MOST 1048576: true; the input reads as it did. -/
def fnExactLeavesOfUptoRow : OpenClaim := { program := "ytoeiampanchabaa", sum := "8359fc34d3fee2064a7d3d94389dc684d193a5bb56524cc490a4240744cae771", func := "loop.example/g00594/laws.FnExactLeavesOf", spec := "fnExactLeavesOf", unfollowed := true, recurses := true, loops := true, plainKeys := false, apart := false, narrowed := true }
def FnExactLeavesOfUptoSaid : Prop := fnExactLeavesOfUptoRow.holds Try.pinned (OpenSpec.upto fnExactLeavesOfSpec)

end Rows
end Go.Proofs.Ytoeiampanchabaa
