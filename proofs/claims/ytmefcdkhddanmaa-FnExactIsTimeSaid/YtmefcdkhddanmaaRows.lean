/-
  No cell of these rows narrows 'for every input' (looked for: loops, veiled, ifaces, maps, wideKeys, modest, calm, conditions, laid).
  DERIVED. THE GIVEN ROWS OF THIS SEAT. 7 by the template 'for every input the law returns true; each argument reads behind the call as it read before'; 0 by the template 'total and deterministic' (their statements: YtmefcdkhddanmaaTotals.lean).
  GIVEN WITH THE SEED: the statements are not yours to turn. If you find one false, say at which input.
  Laid BY PROGRAM, IN A SANDBOX (cutbox-rows.mjs): the forced cells as the released guide's own fill.sh prints them over the translation bb9e25891df5fd83… (all of the seat's roots in one cut). By AI agents, Wed Nov 11 2026. No macro, syntax, notation, axiom, sorry.
-/
import Derived.Test.YtmefcdkhddanmaaChecked
import GoSem.Claim
import GoSem.ClaimJoined
import GoSem.ClaimMapViews
import Derived.JoinedTies
import Derived.KernelRfl
namespace Go.Proofs.Ytmefcdkhddanmaa
/- THE CELL 'sum', in the pinned program and in every row, IS THE sha256 OF THE DUMP (.gsa) THAT YtmefcdkhddanmaaProg.lean LOADS. Nothing in Lean hashes anything: it is a label: what it is worth is what the hold of that sum in a sandbox is worth. -/
noncomputable def Try.pinned : Pinned := { name := "ytmefcdkhddanmaa", sum := "bb9e25891df5fd83ccb7e273b02ed3f1535db84affe8f3a98f4cf63c0fd9096e", checked := Try.checked }
namespace Rows
def none {H : Type} : Left H := { results := [], args := [] }

/-- 'laws.FnTimes': WHATEVER THE INPUT: true; the input reads as it did. -/
def fnTimesSpec : ChangeSpec := { name := "fnTimes", fn := fun _ => fun
  | [d] => { results := [.lit (.bool true)], args := [d] }
  | _ => none }
def fnTimesRow : OpenClaim := { program := "ytmefcdkhddanmaa", sum := "bb9e25891df5fd83ccb7e273b02ed3f1535db84affe8f3a98f4cf63c0fd9096e", func := "loop.example/g00594/laws.FnTimes", spec := "fnTimes", apart := false }
def FnTimesSaid : Prop := fnTimesRow.holds Try.pinned (OpenSpec.ofChange fnTimesSpec)

/-- ITS FALSE NEIGHBOUR: 'it returns false'. Refute it at one input. -/
def fnTimesWrong : ChangeSpec := { name := "fnTimes", fn := fun _ => fun
  | [d] => { results := [.lit (.bool false)], args := [d] }
  | _ => none }
def FnTimesWrongFalsely : Prop := fnTimesRow.holds Try.pinned (OpenSpec.ofChange fnTimesWrong)

/-- 'laws.FnExactIsTime': WHATEVER THE INPUT: true; the input reads as it did. -/
def fnExactIsTimeSpec : ChangeSpec := { name := "fnExactIsTime", fn := fun _ => fun
  | [d] => { results := [.lit (.bool true)], args := [d] }
  | _ => none }
def fnExactIsTimeRow : OpenClaim := { program := "ytmefcdkhddanmaa", sum := "bb9e25891df5fd83ccb7e273b02ed3f1535db84affe8f3a98f4cf63c0fd9096e", func := "loop.example/g00594/laws.FnExactIsTime", spec := "fnExactIsTime", apart := false }
def FnExactIsTimeSaid : Prop := fnExactIsTimeRow.holds Try.pinned (OpenSpec.ofChange fnExactIsTimeSpec)

/-- ITS FALSE NEIGHBOUR: 'it returns false'. Refute it at one input. -/
def fnExactIsTimeWrong : ChangeSpec := { name := "fnExactIsTime", fn := fun _ => fun
  | [d] => { results := [.lit (.bool false)], args := [d] }
  | _ => none }
def FnExactIsTimeWrongFalsely : Prop := fnExactIsTimeRow.holds Try.pinned (OpenSpec.ofChange fnExactIsTimeWrong)

/-- 'laws.FnExactAgeOf': WHATEVER THE INPUT: true; the input reads as it did. -/
def fnExactAgeOfSpec : ChangeSpec := { name := "fnExactAgeOf", fn := fun _ => fun
  | [d1, d2] => { results := [.lit (.bool true)], args := [d1, d2] }
  | _ => none }
def fnExactAgeOfRow : OpenClaim := { program := "ytmefcdkhddanmaa", sum := "bb9e25891df5fd83ccb7e273b02ed3f1535db84affe8f3a98f4cf63c0fd9096e", func := "loop.example/g00594/laws.FnExactAgeOf", spec := "fnExactAgeOf", apart := false }
def FnExactAgeOfSaid : Prop := fnExactAgeOfRow.holds Try.pinned (OpenSpec.ofChange fnExactAgeOfSpec)

/-- ITS FALSE NEIGHBOUR: 'it returns false'. Refute it at one input. -/
def fnExactAgeOfWrong : ChangeSpec := { name := "fnExactAgeOf", fn := fun _ => fun
  | [d1, d2] => { results := [.lit (.bool false)], args := [d1, d2] }
  | _ => none }
def FnExactAgeOfWrongFalsely : Prop := fnExactAgeOfRow.holds Try.pinned (OpenSpec.ofChange fnExactAgeOfWrong)

/-- 'laws.FnExactIsFresh': WHATEVER THE INPUT: true; the input reads as it did. -/
def fnExactIsFreshSpec : ChangeSpec := { name := "fnExactIsFresh", fn := fun _ => fun
  | [d1, d2, d3] => { results := [.lit (.bool true)], args := [d1, d2, d3] }
  | _ => none }
def fnExactIsFreshRow : OpenClaim := { program := "ytmefcdkhddanmaa", sum := "bb9e25891df5fd83ccb7e273b02ed3f1535db84affe8f3a98f4cf63c0fd9096e", func := "loop.example/g00594/laws.FnExactIsFresh", spec := "fnExactIsFresh", apart := false }
def FnExactIsFreshSaid : Prop := fnExactIsFreshRow.holds Try.pinned (OpenSpec.ofChange fnExactIsFreshSpec)

/-- ITS FALSE NEIGHBOUR: 'it returns false'. Refute it at one input. -/
def fnExactIsFreshWrong : ChangeSpec := { name := "fnExactIsFresh", fn := fun _ => fun
  | [d1, d2, d3] => { results := [.lit (.bool false)], args := [d1, d2, d3] }
  | _ => none }
def FnExactIsFreshWrongFalsely : Prop := fnExactIsFreshRow.holds Try.pinned (OpenSpec.ofChange fnExactIsFreshWrong)

/-- 'laws.FnExactEndOf': WHATEVER THE INPUT: true; the input reads as it did. -/
def fnExactEndOfSpec : ChangeSpec := { name := "fnExactEndOf", fn := fun _ => fun
  | [d1, d2] => { results := [.lit (.bool true)], args := [d1, d2] }
  | _ => none }
def fnExactEndOfRow : OpenClaim := { program := "ytmefcdkhddanmaa", sum := "bb9e25891df5fd83ccb7e273b02ed3f1535db84affe8f3a98f4cf63c0fd9096e", func := "loop.example/g00594/laws.FnExactEndOf", spec := "fnExactEndOf", apart := false }
def FnExactEndOfSaid : Prop := fnExactEndOfRow.holds Try.pinned (OpenSpec.ofChange fnExactEndOfSpec)

/-- ITS FALSE NEIGHBOUR: 'it returns false'. Refute it at one input. -/
def fnExactEndOfWrong : ChangeSpec := { name := "fnExactEndOf", fn := fun _ => fun
  | [d1, d2] => { results := [.lit (.bool false)], args := [d1, d2] }
  | _ => none }
def FnExactEndOfWrongFalsely : Prop := fnExactEndOfRow.holds Try.pinned (OpenSpec.ofChange fnExactEndOfWrong)

/-- 'laws.FnExactIsWithin': WHATEVER THE INPUT: true; the input reads as it did. -/
def fnExactIsWithinSpec : ChangeSpec := { name := "fnExactIsWithin", fn := fun _ => fun
  | [d1, d2, d3] => { results := [.lit (.bool true)], args := [d1, d2, d3] }
  | _ => none }
def fnExactIsWithinRow : OpenClaim := { program := "ytmefcdkhddanmaa", sum := "bb9e25891df5fd83ccb7e273b02ed3f1535db84affe8f3a98f4cf63c0fd9096e", func := "loop.example/g00594/laws.FnExactIsWithin", spec := "fnExactIsWithin", apart := false }
def FnExactIsWithinSaid : Prop := fnExactIsWithinRow.holds Try.pinned (OpenSpec.ofChange fnExactIsWithinSpec)

/-- ITS FALSE NEIGHBOUR: 'it returns false'. Refute it at one input. -/
def fnExactIsWithinWrong : ChangeSpec := { name := "fnExactIsWithin", fn := fun _ => fun
  | [d1, d2, d3] => { results := [.lit (.bool false)], args := [d1, d2, d3] }
  | _ => none }
def FnExactIsWithinWrongFalsely : Prop := fnExactIsWithinRow.holds Try.pinned (OpenSpec.ofChange fnExactIsWithinWrong)

/-- 'laws.FnExactLeftOf': WHATEVER THE INPUT: true; the input reads as it did. -/
def fnExactLeftOfSpec : ChangeSpec := { name := "fnExactLeftOf", fn := fun _ => fun
  | [d1, d2] => { results := [.lit (.bool true)], args := [d1, d2] }
  | _ => none }
def fnExactLeftOfRow : OpenClaim := { program := "ytmefcdkhddanmaa", sum := "bb9e25891df5fd83ccb7e273b02ed3f1535db84affe8f3a98f4cf63c0fd9096e", func := "loop.example/g00594/laws.FnExactLeftOf", spec := "fnExactLeftOf", apart := false }
def FnExactLeftOfSaid : Prop := fnExactLeftOfRow.holds Try.pinned (OpenSpec.ofChange fnExactLeftOfSpec)

/-- ITS FALSE NEIGHBOUR: 'it returns false'. Refute it at one input. -/
def fnExactLeftOfWrong : ChangeSpec := { name := "fnExactLeftOf", fn := fun _ => fun
  | [d1, d2] => { results := [.lit (.bool false)], args := [d1, d2] }
  | _ => none }
def FnExactLeftOfWrongFalsely : Prop := fnExactLeftOfRow.holds Try.pinned (OpenSpec.ofChange fnExactLeftOfWrong)

/- THE SECOND FORM. 'bulk': how many values and letters a reading holds, each counted each time it is reached (what is shared counts as often as it is met; a slice's spare places count too). A statement '..UptoSaid' is the law's where the arguments, and the package variables that the reading takes, are together of bulk at most 1048576: NARROWER than '..Said'. Prove '..Said' where nothing that the law and all that it calls make is longer than what came in: it says more and counts as full. Else prove '..UptoSaid'. A law counts once. -/
mutual
def uptoBulk {H : Type} : DataW H → Nat
  | .lit (.string bytes) => bytes.length + 1
  | .lit _ => 1
  | .nil => 1
  | .ptr d => uptoBulk d + 1
  | .slice elems spare => uptoBulkAll elems + uptoBulkAll spare + 1
  | .agg parts => uptoBulkAll parts + 1
  | .iface _ d => uptoBulk d + 1
  | .map entries => uptoBulkEntries entries + 1
  | .held _ => 1
def uptoBulkAll {H : Type} : List (DataW H) → Nat
  | [] => 0
  | d :: r => uptoBulk d + uptoBulkAll r
def uptoBulkEntries {H : Type} : List (Lit × DataW H) → Nat
  | [] => 0
  | x :: r => uptoBulkEntry x + uptoBulkEntries r
def uptoBulkEntry {H : Type} : Lit × DataW H → Nat
  | (.string bytes, d) => bytes.length + uptoBulk d + 1
  | (_, d) => uptoBulk d + 1
 end
def uptoSmall : (H : Type) → List (DataW H) → Bool := fun _ ds => decide (uptoBulkAll ds ≤ 1048576)
def OpenSpec.upto (s : _root_.Go.ChangeSpec) : _root_.Go.OpenSpec := { _root_.Go.OpenSpec.ofChange s with cond := some uptoSmall }

/-- 'laws.FnTimes', WHERE WHAT IT READS IS OF BULK AT MOST 1048576: true; the input reads as it did. -/
def fnTimesUptoRow : OpenClaim := { program := "ytmefcdkhddanmaa", sum := "bb9e25891df5fd83ccb7e273b02ed3f1535db84affe8f3a98f4cf63c0fd9096e", func := "loop.example/g00594/laws.FnTimes", spec := "fnTimes", apart := false, narrowed := true }
def FnTimesUptoSaid : Prop := fnTimesUptoRow.holds Try.pinned (OpenSpec.upto fnTimesSpec)

/-- 'laws.FnExactIsTime', WHERE WHAT IT READS IS OF BULK AT MOST 1048576: true; the input reads as it did. -/
def fnExactIsTimeUptoRow : OpenClaim := { program := "ytmefcdkhddanmaa", sum := "bb9e25891df5fd83ccb7e273b02ed3f1535db84affe8f3a98f4cf63c0fd9096e", func := "loop.example/g00594/laws.FnExactIsTime", spec := "fnExactIsTime", apart := false, narrowed := true }
def FnExactIsTimeUptoSaid : Prop := fnExactIsTimeUptoRow.holds Try.pinned (OpenSpec.upto fnExactIsTimeSpec)

/-- 'laws.FnExactAgeOf', WHERE WHAT IT READS IS OF BULK AT MOST 1048576: true; the input reads as it did. -/
def fnExactAgeOfUptoRow : OpenClaim := { program := "ytmefcdkhddanmaa", sum := "bb9e25891df5fd83ccb7e273b02ed3f1535db84affe8f3a98f4cf63c0fd9096e", func := "loop.example/g00594/laws.FnExactAgeOf", spec := "fnExactAgeOf", apart := false, narrowed := true }
def FnExactAgeOfUptoSaid : Prop := fnExactAgeOfUptoRow.holds Try.pinned (OpenSpec.upto fnExactAgeOfSpec)

/-- 'laws.FnExactIsFresh', WHERE WHAT IT READS IS OF BULK AT MOST 1048576: true; the input reads as it did. -/
def fnExactIsFreshUptoRow : OpenClaim := { program := "ytmefcdkhddanmaa", sum := "bb9e25891df5fd83ccb7e273b02ed3f1535db84affe8f3a98f4cf63c0fd9096e", func := "loop.example/g00594/laws.FnExactIsFresh", spec := "fnExactIsFresh", apart := false, narrowed := true }
def FnExactIsFreshUptoSaid : Prop := fnExactIsFreshUptoRow.holds Try.pinned (OpenSpec.upto fnExactIsFreshSpec)

/-- 'laws.FnExactEndOf', WHERE WHAT IT READS IS OF BULK AT MOST 1048576: true; the input reads as it did. -/
def fnExactEndOfUptoRow : OpenClaim := { program := "ytmefcdkhddanmaa", sum := "bb9e25891df5fd83ccb7e273b02ed3f1535db84affe8f3a98f4cf63c0fd9096e", func := "loop.example/g00594/laws.FnExactEndOf", spec := "fnExactEndOf", apart := false, narrowed := true }
def FnExactEndOfUptoSaid : Prop := fnExactEndOfUptoRow.holds Try.pinned (OpenSpec.upto fnExactEndOfSpec)

/-- 'laws.FnExactIsWithin', WHERE WHAT IT READS IS OF BULK AT MOST 1048576: true; the input reads as it did. -/
def fnExactIsWithinUptoRow : OpenClaim := { program := "ytmefcdkhddanmaa", sum := "bb9e25891df5fd83ccb7e273b02ed3f1535db84affe8f3a98f4cf63c0fd9096e", func := "loop.example/g00594/laws.FnExactIsWithin", spec := "fnExactIsWithin", apart := false, narrowed := true }
def FnExactIsWithinUptoSaid : Prop := fnExactIsWithinUptoRow.holds Try.pinned (OpenSpec.upto fnExactIsWithinSpec)

/-- 'laws.FnExactLeftOf', WHERE WHAT IT READS IS OF BULK AT MOST 1048576: true; the input reads as it did. -/
def fnExactLeftOfUptoRow : OpenClaim := { program := "ytmefcdkhddanmaa", sum := "bb9e25891df5fd83ccb7e273b02ed3f1535db84affe8f3a98f4cf63c0fd9096e", func := "loop.example/g00594/laws.FnExactLeftOf", spec := "fnExactLeftOf", apart := false, narrowed := true }
def FnExactLeftOfUptoSaid : Prop := fnExactLeftOfUptoRow.holds Try.pinned (OpenSpec.upto fnExactLeftOfSpec)

end Rows
end Go.Proofs.Ytmefcdkhddanmaa
