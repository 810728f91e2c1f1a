/-
  No cell of these rows narrows 'for every input' (looked for: loops, veiled, ifaces, maps, wideKeys, modest, calm, conditions, laid).
  DERIVED. THE GIVEN ROWS OF THIS SEAT. 9 by the template 'for every input the law returns true; each argument reads behind the call as it read before'; 0 by the template 'total and deterministic' (their statements: YtelkbfhekacinaaTotals.lean).
  GIVEN WITH THE SEED: the statements are not yours to turn. If you find one false, say at which input.
  Laid BY PROGRAM, IN A SANDBOX (cutbox-rows.mjs): the forced cells as the released guide's own fill.sh prints them over the translation 1880be103767b6ec… (all of the seat's roots in one cut). By AI agents, Wed Nov 11 2026. No macro, syntax, notation, axiom, sorry.
-/
import Derived.Test.YtelkbfhekacinaaChecked
import GoSem.Claim
import GoSem.ClaimJoined
import GoSem.ClaimMapViews
import Derived.JoinedTies
import Derived.KernelRfl
namespace Go.Proofs.Ytelkbfhekacinaa
/- THE CELL 'sum', in the pinned program and in every row, IS THE sha256 OF THE DUMP (.gsa) THAT YtelkbfhekacinaaProg.lean LOADS. Nothing in Lean hashes anything: it is a label: what it is worth is what the hold of that sum in a sandbox is worth. -/
noncomputable def Try.pinned : Pinned := { name := "ytelkbfhekacinaa", sum := "1880be103767b6ec2b30b842084085293e22148194f3dc3b647615707ea19c75", checked := Try.checked }
namespace Rows
def none {H : Type} : Left H := { results := [], args := [] }

/-- 'laws.FnStores': WHATEVER THE INPUT: true; the input reads as it did. -/
def fnStoresSpec : ChangeSpec := { name := "fnStores", fn := fun _ => fun
  | [d] => { results := [.lit (.bool true)], args := [d] }
  | _ => none }
def fnStoresRow : OpenClaim := { program := "ytelkbfhekacinaa", sum := "1880be103767b6ec2b30b842084085293e22148194f3dc3b647615707ea19c75", func := "loop.example/g00594/laws.FnStores", spec := "fnStores", inPlace := ["slices.overlaps[loop.example/g00594/impl.Fact]"], unfollowed := true, recurses := true, plainKeys := false, apart := false }
def FnStoresSaid : Prop := fnStoresRow.holds Try.pinned (OpenSpec.ofChange fnStoresSpec)

/-- ITS FALSE NEIGHBOUR: 'it returns false'. Refute it at one input. -/
def fnStoresWrong : ChangeSpec := { name := "fnStores", fn := fun _ => fun
  | [d] => { results := [.lit (.bool false)], args := [d] }
  | _ => none }
def FnStoresWrongFalsely : Prop := fnStoresRow.holds Try.pinned (OpenSpec.ofChange fnStoresWrong)

/-- 'laws.FnFound': WHATEVER THE INPUT: true; the input reads as it did. -/
def fnFoundSpec : ChangeSpec := { name := "fnFound", fn := fun _ => fun
  | [d] => { results := [.lit (.bool true)], args := [d] }
  | _ => none }
def fnFoundRow : OpenClaim := { program := "ytelkbfhekacinaa", sum := "1880be103767b6ec2b30b842084085293e22148194f3dc3b647615707ea19c75", func := "loop.example/g00594/laws.FnFound", spec := "fnFound", unfollowed := true, recurses := true, plainKeys := false, apart := false }
def FnFoundSaid : Prop := fnFoundRow.holds Try.pinned (OpenSpec.ofChange fnFoundSpec)

/-- ITS FALSE NEIGHBOUR: 'it returns false'. Refute it at one input. -/
def fnFoundWrong : ChangeSpec := { name := "fnFound", fn := fun _ => fun
  | [d] => { results := [.lit (.bool false)], args := [d] }
  | _ => none }
def FnFoundWrongFalsely : Prop := fnFoundRow.holds Try.pinned (OpenSpec.ofChange fnFoundWrong)

/-- 'laws.FnExactIsStore': WHATEVER THE INPUT: true; the input reads as it did. -/
def fnExactIsStoreSpec : ChangeSpec := { name := "fnExactIsStore", fn := fun _ => fun
  | [d] => { results := [.lit (.bool true)], args := [d] }
  | _ => none }
def fnExactIsStoreRow : OpenClaim := { program := "ytelkbfhekacinaa", sum := "1880be103767b6ec2b30b842084085293e22148194f3dc3b647615707ea19c75", func := "loop.example/g00594/laws.FnExactIsStore", spec := "fnExactIsStore", plainKeys := false, apart := false }
def FnExactIsStoreSaid : Prop := fnExactIsStoreRow.holds Try.pinned (OpenSpec.ofChange fnExactIsStoreSpec)

/-- ITS FALSE NEIGHBOUR: 'it returns false'. Refute it at one input. -/
def fnExactIsStoreWrong : ChangeSpec := { name := "fnExactIsStore", fn := fun _ => fun
  | [d] => { results := [.lit (.bool false)], args := [d] }
  | _ => none }
def FnExactIsStoreWrongFalsely : Prop := fnExactIsStoreRow.holds Try.pinned (OpenSpec.ofChange fnExactIsStoreWrong)

/-- 'laws.FnExactPutFact': WHATEVER THE INPUT: true; the input reads as it did. -/
def fnExactPutFactSpec : ChangeSpec := { name := "fnExactPutFact", fn := fun _ => fun
  | [d1, d2] => { results := [.lit (.bool true)], args := [d1, d2] }
  | _ => none }
def fnExactPutFactRow : OpenClaim := { program := "ytelkbfhekacinaa", sum := "1880be103767b6ec2b30b842084085293e22148194f3dc3b647615707ea19c75", func := "loop.example/g00594/laws.FnExactPutFact", spec := "fnExactPutFact", inPlace := ["slices.overlaps[loop.example/g00594/impl.Fact]"], unfollowed := true, recurses := true, plainKeys := false, apart := false }
def FnExactPutFactSaid : Prop := fnExactPutFactRow.holds Try.pinned (OpenSpec.ofChange fnExactPutFactSpec)

/-- ITS FALSE NEIGHBOUR: 'it returns false'. Refute it at one input. -/
def fnExactPutFactWrong : ChangeSpec := { name := "fnExactPutFact", fn := fun _ => fun
  | [d1, d2] => { results := [.lit (.bool false)], args := [d1, d2] }
  | _ => none }
def FnExactPutFactWrongFalsely : Prop := fnExactPutFactRow.holds Try.pinned (OpenSpec.ofChange fnExactPutFactWrong)

/-- 'laws.FnExactFindFact': WHATEVER THE INPUT: true; the input reads as it did. -/
def fnExactFindFactSpec : ChangeSpec := { name := "fnExactFindFact", fn := fun _ => fun
  | [d1, d2, d3, d4, d5, d6] => { results := [.lit (.bool true)], args := [d1, d2, d3, d4, d5, d6] }
  | _ => none }
def fnExactFindFactRow : OpenClaim := { program := "ytelkbfhekacinaa", sum := "1880be103767b6ec2b30b842084085293e22148194f3dc3b647615707ea19c75", func := "loop.example/g00594/laws.FnExactFindFact", spec := "fnExactFindFact", unfollowed := true, recurses := true, plainKeys := false, apart := false }
def FnExactFindFactSaid : Prop := fnExactFindFactRow.holds Try.pinned (OpenSpec.ofChange fnExactFindFactSpec)

/-- ITS FALSE NEIGHBOUR: 'it returns false'. Refute it at one input. -/
def fnExactFindFactWrong : ChangeSpec := { name := "fnExactFindFact", fn := fun _ => fun
  | [d1, d2, d3, d4, d5, d6] => { results := [.lit (.bool false)], args := [d1, d2, d3, d4, d5, d6] }
  | _ => none }
def FnExactFindFactWrongFalsely : Prop := fnExactFindFactRow.holds Try.pinned (OpenSpec.ofChange fnExactFindFactWrong)

/-- 'laws.FnExactDropPast': WHATEVER THE INPUT: true; the input reads as it did. -/
def fnExactDropPastSpec : ChangeSpec := { name := "fnExactDropPast", fn := fun _ => fun
  | [d1, d2] => { results := [.lit (.bool true)], args := [d1, d2] }
  | _ => none }
def fnExactDropPastRow : OpenClaim := { program := "ytelkbfhekacinaa", sum := "1880be103767b6ec2b30b842084085293e22148194f3dc3b647615707ea19c75", func := "loop.example/g00594/laws.FnExactDropPast", spec := "fnExactDropPast", plainKeys := false, apart := false }
def FnExactDropPastSaid : Prop := fnExactDropPastRow.holds Try.pinned (OpenSpec.ofChange fnExactDropPastSpec)

/-- ITS FALSE NEIGHBOUR: 'it returns false'. Refute it at one input. -/
def fnExactDropPastWrong : ChangeSpec := { name := "fnExactDropPast", fn := fun _ => fun
  | [d1, d2] => { results := [.lit (.bool false)], args := [d1, d2] }
  | _ => none }
def FnExactDropPastWrongFalsely : Prop := fnExactDropPastRow.holds Try.pinned (OpenSpec.ofChange fnExactDropPastWrong)

/-- 'laws.FnExactMergeStores': WHATEVER THE INPUT: true; the input reads as it did. -/
def fnExactMergeStoresSpec : ChangeSpec := { name := "fnExactMergeStores", fn := fun _ => fun
  | [d1, d2] => { results := [.lit (.bool true)], args := [d1, d2] }
  | _ => none }
def fnExactMergeStoresRow : OpenClaim := { program := "ytelkbfhekacinaa", sum := "1880be103767b6ec2b30b842084085293e22148194f3dc3b647615707ea19c75", func := "loop.example/g00594/laws.FnExactMergeStores", spec := "fnExactMergeStores", inPlace := ["slices.overlaps[loop.example/g00594/impl.Fact]"], unfollowed := true, recurses := true, plainKeys := false, apart := false }
def FnExactMergeStoresSaid : Prop := fnExactMergeStoresRow.holds Try.pinned (OpenSpec.ofChange fnExactMergeStoresSpec)

/-- ITS FALSE NEIGHBOUR: 'it returns false'. Refute it at one input. -/
def fnExactMergeStoresWrong : ChangeSpec := { name := "fnExactMergeStores", fn := fun _ => fun
  | [d1, d2] => { results := [.lit (.bool false)], args := [d1, d2] }
  | _ => none }
def FnExactMergeStoresWrongFalsely : Prop := fnExactMergeStoresRow.holds Try.pinned (OpenSpec.ofChange fnExactMergeStoresWrong)

/-- 'laws.FnExactBestValue': WHATEVER THE INPUT: true; the input reads as it did. -/
def fnExactBestValueSpec : ChangeSpec := { name := "fnExactBestValue", fn := fun _ => fun
  | [d1, d2, d3, d4, d5] => { results := [.lit (.bool true)], args := [d1, d2, d3, d4, d5] }
  | _ => none }
def fnExactBestValueRow : OpenClaim := { program := "ytelkbfhekacinaa", sum := "1880be103767b6ec2b30b842084085293e22148194f3dc3b647615707ea19c75", func := "loop.example/g00594/laws.FnExactBestValue", spec := "fnExactBestValue", plainKeys := false, apart := false }
def FnExactBestValueSaid : Prop := fnExactBestValueRow.holds Try.pinned (OpenSpec.ofChange fnExactBestValueSpec)

/-- ITS FALSE NEIGHBOUR: 'it returns false'. Refute it at one input. -/
def fnExactBestValueWrong : ChangeSpec := { name := "fnExactBestValue", fn := fun _ => fun
  | [d1, d2, d3, d4, d5] => { results := [.lit (.bool false)], args := [d1, d2, d3, d4, d5] }
  | _ => none }
def FnExactBestValueWrongFalsely : Prop := fnExactBestValueRow.holds Try.pinned (OpenSpec.ofChange fnExactBestValueWrong)

/-- 'laws.FnExactEqualStores': WHATEVER THE INPUT: true; the input reads as it did. -/
def fnExactEqualStoresSpec : ChangeSpec := { name := "fnExactEqualStores", fn := fun _ => fun
  | [d1, d2] => { results := [.lit (.bool true)], args := [d1, d2] }
  | _ => none }
def fnExactEqualStoresRow : OpenClaim := { program := "ytelkbfhekacinaa", sum := "1880be103767b6ec2b30b842084085293e22148194f3dc3b647615707ea19c75", func := "loop.example/g00594/laws.FnExactEqualStores", spec := "fnExactEqualStores", plainKeys := false, apart := false }
def FnExactEqualStoresSaid : Prop := fnExactEqualStoresRow.holds Try.pinned (OpenSpec.ofChange fnExactEqualStoresSpec)

/-- ITS FALSE NEIGHBOUR: 'it returns false'. Refute it at one input. -/
def fnExactEqualStoresWrong : ChangeSpec := { name := "fnExactEqualStores", fn := fun _ => fun
  | [d1, d2] => { results := [.lit (.bool false)], args := [d1, d2] }
  | _ => none }
def FnExactEqualStoresWrongFalsely : Prop := fnExactEqualStoresRow.holds Try.pinned (OpenSpec.ofChange fnExactEqualStoresWrong)

/- THE SECOND FORM. 'bulk': how many values and letters a reading holds, each counted each time it is reached (what is shared counts as often as it is met; a slice's spare places count too). A statement '..UptoSaid' is the law's where the arguments, and the package variables that the reading takes, are together of bulk at most 1048576: NARROWER than '..Said'. Prove '..Said' where nothing that the law and all that it calls make is longer than what came in: it says more and counts as full. Else prove '..UptoSaid'. A law counts once. -/
mutual
def uptoBulk {H : Type} : DataW H → Nat
  | .lit (.string bytes) => bytes.length + 1
  | .lit _ => 1
  | .nil => 1
  | .ptr d => uptoBulk d + 1
  | .slice elems spare => uptoBulkAll elems + uptoBulkAll spare + 1
  | .agg parts => uptoBulkAll parts + 1
  | .iface _ d => uptoBulk d + 1
  | .map entries => uptoBulkEntries entries + 1
  | .held _ => 1
def uptoBulkAll {H : Type} : List (DataW H) → Nat
  | [] => 0
  | d :: r => uptoBulk d + uptoBulkAll r
def uptoBulkEntries {H : Type} : List (Lit × DataW H) → Nat
  | [] => 0
  | x :: r => uptoBulkEntry x + uptoBulkEntries r
def uptoBulkEntry {H : Type} : Lit × DataW H → Nat
  | (.string bytes, d) => bytes.length + uptoBulk d + 1
  | (_, d) => uptoBulk d + 1
 end
def uptoSmall : (H : Type) → List (DataW H) → Bool := fun _ ds => decide (uptoBulkAll ds ≤ 1048576)
def OpenSpec.upto (s : _root_.Go.ChangeSpec) : _root_.Go.OpenSpec := { _root_.Go.OpenSpec.ofChange s with cond := some uptoSmall }

/-- 'laws.FnStores', WHERE WHAT IT READS IS OF BULK AT MOST 1048576: true; the input reads as it did. -/
def fnStoresUptoRow : OpenClaim := { program := "ytelkbfhekacinaa", sum := "1880be103767b6ec2b30b842084085293e22148194f3dc3b647615707ea19c75", func := "loop.example/g00594/laws.FnStores", spec := "fnStores", inPlace := ["slices.overlaps[loop.example/g00594/impl.Fact]"], unfollowed := true, recurses := true, plainKeys := false, apart := false, narrowed := true }
def FnStoresUptoSaid : Prop := fnStoresUptoRow.holds Try.pinned (OpenSpec.upto fnStoresSpec)

/-- 'laws.FnFound', WHERE WHAT IT READS IS OF BULK AT MOST 1048576: true; the input reads as it did. -/
def fnFoundUptoRow : OpenClaim := { program := "ytelkbfhekacinaa", sum := "1880be103767b6ec2b30b842084085293e22148194f3dc3b647615707ea19c75", func := "loop.example/g00594/laws.FnFound", spec := "fnFound", unfollowed := true, recurses := true, plainKeys := false, apart := false, narrowed := true }
def FnFoundUptoSaid : Prop := fnFoundUptoRow.holds Try.pinned (OpenSpec.upto fnFoundSpec)

/-- 'laws.FnExactIsStore', WHERE WHAT IT READS IS OF BULK AT MOST 1048576: true; the input reads as it did. -/
def fnExactIsStoreUptoRow : OpenClaim := { program := "ytelkbfhekacinaa", sum := "1880be103767b6ec2b30b842084085293e22148194f3dc3b647615707ea19c75", func := "loop.example/g00594/laws.FnExactIsStore", spec := "fnExactIsStore", plainKeys := false, apart := false, narrowed := true }
def FnExactIsStoreUptoSaid : Prop := fnExactIsStoreUptoRow.holds Try.pinned (OpenSpec.upto fnExactIsStoreSpec)

/-- 'laws.FnExactPutFact', WHERE WHAT IT READS IS OF BULK AT MOST 1048576: true; the input reads as it did. -/
def fnExactPutFactUptoRow : OpenClaim := { program := "ytelkbfhekacinaa", sum := "1880be103767b6ec2b30b842084085293e22148194f3dc3b647615707ea19c75", func := "loop.example/g00594/laws.FnExactPutFact", spec := "fnExactPutFact", inPlace := ["slices.overlaps[loop.example/g00594/impl.Fact]"], unfollowed := true, recurses := true, plainKeys := false, apart := false, narrowed := true }
def FnExactPutFactUptoSaid : Prop := fnExactPutFactUptoRow.holds Try.pinned (OpenSpec.upto fnExactPutFactSpec)

/-- 'laws.FnExactFindFact', WHERE WHAT IT READS IS OF BULK AT MOST 1048576: true; the input reads as it did. -/
def fnExactFindFactUptoRow : OpenClaim := { program := "ytelkbfhekacinaa", sum := "1880be103767b6ec2b30b842084085293e22148194f3dc3b647615707ea19c75", func := "loop.example/g00594/laws.FnExactFindFact", spec := "fnExactFindFact", unfollowed := true, recurses := true, plainKeys := false, apart := false, narrowed := true }
def FnExactFindFactUptoSaid : Prop := fnExactFindFactUptoRow.holds Try.pinned (OpenSpec.upto fnExactFindFactSpec)

/-- 'laws.FnExactDropPast', WHERE WHAT IT READS IS OF BULK AT MOST 1048576: true; the input reads as it did. -/
def fnExactDropPastUptoRow : OpenClaim := { program := "ytelkbfhekacinaa", sum := "1880be103767b6ec2b30b842084085293e22148194f3dc3b647615707ea19c75", func := "loop.example/g00594/laws.FnExactDropPast", spec := "fnExactDropPast", plainKeys := false, apart := false, narrowed := true }
def FnExactDropPastUptoSaid : Prop := fnExactDropPastUptoRow.holds Try.pinned (OpenSpec.upto fnExactDropPastSpec)

/-- 'laws.FnExactMergeStores', WHERE WHAT IT READS IS OF BULK AT MOST 1048576: true; the input reads as it did. -/
def fnExactMergeStoresUptoRow : OpenClaim := { program := "ytelkbfhekacinaa", sum := "1880be103767b6ec2b30b842084085293e22148194f3dc3b647615707ea19c75", func := "loop.example/g00594/laws.FnExactMergeStores", spec := "fnExactMergeStores", inPlace := ["slices.overlaps[loop.example/g00594/impl.Fact]"], unfollowed := true, recurses := true, plainKeys := false, apart := false, narrowed := true }
def FnExactMergeStoresUptoSaid : Prop := fnExactMergeStoresUptoRow.holds Try.pinned (OpenSpec.upto fnExactMergeStoresSpec)

/-- 'laws.FnExactBestValue', WHERE WHAT IT READS IS OF BULK AT MOST 1048576: true; the input reads as it did. -/
def fnExactBestValueUptoRow : OpenClaim := { program := "ytelkbfhekacinaa", sum := "1880be103767b6ec2b30b842084085293e22148194f3dc3b647615707ea19c75", func := "loop.example/g00594/laws.FnExactBestValue", spec := "fnExactBestValue", plainKeys := false, apart := false, narrowed := true }
def FnExactBestValueUptoSaid : Prop := fnExactBestValueUptoRow.holds Try.pinned (OpenSpec.upto fnExactBestValueSpec)

/-- 'laws.FnExactEqualStores', WHERE WHAT IT READS IS OF BULK AT MOST 1048576: true; the input reads as it did. -/
def fnExactEqualStoresUptoRow : OpenClaim := { program := "ytelkbfhekacinaa", sum := "1880be103767b6ec2b30b842084085293e22148194f3dc3b647615707ea19c75", func := "loop.example/g00594/laws.FnExactEqualStores", spec := "fnExactEqualStores", plainKeys := false, apart := false, narrowed := true }
def FnExactEqualStoresUptoSaid : Prop := fnExactEqualStoresUptoRow.holds Try.pinned (OpenSpec.upto fnExactEqualStoresSpec)

end Rows
end Go.Proofs.Ytelkbfhekacinaa
