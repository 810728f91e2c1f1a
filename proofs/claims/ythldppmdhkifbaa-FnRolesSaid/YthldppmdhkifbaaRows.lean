/-
  No cell of these rows narrows 'for every input' (looked for: loops, veiled, ifaces, maps, wideKeys, modest, calm, conditions, laid).
  DERIVED. THE GIVEN ROWS OF THIS SEAT. 8 by the template 'for every input the law returns true; each argument reads behind the call as it read before'; 0 by the template 'total and deterministic' (their statements: YthldppmdhkifbaaTotals.lean).
  GIVEN WITH THE SEED: the statements are not yours to turn. If you find one false, say at which input.
  Laid BY PROGRAM, IN A SANDBOX (cutbox-rows.mjs): the forced cells as the released guide's own fill.sh prints them over the translation b257c96f6aa5c9fb… (all of the seat's roots in one cut). By AI agents, Wed Nov 11 2026. No macro, syntax, notation, axiom, sorry.
-/
import Derived.Test.YthldppmdhkifbaaChecked
import GoSem.Claim
import GoSem.ClaimJoined
import GoSem.ClaimMapViews
import Derived.JoinedTies
import Derived.KernelRfl
namespace Go.Proofs.Ythldppmdhkifbaa
/- THE CELL 'sum', in the pinned program and in every row, IS THE sha256 OF THE DUMP (.gsa) THAT YthldppmdhkifbaaProg.lean LOADS. Nothing in Lean hashes anything: it is a label: what it is worth is what the hold of that sum in a sandbox is worth. -/
noncomputable def Try.pinned : Pinned := { name := "ythldppmdhkifbaa", sum := "b257c96f6aa5c9fb9e811391533bc8dfb594529fcc69d8108fdf9388e65f3139", checked := Try.checked }
namespace Rows
def none {H : Type} : Left H := { results := [], args := [] }

/-- 'laws.FnRoles': WHATEVER THE INPUT: true; the input reads as it did. -/
def fnRolesSpec : ChangeSpec := { name := "fnRoles", fn := fun _ => fun
  | [d] => { results := [.lit (.bool true)], args := [d] }
  | _ => none }
def fnRolesRow : OpenClaim := { program := "ythldppmdhkifbaa", sum := "b257c96f6aa5c9fb9e811391533bc8dfb594529fcc69d8108fdf9388e65f3139", func := "loop.example/g00594/laws.FnRoles", spec := "fnRoles", unfollowed := true, recurses := true, plainKeys := false, apart := false }
def FnRolesSaid : Prop := fnRolesRow.holds Try.pinned (OpenSpec.ofChange fnRolesSpec)

/-- ITS FALSE NEIGHBOUR: 'it returns false'. Refute it at one input. -/
def fnRolesWrong : ChangeSpec := { name := "fnRoles", fn := fun _ => fun
  | [d] => { results := [.lit (.bool false)], args := [d] }
  | _ => none }
def FnRolesWrongFalsely : Prop := fnRolesRow.holds Try.pinned (OpenSpec.ofChange fnRolesWrong)

/-- 'laws.FnExactArePairs': WHATEVER THE INPUT: true; the input reads as it did. -/
def fnExactArePairsSpec : ChangeSpec := { name := "fnExactArePairs", fn := fun _ => fun
  | [d] => { results := [.lit (.bool true)], args := [d] }
  | _ => none }
def fnExactArePairsRow : OpenClaim := { program := "ythldppmdhkifbaa", sum := "b257c96f6aa5c9fb9e811391533bc8dfb594529fcc69d8108fdf9388e65f3139", func := "loop.example/g00594/laws.FnExactArePairs", spec := "fnExactArePairs", plainKeys := false, apart := false }
def FnExactArePairsSaid : Prop := fnExactArePairsRow.holds Try.pinned (OpenSpec.ofChange fnExactArePairsSpec)

/-- ITS FALSE NEIGHBOUR: 'it returns false'. Refute it at one input. -/
def fnExactArePairsWrong : ChangeSpec := { name := "fnExactArePairs", fn := fun _ => fun
  | [d] => { results := [.lit (.bool false)], args := [d] }
  | _ => none }
def FnExactArePairsWrongFalsely : Prop := fnExactArePairsRow.holds Try.pinned (OpenSpec.ofChange fnExactArePairsWrong)

/-- 'laws.FnExactRolesUnder': WHATEVER THE INPUT: true; the input reads as it did. -/
def fnExactRolesUnderSpec : ChangeSpec := { name := "fnExactRolesUnder", fn := fun _ => fun
  | [d1, d2] => { results := [.lit (.bool true)], args := [d1, d2] }
  | _ => none }
def fnExactRolesUnderRow : OpenClaim := { program := "ythldppmdhkifbaa", sum := "b257c96f6aa5c9fb9e811391533bc8dfb594529fcc69d8108fdf9388e65f3139", func := "loop.example/g00594/laws.FnExactRolesUnder", spec := "fnExactRolesUnder", unfollowed := true, recurses := true, plainKeys := false, apart := false }
def FnExactRolesUnderSaid : Prop := fnExactRolesUnderRow.holds Try.pinned (OpenSpec.ofChange fnExactRolesUnderSpec)

/-- ITS FALSE NEIGHBOUR: 'it returns false'. Refute it at one input. -/
def fnExactRolesUnderWrong : ChangeSpec := { name := "fnExactRolesUnder", fn := fun _ => fun
  | [d1, d2] => { results := [.lit (.bool false)], args := [d1, d2] }
  | _ => none }
def FnExactRolesUnderWrongFalsely : Prop := fnExactRolesUnderRow.holds Try.pinned (OpenSpec.ofChange fnExactRolesUnderWrong)

/-- 'laws.FnExactRolesOf': WHATEVER THE INPUT: true; the input reads as it did. -/
def fnExactRolesOfSpec : ChangeSpec := { name := "fnExactRolesOf", fn := fun _ => fun
  | [d1, d2, d3, d4, d5] => { results := [.lit (.bool true)], args := [d1, d2, d3, d4, d5] }
  | _ => none }
def fnExactRolesOfRow : OpenClaim := { program := "ythldppmdhkifbaa", sum := "b257c96f6aa5c9fb9e811391533bc8dfb594529fcc69d8108fdf9388e65f3139", func := "loop.example/g00594/laws.FnExactRolesOf", spec := "fnExactRolesOf", unfollowed := true, recurses := true, plainKeys := false, apart := false }
def FnExactRolesOfSaid : Prop := fnExactRolesOfRow.holds Try.pinned (OpenSpec.ofChange fnExactRolesOfSpec)

/-- ITS FALSE NEIGHBOUR: 'it returns false'. Refute it at one input. -/
def fnExactRolesOfWrong : ChangeSpec := { name := "fnExactRolesOf", fn := fun _ => fun
  | [d1, d2, d3, d4, d5] => { results := [.lit (.bool false)], args := [d1, d2, d3, d4, d5] }
  | _ => none }
def FnExactRolesOfWrongFalsely : Prop := fnExactRolesOfRow.holds Try.pinned (OpenSpec.ofChange fnExactRolesOfWrong)

/-- 'laws.FnExactHasRole': WHATEVER THE INPUT: true; the input reads as it did. -/
def fnExactHasRoleSpec : ChangeSpec := { name := "fnExactHasRole", fn := fun _ => fun
  | [d1, d2, d3, d4, d5, d6] => { results := [.lit (.bool true)], args := [d1, d2, d3, d4, d5, d6] }
  | _ => none }
def fnExactHasRoleRow : OpenClaim := { program := "ythldppmdhkifbaa", sum := "b257c96f6aa5c9fb9e811391533bc8dfb594529fcc69d8108fdf9388e65f3139", func := "loop.example/g00594/laws.FnExactHasRole", spec := "fnExactHasRole", unfollowed := true, recurses := true, plainKeys := false, apart := false }
def FnExactHasRoleSaid : Prop := fnExactHasRoleRow.holds Try.pinned (OpenSpec.ofChange fnExactHasRoleSpec)

/-- ITS FALSE NEIGHBOUR: 'it returns false'. Refute it at one input. -/
def fnExactHasRoleWrong : ChangeSpec := { name := "fnExactHasRole", fn := fun _ => fun
  | [d1, d2, d3, d4, d5, d6] => { results := [.lit (.bool false)], args := [d1, d2, d3, d4, d5, d6] }
  | _ => none }
def FnExactHasRoleWrongFalsely : Prop := fnExactHasRoleRow.holds Try.pinned (OpenSpec.ofChange fnExactHasRoleWrong)

/-- 'laws.FnExactTopRoles': WHATEVER THE INPUT: true; the input reads as it did. -/
def fnExactTopRolesSpec : ChangeSpec := { name := "fnExactTopRoles", fn := fun _ => fun
  | [d] => { results := [.lit (.bool true)], args := [d] }
  | _ => none }
def fnExactTopRolesRow : OpenClaim := { program := "ythldppmdhkifbaa", sum := "b257c96f6aa5c9fb9e811391533bc8dfb594529fcc69d8108fdf9388e65f3139", func := "loop.example/g00594/laws.FnExactTopRoles", spec := "fnExactTopRoles", unfollowed := true, recurses := true, plainKeys := false, apart := false }
def FnExactTopRolesSaid : Prop := fnExactTopRolesRow.holds Try.pinned (OpenSpec.ofChange fnExactTopRolesSpec)

/-- ITS FALSE NEIGHBOUR: 'it returns false'. Refute it at one input. -/
def fnExactTopRolesWrong : ChangeSpec := { name := "fnExactTopRoles", fn := fun _ => fun
  | [d] => { results := [.lit (.bool false)], args := [d] }
  | _ => none }
def FnExactTopRolesWrongFalsely : Prop := fnExactTopRolesRow.holds Try.pinned (OpenSpec.ofChange fnExactTopRolesWrong)

/-- 'laws.FnFound': WHATEVER THE INPUT: true; the input reads as it did. -/
def fnFoundSpec : ChangeSpec := { name := "fnFound", fn := fun _ => fun
  | [d] => { results := [.lit (.bool true)], args := [d] }
  | _ => none }
def fnFoundRow : OpenClaim := { program := "ythldppmdhkifbaa", sum := "b257c96f6aa5c9fb9e811391533bc8dfb594529fcc69d8108fdf9388e65f3139", func := "loop.example/g00594/laws.FnFound", spec := "fnFound", unfollowed := true, recurses := true, plainKeys := false, apart := false }
def FnFoundSaid : Prop := fnFoundRow.holds Try.pinned (OpenSpec.ofChange fnFoundSpec)

/-- ITS FALSE NEIGHBOUR: 'it returns false'. Refute it at one input. -/
def fnFoundWrong : ChangeSpec := { name := "fnFound", fn := fun _ => fun
  | [d] => { results := [.lit (.bool false)], args := [d] }
  | _ => none }
def FnFoundWrongFalsely : Prop := fnFoundRow.holds Try.pinned (OpenSpec.ofChange fnFoundWrong)

/-- 'laws.FnExactBestValue': WHATEVER THE INPUT: true; the input reads as it did. -/
def fnExactBestValueSpec : ChangeSpec := { name := "fnExactBestValue", fn := fun _ => fun
  | [d1, d2, d3, d4, d5] => { results := [.lit (.bool true)], args := [d1, d2, d3, d4, d5] }
  | _ => none }
def fnExactBestValueRow : OpenClaim := { program := "ythldppmdhkifbaa", sum := "b257c96f6aa5c9fb9e811391533bc8dfb594529fcc69d8108fdf9388e65f3139", func := "loop.example/g00594/laws.FnExactBestValue", spec := "fnExactBestValue", plainKeys := false, apart := false }
def FnExactBestValueSaid : Prop := fnExactBestValueRow.holds Try.pinned (OpenSpec.ofChange fnExactBestValueSpec)

/-- ITS FALSE NEIGHBOUR: 'it returns false'. Refute it at one input. -/
def fnExactBestValueWrong : ChangeSpec := { name := "fnExactBestValue", fn := fun _ => fun
  | [d1, d2, d3, d4, d5] => { results := [.lit (.bool false)], args := [d1, d2, d3, d4, d5] }
  | _ => none }
def FnExactBestValueWrongFalsely : Prop := fnExactBestValueRow.holds Try.pinned (OpenSpec.ofChange fnExactBestValueWrong)

/- THE SECOND FORM. 'bulk': how many values and letters a reading holds, each counted each time it is reached (what is shared counts as often as it is met; a slice's spare places count too). A statement '..UptoSaid' is the law's where the arguments, and the package variables that the reading takes, are together of bulk at most 1048576: NARROWER than '..Said'. Prove '..Said' where nothing that the law and all that it calls make is longer than what came in: it says more and counts as full. Else prove '..UptoSaid'. A law counts once. -/
mutual
def uptoBulk {H : Type} : DataW H → Nat
  | .lit (.string bytes) => bytes.length + 1
  | .lit _ => 1
  | .nil => 1
  | .ptr d => uptoBulk d + 1
  | .slice elems spare => uptoBulkAll elems + uptoBulkAll spare + 1
  | .agg parts => uptoBulkAll parts + 1
  | .iface _ d => uptoBulk d + 1
  | .map entries => uptoBulkEntries entries + 1
  | .held _ => 1
def uptoBulkAll {H : Type} : List (DataW H) → Nat
  | [] => 0
  | d :: r => uptoBulk d + uptoBulkAll r
def uptoBulkEntries {H : Type} : List (Lit × DataW H) → Nat
  | [] => 0
  | x :: r => uptoBulkEntry x + uptoBulkEntries r
def uptoBulkEntry {H : Type} : Lit × DataW H → Nat
  | (.string bytes, d) => bytes.length + uptoBulk d + 1
  | (_, d) => uptoBulk d + 1
 end
def uptoSmall : (H : Type) → List (DataW H) → Bool := fun _ ds => decide (uptoBulkAll ds ≤ 1048576)
def OpenSpec.upto (s : _root_.Go.ChangeSpec) : _root_.Go.OpenSpec := { _root_.Go.OpenSpec.ofChange s with cond := some uptoSmall }

/-- 'laws.FnRoles', WHERE WHAT IT READS IS OF BULK AT MOST 1048576: true; the input reads as it did. -/
def fnRolesUptoRow : OpenClaim := { program := "ythldppmdhkifbaa", sum := "b257c96f6aa5c9fb9e811391533bc8dfb594529fcc69d8108fdf9388e65f3139", func := "loop.example/g00594/laws.FnRoles", spec := "fnRoles", unfollowed := true, recurses := true, plainKeys := false, apart := false, narrowed := true }
def FnRolesUptoSaid : Prop := fnRolesUptoRow.holds Try.pinned (OpenSpec.upto fnRolesSpec)

/-- 'laws.FnExactArePairs', WHERE WHAT IT READS IS OF BULK AT MOST 1048576: true; the input reads as it did. -/
def fnExactArePairsUptoRow : OpenClaim := { program := "ythldppmdhkifbaa", sum := "b257c96f6aa5c9fb9e811391533bc8dfb594529fcc69d8108fdf9388e65f3139", func := "loop.example/g00594/laws.FnExactArePairs", spec := "fnExactArePairs", plainKeys := false, apart := false, narrowed := true }
def FnExactArePairsUptoSaid : Prop := fnExactArePairsUptoRow.holds Try.pinned (OpenSpec.upto fnExactArePairsSpec)

/-- 'laws.FnExactRolesUnder', WHERE WHAT IT READS IS OF BULK AT MOST 1048576: true; the input reads as it did. -/
def fnExactRolesUnderUptoRow : OpenClaim := { program := "ythldppmdhkifbaa", sum := "b257c96f6aa5c9fb9e811391533bc8dfb594529fcc69d8108fdf9388e65f3139", func := "loop.example/g00594/laws.FnExactRolesUnder", spec := "fnExactRolesUnder", unfollowed := true, recurses := true, plainKeys := false, apart := false, narrowed := true }
def FnExactRolesUnderUptoSaid : Prop := fnExactRolesUnderUptoRow.holds Try.pinned (OpenSpec.upto fnExactRolesUnderSpec)

/-- 'laws.FnExactRolesOf', WHERE WHAT IT READS IS OF BULK AT MOST 1048576: true; the input reads as it did. -/
def fnExactRolesOfUptoRow : OpenClaim := { program := "ythldppmdhkifbaa", sum := "b257c96f6aa5c9fb9e811391533bc8dfb594529fcc69d8108fdf9388e65f3139", func := "loop.example/g00594/laws.FnExactRolesOf", spec := "fnExactRolesOf", unfollowed := true, recurses := true, plainKeys := false, apart := false, narrowed := true }
def FnExactRolesOfUptoSaid : Prop := fnExactRolesOfUptoRow.holds Try.pinned (OpenSpec.upto fnExactRolesOfSpec)

/-- 'laws.FnExactHasRole', WHERE WHAT IT READS IS OF BULK AT MOST 1048576: true; the input reads as it did. -/
def fnExactHasRoleUptoRow : OpenClaim := { program := "ythldppmdhkifbaa", sum := "b257c96f6aa5c9fb9e811391533bc8dfb594529fcc69d8108fdf9388e65f3139", func := "loop.example/g00594/laws.FnExactHasRole", spec := "fnExactHasRole", unfollowed := true, recurses := true, plainKeys := false, apart := false, narrowed := true }
def FnExactHasRoleUptoSaid : Prop := fnExactHasRoleUptoRow.holds Try.pinned (OpenSpec.upto fnExactHasRoleSpec)

/-- 'laws.FnExactTopRoles', WHERE WHAT IT READS IS OF BULK AT MOST 1048576: true; the input reads as it did. -/
def fnExactTopRolesUptoRow : OpenClaim := { program := "ythldppmdhkifbaa", sum := "b257c96f6aa5c9fb9e811391533bc8dfb594529fcc69d8108fdf9388e65f3139", func := "loop.example/g00594/laws.FnExactTopRoles", spec := "fnExactTopRoles", unfollowed := true, recurses := true, plainKeys := false, apart := false, narrowed := true }
def FnExactTopRolesUptoSaid : Prop := fnExactTopRolesUptoRow.holds Try.pinned (OpenSpec.upto fnExactTopRolesSpec)

/-- 'laws.FnFound', WHERE WHAT IT READS IS OF BULK AT MOST 1048576: true; the input reads as it did. -/
def fnFoundUptoRow : OpenClaim := { program := "ythldppmdhkifbaa", sum := "b257c96f6aa5c9fb9e811391533bc8dfb594529fcc69d8108fdf9388e65f3139", func := "loop.example/g00594/laws.FnFound", spec := "fnFound", unfollowed := true, recurses := true, plainKeys := false, apart := false, narrowed := true }
def FnFoundUptoSaid : Prop := fnFoundUptoRow.holds Try.pinned (OpenSpec.upto fnFoundSpec)

/-- 'laws.FnExactBestValue', WHERE WHAT IT READS IS OF BULK AT MOST 1048576: true; the input reads as it did. -/
def fnExactBestValueUptoRow : OpenClaim := { program := "ythldppmdhkifbaa", sum := "b257c96f6aa5c9fb9e811391533bc8dfb594529fcc69d8108fdf9388e65f3139", func := "loop.example/g00594/laws.FnExactBestValue", spec := "fnExactBestValue", plainKeys := false, apart := false, narrowed := true }
def FnExactBestValueUptoSaid : Prop := fnExactBestValueUptoRow.holds Try.pinned (OpenSpec.upto fnExactBestValueSpec)

end Rows
end Go.Proofs.Ythldppmdhkifbaa
