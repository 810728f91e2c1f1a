/-
  No cell of these rows narrows 'for every input' (looked for: loops, veiled, ifaces, maps, wideKeys, modest, calm, conditions, laid).
  DERIVED. THE GIVEN ROWS OF THIS SEAT. 4 by the template 'for every input the law returns true; each argument reads behind the call as it read before'; 0 by the template 'total and deterministic' (their statements: YtagbbndiofimdaaTotals.lean).
  GIVEN WITH THE SEED: the statements are not yours to turn. If you find one false, say at which input.
  Laid BY PROGRAM, IN A SANDBOX (cutbox-rows.mjs): the forced cells as the released guide's own fill.sh prints them over the translation ac971752b6dc83cd… (all of the seat's roots in one cut). By AI agents, Wed Nov 11 2026. No macro, syntax, notation, axiom, sorry.
-/
import Derived.Test.YtagbbndiofimdaaChecked
import GoSem.Claim
import GoSem.ClaimJoined
import GoSem.ClaimMapViews
import Derived.JoinedTies
import Derived.KernelRfl
namespace Go.Proofs.Ytagbbndiofimdaa
/- THE CELL 'sum', in the pinned program and in every row, IS THE sha256 OF THE DUMP (.gsa) THAT YtagbbndiofimdaaProg.lean LOADS. Nothing in Lean hashes anything: it is a label: what it is worth is what the hold of that sum in a sandbox is worth. -/
noncomputable def Try.pinned : Pinned := { name := "ytagbbndiofimdaa", sum := "ac971752b6dc83cd431ee8e04fdb267c64e7eef0796d3886d1df0a4d544435d9", checked := Try.checked }
namespace Rows
def none {H : Type} : Left H := { results := [], args := [] }

/-- 'laws.FnExactExtendRegister': WHATEVER THE INPUT: true; the input reads as it did. -/
def fnExactExtendRegisterSpec : ChangeSpec := { name := "fnExactExtendRegister", fn := fun _ => fun
  | [d1, d2] => { results := [.lit (.bool true)], args := [d1, d2] }
  | _ => none }
def fnExactExtendRegisterRow : OpenClaim := { program := "ytagbbndiofimdaa", sum := "ac971752b6dc83cd431ee8e04fdb267c64e7eef0796d3886d1df0a4d544435d9", func := "loop.example/g00594/laws.FnExactExtendRegister", spec := "fnExactExtendRegister", unfollowed := true, recurses := true, apart := false }
def FnExactExtendRegisterSaid : Prop := fnExactExtendRegisterRow.holds Try.pinned (OpenSpec.ofChange fnExactExtendRegisterSpec)

/-- ITS FALSE NEIGHBOUR: 'it returns false'. Refute it at one input. -/
def fnExactExtendRegisterWrong : ChangeSpec := { name := "fnExactExtendRegister", fn := fun _ => fun
  | [d1, d2] => { results := [.lit (.bool false)], args := [d1, d2] }
  | _ => none }
def FnExactExtendRegisterWrongFalsely : Prop := fnExactExtendRegisterRow.holds Try.pinned (OpenSpec.ofChange fnExactExtendRegisterWrong)

/-- 'laws.FnExactRegisterOf': WHATEVER THE INPUT: true; the input reads as it did. -/
def fnExactRegisterOfSpec : ChangeSpec := { name := "fnExactRegisterOf", fn := fun _ => fun
  | [d] => { results := [.lit (.bool true)], args := [d] }
  | _ => none }
def fnExactRegisterOfRow : OpenClaim := { program := "ytagbbndiofimdaa", sum := "ac971752b6dc83cd431ee8e04fdb267c64e7eef0796d3886d1df0a4d544435d9", func := "loop.example/g00594/laws.FnExactRegisterOf", spec := "fnExactRegisterOf", unfollowed := true, recurses := true, apart := false }
def FnExactRegisterOfSaid : Prop := fnExactRegisterOfRow.holds Try.pinned (OpenSpec.ofChange fnExactRegisterOfSpec)

/-- ITS FALSE NEIGHBOUR: 'it returns false'. Refute it at one input. -/
def fnExactRegisterOfWrong : ChangeSpec := { name := "fnExactRegisterOf", fn := fun _ => fun
  | [d] => { results := [.lit (.bool false)], args := [d] }
  | _ => none }
def FnExactRegisterOfWrongFalsely : Prop := fnExactRegisterOfRow.holds Try.pinned (OpenSpec.ofChange fnExactRegisterOfWrong)

/-- 'laws.FnExactIsLog': WHATEVER THE INPUT: true; the input reads as it did. -/
def fnExactIsLogSpec : ChangeSpec := { name := "fnExactIsLog", fn := fun _ => fun
  | [d] => { results := [.lit (.bool true)], args := [d] }
  | _ => none }
def fnExactIsLogRow : OpenClaim := { program := "ytagbbndiofimdaa", sum := "ac971752b6dc83cd431ee8e04fdb267c64e7eef0796d3886d1df0a4d544435d9", func := "loop.example/g00594/laws.FnExactIsLog", spec := "fnExactIsLog", apart := false }
def FnExactIsLogSaid : Prop := fnExactIsLogRow.holds Try.pinned (OpenSpec.ofChange fnExactIsLogSpec)

/-- ITS FALSE NEIGHBOUR: 'it returns false'. Refute it at one input. -/
def fnExactIsLogWrong : ChangeSpec := { name := "fnExactIsLog", fn := fun _ => fun
  | [d] => { results := [.lit (.bool false)], args := [d] }
  | _ => none }
def FnExactIsLogWrongFalsely : Prop := fnExactIsLogRow.holds Try.pinned (OpenSpec.ofChange fnExactIsLogWrong)

/-- 'laws.FnExactIsPrefixLog': WHATEVER THE INPUT: true; the input reads as it did. -/
def fnExactIsPrefixLogSpec : ChangeSpec := { name := "fnExactIsPrefixLog", fn := fun _ => fun
  | [d1, d2] => { results := [.lit (.bool true)], args := [d1, d2] }
  | _ => none }
def fnExactIsPrefixLogRow : OpenClaim := { program := "ytagbbndiofimdaa", sum := "ac971752b6dc83cd431ee8e04fdb267c64e7eef0796d3886d1df0a4d544435d9", func := "loop.example/g00594/laws.FnExactIsPrefixLog", spec := "fnExactIsPrefixLog", apart := false }
def FnExactIsPrefixLogSaid : Prop := fnExactIsPrefixLogRow.holds Try.pinned (OpenSpec.ofChange fnExactIsPrefixLogSpec)

/-- ITS FALSE NEIGHBOUR: 'it returns false'. Refute it at one input. -/
def fnExactIsPrefixLogWrong : ChangeSpec := { name := "fnExactIsPrefixLog", fn := fun _ => fun
  | [d1, d2] => { results := [.lit (.bool false)], args := [d1, d2] }
  | _ => none }
def FnExactIsPrefixLogWrongFalsely : Prop := fnExactIsPrefixLogRow.holds Try.pinned (OpenSpec.ofChange fnExactIsPrefixLogWrong)

/- THE SECOND FORM. 'bulk': how many values and letters a reading holds, each counted each time it is reached (what is shared counts as often as it is met; a slice's spare places count too). A statement '..UptoSaid' is the law's where the arguments, and the package variables that the reading takes, are together of bulk at most 1048576: NARROWER than '..Said'. Prove '..Said' where nothing that the law and all that it calls make is longer than what came in: it says more and counts as full. Else prove '..UptoSaid'. A law counts once. -/
mutual
def uptoBulk {H : Type} : DataW H → Nat
  | .lit (.string bytes) => bytes.length + 1
  | .lit _ => 1
  | .nil => 1
  | .ptr d => uptoBulk d + 1
  | .slice elems spare => uptoBulkAll elems + uptoBulkAll spare + 1
  | .agg parts => uptoBulkAll parts + 1
  | .iface _ d => uptoBulk d + 1
  | .map entries => uptoBulkEntries entries + 1
  | .held _ => 1
def uptoBulkAll {H : Type} : List (DataW H) → Nat
  | [] => 0
  | d :: r => uptoBulk d + uptoBulkAll r
def uptoBulkEntries {H : Type} : List (Lit × DataW H) → Nat
  | [] => 0
  | x :: r => uptoBulkEntry x + uptoBulkEntries r
def uptoBulkEntry {H : Type} : Lit × DataW H → Nat
  | (.string bytes, d) => bytes.length + uptoBulk d + 1
  | (_, d) => uptoBulk d + 1
 end
def uptoSmall : (H : Type) → List (DataW H) → Bool := fun _ ds => decide (uptoBulkAll ds ≤ 1048576)
def OpenSpec.upto (s : _root_.Go.ChangeSpec) : _root_.Go.OpenSpec := { _root_.Go.OpenSpec.ofChange s with cond := some uptoSmall }

/-- 'laws.FnExactExtendRegister', WHERE WHAT IT READS IS OF BULK AT MOST 1048576: true; the input reads as it did. -/
def fnExactExtendRegisterUptoRow : OpenClaim := { program := "ytagbbndiofimdaa", sum := "ac971752b6dc83cd431ee8e04fdb267c64e7eef0796d3886d1df0a4d544435d9", func := "loop.example/g00594/laws.FnExactExtendRegister", spec := "fnExactExtendRegister", unfollowed := true, recurses := true, apart := false, narrowed := true }
def FnExactExtendRegisterUptoSaid : Prop := fnExactExtendRegisterUptoRow.holds Try.pinned (OpenSpec.upto fnExactExtendRegisterSpec)

/-- 'laws.FnExactRegisterOf', WHERE WHAT IT READS IS OF BULK AT MOST 1048576: true; the input reads as it did. -/
def fnExactRegisterOfUptoRow : OpenClaim := { program := "ytagbbndiofimdaa", sum := "ac971752b6dc83cd431ee8e04fdb267c64e7eef0796d3886d1df0a4d544435d9", func := "loop.example/g00594/laws.FnExactRegisterOf", spec := "fnExactRegisterOf", unfollowed := true, recurses := true, apart := false, narrowed := true }
def FnExactRegisterOfUptoSaid : Prop := fnExactRegisterOfUptoRow.holds Try.pinned (OpenSpec.upto fnExactRegisterOfSpec)

/-- 'laws.FnExactIsLog', WHERE WHAT IT READS IS OF BULK AT MOST 1048576: true; the input reads as it did. -/
def fnExactIsLogUptoRow : OpenClaim := { program := "ytagbbndiofimdaa", sum := "ac971752b6dc83cd431ee8e04fdb267c64e7eef0796d3886d1df0a4d544435d9", func := "loop.example/g00594/laws.FnExactIsLog", spec := "fnExactIsLog", apart := false, narrowed := true }
def FnExactIsLogUptoSaid : Prop := fnExactIsLogUptoRow.holds Try.pinned (OpenSpec.upto fnExactIsLogSpec)

/-- 'laws.FnExactIsPrefixLog', WHERE WHAT IT READS IS OF BULK AT MOST 1048576: true; the input reads as it did. -/
def fnExactIsPrefixLogUptoRow : OpenClaim := { program := "ytagbbndiofimdaa", sum := "ac971752b6dc83cd431ee8e04fdb267c64e7eef0796d3886d1df0a4d544435d9", func := "loop.example/g00594/laws.FnExactIsPrefixLog", spec := "fnExactIsPrefixLog", apart := false, narrowed := true }
def FnExactIsPrefixLogUptoSaid : Prop := fnExactIsPrefixLogUptoRow.holds Try.pinned (OpenSpec.upto fnExactIsPrefixLogSpec)

end Rows
end Go.Proofs.Ytagbbndiofimdaa
