/-
  NARROWER THAN 'FOR EVERY INPUT', by the rows' own cells (each row's printed sentence says how): FnExactLeafHolds: loops.
  DERIVED. THE GIVEN ROWS OF THIS SEAT. 4 by the template 'for every input the law returns true; each argument reads behind the call as it read before'; 0 by the template 'total and deterministic' (their statements: YtmgigjpkpeamjaaTotals.lean).
  GIVEN WITH THE SEED: the statements are not yours to turn. If you find one false, say at which input.
  Laid BY PROGRAM, IN A SANDBOX (cutbox-rows.mjs): the forced cells as the released guide's own fill.sh prints them over the translation 93dd4f359d51f2a1… (all of the seat's roots in one cut). By AI agents, Wed Nov 11 2026. No macro, syntax, notation, axiom, sorry.
-/
import Derived.Test.YtmgigjpkpeamjaaChecked
import GoSem.Claim
import GoSem.ClaimJoined
import GoSem.ClaimMapViews
import Derived.JoinedTies
import Derived.KernelRfl
namespace Go.Proofs.Ytmgigjpkpeamjaa
/- THE CELL 'sum', in the pinned program and in every row, IS THE sha256 OF THE DUMP (.gsa) THAT YtmgigjpkpeamjaaProg.lean LOADS. Nothing in Lean hashes anything: it is a label: what it is worth is what the hold of that sum in a sandbox is worth. -/
noncomputable def Try.pinned : Pinned := { name := "ytmgigjpkpeamjaa", sum := "93dd4f359d51f2a17506dba7aa8505f6dbbf9f1fa646b7773c761b946fd31be9", checked := Try.checked }
namespace Rows
def none {H : Type} : Left H := { results := [], args := [] }

/-- 'laws.FnExactIsRequest': WHATEVER THE INPUT: true; the input reads as it did. -/
def fnExactIsRequestSpec : ChangeSpec := { name := "fnExactIsRequest", fn := fun _ => fun
  | [d] => { results := [.lit (.bool true)], args := [d] }
  | _ => none }
def fnExactIsRequestRow : OpenClaim := { program := "ytmgigjpkpeamjaa", sum := "93dd4f359d51f2a17506dba7aa8505f6dbbf9f1fa646b7773c761b946fd31be9", func := "loop.example/g00594/laws.FnExactIsRequest", spec := "fnExactIsRequest", apart := false }
def FnExactIsRequestSaid : Prop := fnExactIsRequestRow.holds Try.pinned (OpenSpec.ofChange fnExactIsRequestSpec)

/-- ITS FALSE NEIGHBOUR: 'it returns false'. Refute it at one input. -/
def fnExactIsRequestWrong : ChangeSpec := { name := "fnExactIsRequest", fn := fun _ => fun
  | [d] => { results := [.lit (.bool false)], args := [d] }
  | _ => none }
def FnExactIsRequestWrongFalsely : Prop := fnExactIsRequestRow.holds Try.pinned (OpenSpec.ofChange fnExactIsRequestWrong)

/-- 'laws.FnExactSameQuestion': WHATEVER THE INPUT: true; the input reads as it did. -/
def fnExactSameQuestionSpec : ChangeSpec := { name := "fnExactSameQuestion", fn := fun _ => fun
  | [d1, d2] => { results := [.lit (.bool true)], args := [d1, d2] }
  | _ => none }
def fnExactSameQuestionRow : OpenClaim := { program := "ytmgigjpkpeamjaa", sum := "93dd4f359d51f2a17506dba7aa8505f6dbbf9f1fa646b7773c761b946fd31be9", func := "loop.example/g00594/laws.FnExactSameQuestion", spec := "fnExactSameQuestion", apart := false }
def FnExactSameQuestionSaid : Prop := fnExactSameQuestionRow.holds Try.pinned (OpenSpec.ofChange fnExactSameQuestionSpec)

/-- ITS FALSE NEIGHBOUR: 'it returns false'. Refute it at one input. -/
def fnExactSameQuestionWrong : ChangeSpec := { name := "fnExactSameQuestion", fn := fun _ => fun
  | [d1, d2] => { results := [.lit (.bool false)], args := [d1, d2] }
  | _ => none }
def FnExactSameQuestionWrongFalsely : Prop := fnExactSameQuestionRow.holds Try.pinned (OpenSpec.ofChange fnExactSameQuestionWrong)

/-- 'laws.FnExactAtTime': WHATEVER THE INPUT: true; the input reads as it did. -/
def fnExactAtTimeSpec : ChangeSpec := { name := "fnExactAtTime", fn := fun _ => fun
  | [d1, d2] => { results := [.lit (.bool true)], args := [d1, d2] }
  | _ => none }
def fnExactAtTimeRow : OpenClaim := { program := "ytmgigjpkpeamjaa", sum := "93dd4f359d51f2a17506dba7aa8505f6dbbf9f1fa646b7773c761b946fd31be9", func := "loop.example/g00594/laws.FnExactAtTime", spec := "fnExactAtTime", apart := false }
def FnExactAtTimeSaid : Prop := fnExactAtTimeRow.holds Try.pinned (OpenSpec.ofChange fnExactAtTimeSpec)

/-- ITS FALSE NEIGHBOUR: 'it returns false'. Refute it at one input. -/
def fnExactAtTimeWrong : ChangeSpec := { name := "fnExactAtTime", fn := fun _ => fun
  | [d1, d2] => { results := [.lit (.bool false)], args := [d1, d2] }
  | _ => none }
def FnExactAtTimeWrongFalsely : Prop := fnExactAtTimeRow.holds Try.pinned (OpenSpec.ofChange fnExactAtTimeWrong)

/-- 'laws.FnExactLeafHolds': WHATEVER THE INPUT: true; the input reads as it did. -/
def fnExactLeafHoldsSpec : ChangeSpec := { name := "fnExactLeafHolds", fn := fun _ => fun
  | [d1, d2, d3, d4] => { results := [.lit (.bool true)], args := [d1, d2, d3, d4] }
  | _ => none }
def fnExactLeafHoldsRow : OpenClaim := { program := "ytmgigjpkpeamjaa", sum := "93dd4f359d51f2a17506dba7aa8505f6dbbf9f1fa646b7773c761b946fd31be9", func := "loop.example/g00594/laws.FnExactLeafHolds", spec := "fnExactLeafHolds", unfollowed := true, recurses := true, loops := true, apart := false }
def FnExactLeafHoldsSaid : Prop := fnExactLeafHoldsRow.holds Try.pinned (OpenSpec.ofChange fnExactLeafHoldsSpec)

/-- ITS FALSE NEIGHBOUR: 'it returns false'. Refute it at one input. -/
def fnExactLeafHoldsWrong : ChangeSpec := { name := "fnExactLeafHolds", fn := fun _ => fun
  | [d1, d2, d3, d4] => { results := [.lit (.bool false)], args := [d1, d2, d3, d4] }
  | _ => none }
def FnExactLeafHoldsWrongFalsely : Prop := fnExactLeafHoldsRow.holds Try.pinned (OpenSpec.ofChange fnExactLeafHoldsWrong)

/- THE SECOND FORM. 'bulk': how many values and letters a reading holds, each counted each time it is reached (what is shared counts as often as it is met; a slice's spare places count too). A statement '..UptoSaid' is the law's where the arguments, and the package variables that the reading takes, are together of bulk at most 1048576: NARROWER than '..Said'. Prove '..Said' where nothing that the law and all that it calls make is longer than what came in: it says more and counts as full. Else prove '..UptoSaid'. A law counts once. -/
mutual
def uptoBulk {H : Type} : DataW H → Nat
  | .lit (.string bytes) => bytes.length + 1
  | .lit _ => 1
  | .nil => 1
  | .ptr d => uptoBulk d + 1
  | .slice elems spare => uptoBulkAll elems + uptoBulkAll spare + 1
  | .agg parts => uptoBulkAll parts + 1
  | .iface _ d => uptoBulk d + 1
  | .map entries => uptoBulkEntries entries + 1
  | .held _ => 1
def uptoBulkAll {H : Type} : List (DataW H) → Nat
  | [] => 0
  | d :: r => uptoBulk d + uptoBulkAll r
def uptoBulkEntries {H : Type} : List (Lit × DataW H) → Nat
  | [] => 0
  | x :: r => uptoBulkEntry x + uptoBulkEntries r
def uptoBulkEntry {H : Type} : Lit × DataW H → Nat
  | (.string bytes, d) => bytes.length + uptoBulk d + 1
  | (_, d) => uptoBulk d + 1
 end
def uptoSmall : (H : Type) → List (DataW H) → Bool := fun _ ds => decide (uptoBulkAll ds ≤ 1048576)
def OpenSpec.upto (s : _root_.Go.ChangeSpec) : _root_.Go.OpenSpec := { _root_.Go.OpenSpec.ofChange s with cond := some uptoSmall }

/-- 'laws.FnExactIsRequest', WHERE WHAT IT READS IS OF BULK AT MOST 1048576: true; the input reads as it did. -/
def fnExactIsRequestUptoRow : OpenClaim := { program := "ytmgigjpkpeamjaa", sum := "93dd4f359d51f2a17506dba7aa8505f6dbbf9f1fa646b7773c761b946fd31be9", func := "loop.example/g00594/laws.FnExactIsRequest", spec := "fnExactIsRequest", apart := false, narrowed := true }
def FnExactIsRequestUptoSaid : Prop := fnExactIsRequestUptoRow.holds Try.pinned (OpenSpec.upto fnExactIsRequestSpec)

/-- 'laws.FnExactSameQuestion', WHERE WHAT IT READS IS OF BULK AT MOST 1048576: true; the input reads as it did. -/
def fnExactSameQuestionUptoRow : OpenClaim := { program := "ytmgigjpkpeamjaa", sum := "93dd4f359d51f2a17506dba7aa8505f6dbbf9f1fa646b7773c761b946fd31be9", func := "loop.example/g00594/laws.FnExactSameQuestion", spec := "fnExactSameQuestion", apart := false, narrowed := true }
def FnExactSameQuestionUptoSaid : Prop := fnExactSameQuestionUptoRow.holds Try.pinned (OpenSpec.upto fnExactSameQuestionSpec)

/-- 'laws.FnExactAtTime', WHERE WHAT IT READS IS OF BULK AT MOST 1048576: true; the input reads as it did. -/
def fnExactAtTimeUptoRow : OpenClaim := { program := "ytmgigjpkpeamjaa", sum := "93dd4f359d51f2a17506dba7aa8505f6dbbf9f1fa646b7773c761b946fd31be9", func := "loop.example/g00594/laws.FnExactAtTime", spec := "fnExactAtTime", apart := false, narrowed := true }
def FnExactAtTimeUptoSaid : Prop := fnExactAtTimeUptoRow.holds Try.pinned (OpenSpec.upto fnExactAtTimeSpec)

/-- 'laws.FnExactLeafHolds', WHERE WHAT IT READS IS OF BULK AT MOST 1048576: true; the input reads as it did. -/
def fnExactLeafHoldsUptoRow : OpenClaim := { program := "ytmgigjpkpeamjaa", sum := "93dd4f359d51f2a17506dba7aa8505f6dbbf9f1fa646b7773c761b946fd31be9", func := "loop.example/g00594/laws.FnExactLeafHolds", spec := "fnExactLeafHolds", unfollowed := true, recurses := true, loops := true, apart := false, narrowed := true }
def FnExactLeafHoldsUptoSaid : Prop := fnExactLeafHoldsUptoRow.holds Try.pinned (OpenSpec.upto fnExactLeafHoldsSpec)

end Rows
end Go.Proofs.Ytmgigjpkpeamjaa
