/- The helpers of the exact statements over slices of ints: a copy, a comparison, marks, and whether the marks are still there. -/
import Derived.Test.YtkbeejnikmegmaaDoorRow
import Derived.WalkKit
import Derived.ProofKit
import Derived.OpenShut
import Derived.WalkLawsBesides
import Derived.WalkSpells
import Derived.LoopTactic
import Derived.Deep.QuietTactic
import Derived.BigQuiet
import Derived.Outline
namespace Go.Proofs.YtkbeejnikmegmaaDoor
open Go.ChangeShapes Go.WideShapes Go.ChangeAt Go.RowKit
set_option linter.unusedVariables false

theorem infoIntS : (Tryd.prog.info? 3).map (fun i => (i.zero, i.size, i.bytes)) = some (some (.int .i64 0), 1, 8) := by kernel_rfl

/-- What the helper that marks writes. -/
def marksIntS (k : Int) (n : Nat) : List Int := (List.range n).map fun (i : Nat) => k + (i : Int)
theorem marksIntS_length (k : Int) (n : Nat) : (marksIntS k n).length = n := by simp [marksIntS]
theorem marksIntS_at (k : Int) (n i : Nat) (h : i < (marksIntS k n).length) : (marksIntS k n)[i] = k + (i : Int) := by simp [marksIntS]
theorem marksIntS_wf (k : Int) (n : Nat) (hk0 : 0 ≤ k) (hk1 : k ≤ 1099511627776000) (hn : n ≤ 1099511627776) : ∀ x ∈ marksIntS k n, (Lit.int .i64 x).wf = true := by
  intro x hx
  simp only [marksIntS, List.mem_map] at hx
  obtain ⟨i, hi, rfl⟩ := hx
  have := List.mem_range.1 hi
  exact wf_i64 (by omega) (by omega)

end Go.Proofs.YtkbeejnikmegmaaDoor
