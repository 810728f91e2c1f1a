/- The helpers of the exact statements over slices of bytes: a copy, a comparison, marks, and whether the marks are still there. -/
import Derived.Test.YthldppmdhkifbaaRow
import Derived.WalkKit
import Derived.ProofKit
import Derived.OpenShut
import Derived.WalkLawsBesides
import Derived.WalkSpells
import Derived.LoopTactic
import Derived.Deep.QuietTactic
import Derived.BigQuiet
import Derived.Outline
namespace Go.Proofs.Ythldppmdhkifbaa
open Go.ChangeShapes Go.WideShapes Go.ChangeAt Go.RowKit
set_option linter.unusedVariables false

theorem infoByteS : (Try.prog.info? 5).map (fun i => (i.zero, i.size, i.bytes)) = some (some (.int .u8 0), 1, 1) := by kernel_rfl

/-- What the helper that marks writes. -/
def marksByteS (k : Int) (n : Nat) : List Int := (List.range n).map fun (i : Nat) => (k + (i : Int)) % 256
theorem marksByteS_length (k : Int) (n : Nat) : (marksByteS k n).length = n := by simp [marksByteS]
theorem marksByteS_at (k : Int) (n i : Nat) (h : i < (marksByteS k n).length) : (marksByteS k n)[i] = (k + (i : Int)) % 256 := by simp [marksByteS]
theorem marksByteS_wf (k : Int) (n : Nat) (hk0 : 0 ≤ k) (hk1 : k ≤ 1099511627776000) (hn : n ≤ 1099511627776) : ∀ x ∈ marksByteS k n, (Lit.int .u8 x).wf = true := by
  intro x hx
  simp only [marksByteS, List.mem_map] at hx
  obtain ⟨i, hi, rfl⟩ := hx
  have := List.mem_range.1 hi
  exact wf_u8 (by omega) (by omega)

end Go.Proofs.Ythldppmdhkifbaa
