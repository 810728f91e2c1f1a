/- Appraisal (chapter 13): the model's contracts in the form that the laws' walks ask (data of cells). No condition but the bounds of what came in. -/
import Derived.Test.YtjfmmingkciapaaDoorAllow2
import Derived.Test.YtjfmmingkciapaaDoorMathZ
import Derived.Test.YtjfmmingkciapaaDoorGround
namespace Go.Proofs.YtjfmmingkciapaaDoor
open Go.ChangeShapes Go.WideShapes Go.ChangeAt Go.RowKit
set_option linter.unusedVariables false

theorem allowed_lens {x : AllowedD} {N : Int} (h : szE (AllowedD.c x) ≤ N) : (x.Good.length : Int) ≤ N ∧ (x.Old.length : Int) ≤ N ∧ (x.Bad.length : Int) ≤ N := by
  obtain ⟨v, g, o, b⟩ := x
  rw [AllowedD.sz, szC_row, szC_row, szC_row] at h
  have h1 := szE_nonneg (g.flatMap numC)
  have h2 := szE_nonneg (o.flatMap numC)
  have h3 := szE_nonneg (b.flatMap numC)
  refine ⟨?_, ?_, ?_⟩ <;> (dsimp only; omega)
theorem allowed_lens' {x : AllowedD} (h : szE (AllowedD.c x) ≤ 1048576) : x.Good.length ≤ 1099511627776 ∧ x.Old.length ≤ 1099511627776 ∧ x.Bad.length ≤ 1099511627776 := by
  have := allowed_lens h
  omega
theorem replA_sz (x y : AllowedD) : szE (AllowedD.c (replA x y)) = szE (AllowedD.c x) ∨ szE (AllowedD.c (replA x y)) = szE (AllowedD.c y) := by
  unfold replA
  split
  · exact .inr rfl
  · exact .inl rfl
end Go.Proofs.YtjfmmingkciapaaDoor
