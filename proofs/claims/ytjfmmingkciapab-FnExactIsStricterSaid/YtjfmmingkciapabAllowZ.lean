/- Appraisal (chapter 13): the model's contracts in the form that the laws' walks ask (data of cells). No condition but the bounds of what came in. -/
import Derived.Test.YtjfmmingkciapabAllow2
import Derived.Test.YtjfmmingkciapabOAllowed
import Derived.Test.YtjfmmingkciapabZAllowed
import Derived.Test.YtjfmmingkciapabCellS
import Derived.Test.YtjfmmingkciapabAllow3
namespace Go.Proofs.Ytjfmmingkciapab
open Go.ChangeShapes Go.WideShapes Go.ChangeAt Go.RowKit
set_option linter.unusedVariables false

theorem allowed_lens {x : AllowedD} {N : Int} (h : szE (AllowedD.c x) ≤ N) : (x.Good.length : Int) ≤ N ∧ (x.Old.length : Int) ≤ N ∧ (x.Bad.length : Int) ≤ N := by
  obtain ⟨v, g, o, b⟩ := x
  rw [AllowedD.sz, szC_row, szC_row, szC_row] at h
  have h1 := szE_nonneg (g.flatMap numC)
  have h2 := szE_nonneg (o.flatMap numC)
  have h3 := szE_nonneg (b.flatMap numC)
  refine ⟨?_, ?_, ?_⟩ <;> (dsimp only; omega)
theorem allowed_lens' {x : AllowedD} (h : szE (AllowedD.c x) ≤ 1048576) : x.Good.length ≤ 1099511627776 ∧ x.Old.length ≤ 1099511627776 ∧ x.Bad.length ≤ 1099511627776 := by
  have := allowed_lens h
  omega
theorem replA_sz (x y : AllowedD) : szE (AllowedD.c (replA x y)) = szE (AllowedD.c x) ∨ szE (AllowedD.c (replA x y)) = szE (AllowedD.c y) := by
  unfold replA
  split
  · exact .inr rfl
  · exact .inl rfl
theorem specZ_appraiseLog (w : World) (hi : Nat) (x : AllowedD) (vs : List Value) (xs : List Int) (v : Value) (h : rdL w hi (AllowedD.c x) vs) (h1 : rdC w hi (rowF numC xs) v) (hh : hi ≤ w.heap.size) :
    Calls Try.prog 6 #[.agg vs.toArray, v] w fun e w' => e = .returned (.int .i64 (logA x xs)) ∧ Below w.heap.size w w' := by
  have hr := ints_row.1 h1
  obtain ⟨a, c, rfl, -⟩ := hr.form
  exact spec_appraiseLog w hi hi c a x vs xs h hr hh hh
end Go.Proofs.Ytjfmmingkciapab
