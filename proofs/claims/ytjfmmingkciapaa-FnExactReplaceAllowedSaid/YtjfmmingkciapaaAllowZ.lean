/- Appraisal (chapter 13): the model's contracts in the form that the laws' walks ask (data of cells). No condition but the bounds of what came in. -/
import Derived.Test.YtjfmmingkciapaaAllow2
import Derived.Test.YtjfmmingkciapaaOAllowed
import Derived.Test.YtjfmmingkciapaaZAllowed
import Derived.Test.YtjfmmingkciapaaCellS
import Derived.Test.YtjfmmingkciapaaAllow5
namespace Go.Proofs.Ytjfmmingkciapaa
open Go.ChangeShapes Go.WideShapes Go.ChangeAt Go.RowKit
set_option linter.unusedVariables false

theorem allowed_lens {x : AllowedD} {N : Int} (h : szE (AllowedD.c x) ≤ N) : (x.Good.length : Int) ≤ N ∧ (x.Old.length : Int) ≤ N ∧ (x.Bad.length : Int) ≤ N := by
  obtain ⟨v, g, o, b⟩ := x
  rw [AllowedD.sz, szC_row, szC_row, szC_row] at h
  have h1 := szE_nonneg (g.flatMap numC)
  have h2 := szE_nonneg (o.flatMap numC)
  have h3 := szE_nonneg (b.flatMap numC)
  refine ⟨?_, ?_, ?_⟩ <;> (dsimp only; omega)
theorem allowed_lens' {x : AllowedD} (h : szE (AllowedD.c x) ≤ 1048576) : x.Good.length ≤ 1099511627776 ∧ x.Old.length ≤ 1099511627776 ∧ x.Bad.length ≤ 1099511627776 := by
  have := allowed_lens h
  omega
theorem replA_sz (x y : AllowedD) : szE (AllowedD.c (replA x y)) = szE (AllowedD.c x) ∨ szE (AllowedD.c (replA x y)) = szE (AllowedD.c y) := by
  unfold replA
  split
  · exact .inr rfl
  · exact .inl rfl
theorem specZ_replaceAllowed (w : World) (hi : Nat) (x y : AllowedD) (vs us : List Value) (h : rdL w hi (AllowedD.c x) vs) (h' : rdL w hi (AllowedD.c y) us) (hh : hi ≤ w.heap.size) (hx : szE (AllowedD.c x) ≤ 1048576) (hy : szE (AllowedD.c y) ≤ 1048576) :
    Calls Try.prog 45 #[.agg vs.toArray, .agg us.toArray] w fun e w' => ∃ u fp, e = .returned (.tuple #[.agg u.toArray, .bool (replB x y)]) ∧ owE w' (AllowedD.c (replA x y)) u fp ∧ fp.Nodup ∧ (∀ k ∈ fp, w.heap.size ≤ k ∧ k < w'.heap.size) ∧ Below w.heap.size w w' :=
  spec_replaceAllowed w hi hi x y vs us h h' hh hh (allowed_lens' hx) (allowed_lens' hy)
end Go.Proofs.Ytjfmmingkciapaa
