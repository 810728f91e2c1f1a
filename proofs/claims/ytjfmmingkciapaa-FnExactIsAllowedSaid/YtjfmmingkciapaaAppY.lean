/- Appraisal (chapter 13): contract of the landed functions, in the form in which the law asks it: rules that replace others. No condition but the bounds of what came in. -/
import Derived.Test.YtjfmmingkciapaaAppR
import Derived.Test.YtjfmmingkciapaaAllowZ
namespace Go.Proofs.Ytjfmmingkciapaa
open Go.ChangeShapes Go.WideShapes Go.ChangeAt Go.RowKit
set_option linter.unusedVariables false

theorem implZ_replaceAllowed (w : World) (hi : Nat) (x y : AllowedD) (vs us : List Value) (h : rdL w hi (AllowedD.c x) vs) (h' : rdL w hi (AllowedD.c y) us) (hh : hi ≤ w.heap.size) (hx : szE (AllowedD.c x) ≤ 1048576) (hy : szE (AllowedD.c y) ≤ 1048576) :
    Calls Try.prog 47 #[.agg vs.toArray, .agg us.toArray] w fun e w' => ∃ u fp, e = .returned (.tuple #[.agg u.toArray, .bool (replB x y)]) ∧ owE w' (AllowedD.c (replA x y)) u fp ∧ fp.Nodup ∧ (∀ k ∈ fp, w.heap.size ≤ k ∧ k < w'.heap.size) ∧ Below w.heap.size w w' :=
  impl_replaceAllowed w hi hi x y vs us h h' hh hh (allowed_lens' hx) (allowed_lens' hy)
end Go.Proofs.Ytjfmmingkciapaa
