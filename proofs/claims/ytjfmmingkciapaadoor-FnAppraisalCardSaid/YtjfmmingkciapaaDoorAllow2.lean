/- Appraisal (chapter 13): contracts of the model: rules of appraisal. No condition but the bounds of what came in. -/
import Derived.Test.YtjfmmingkciapaaDoorAllow1
import Derived.Test.YtjfmmingkciapaaDoorGround
import Derived.Deep.RegionHeld3
import Derived.Handy
namespace Go.Proofs.YtjfmmingkciapaaDoor
open Go.ChangeShapes Go.WideShapes Go.ChangeAt Go.RowKit
set_option linter.unusedVariables false

/-- Rules that came in: a number and three slices. -/
theorem allowed_in {w : World} {hi : Nat} {v : Int} {g o b : List Int} {vs : List Value} (h : rdL w hi (AllowedD.c ⟨v, g, o, b⟩) vs) :
    ∃ A1 c1 A2 c2 A3 c3, vs = [.int .i64 v, .slice A1 g.length c1, .slice A2 o.length c2, .slice A3 b.length c3] ∧ (Lit.int .i64 v).wf = true ∧ Row .i64 w hi (.slice A1 g.length c1) g ∧ Row .i64 w hi (.slice A2 o.length c2) o ∧ Row .i64 w hi (.slice A3 b.length c3) b := by
  obtain ⟨k1, k2, k3, rfl, hv, h1, h2, h3⟩ := AllowedD.rd h
  have r1 := ints_row.1 h1
  have r2 := ints_row.1 h2
  have r3 := ints_row.1 h3
  obtain ⟨A1, c1, rfl, -⟩ := id r1.form
  obtain ⟨A2, c2, rfl, -⟩ := id r2.form
  obtain ⟨A3, c3, rfl, -⟩ := id r3.form
  exact ⟨A1, c1, A2, c2, A3, c3, rfl, hv, r1, r2, r3⟩
end Go.Proofs.YtjfmmingkciapaaDoor
