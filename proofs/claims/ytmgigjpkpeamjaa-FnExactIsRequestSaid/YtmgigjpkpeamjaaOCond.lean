/- What came in of the type Cond: its cells, as data. No condition. -/
import Derived.Test.YtmgigjpkpeamjaaCellO
import Derived.Test.YtmgigjpkpeamjaaZCond
namespace Go.Proofs.Ytmgigjpkpeamjaa
open Go.ChangeShapes Go.WideShapes Go.ChangeAt Go.RowKit Go.Deep
set_option linter.unusedVariables false
def reachCond (t : TypeId) : Prop := t = 3 ∨ t = 34
theorem okT_Cond : OkT Try.prog reachCond := by
  intro t ht
  unfold reachCond at ht
  rcases ht with rfl | rfl
  · exact .inl Try.underlying3
  · refine .inr (.inr ⟨36, [3, 3, 3, 34], Try.underlying34, by kernel_rfl, by kernel_rfl, by decide, ?_⟩)
    unfold reachCond
    decide
theorem CondD.rowOf {c : Cell} (h : HasT Try.prog 34 c) : ∃ xs : List CondD, c = rowF CondD.c xs := by
  generalize ht : 34 = t at h
  induction h with
  | num h => subst ht; rw [Try.underlying34] at h; cases h
  | flag h => subst ht; rw [Try.underlying34] at h; cases h
  | @row t e ts n es h1 h2 hn hl hh ih =>
    subst ht
    rw [Try.underlying34] at h1
    obtain rfl : 36 = e := by simpa using h1
    have hf : flatT Try.prog 9 36 = some ([3, 3, 3, 34].mapIdx fun i u => (i, u)) := by kernel_rfl
    rw [hf] at h2
    obtain rfl := mapIdx_inj (Option.some.inj h2)
    obtain ⟨xs, g1, g2⟩ := rows_list (f := CondD.c) fun i e' hi => by
      have hle := hl i e' hi
      have hone := hh i e' hi
      have hih := ih i e' hi
      match e', hle with
      | [c0, c1, c2, c3], _ =>
        obtain ⟨p0, rfl⟩ := (hone 0 _ _ rfl rfl).num_inv Try.underlying3
        obtain ⟨p1, rfl⟩ := (hone 1 _ _ rfl rfl).num_inv Try.underlying3
        obtain ⟨p2, rfl⟩ := (hone 2 _ _ rfl rfl).num_inv Try.underlying3
        obtain ⟨es3, rfl⟩ := hih 3 _ _ rfl rfl rfl
        exact ⟨⟨p0, p1, p2, es3⟩, (CondD.c_mk p0 p1 p2 es3).symm⟩
    refine ⟨xs, ?_⟩
    rw [← hn, g1, g2]
theorem CondD.of {cs : List Cell} (hl : cs.length = [3, 3, 3, 34].length) (h : ∀ (j : Nat) (t : TypeId) (c : Cell), [3, 3, 3, 34][j]? = some t → cs[j]? = some c → HasT Try.prog t c) : ∃ x, cs = CondD.c x := by
  match cs, hl with
  | [c0, c1, c2, c3], _ =>
    obtain ⟨p0, rfl⟩ := (h 0 _ _ rfl rfl).num_inv Try.underlying3
    obtain ⟨p1, rfl⟩ := (h 1 _ _ rfl rfl).num_inv Try.underlying3
    obtain ⟨p2, rfl⟩ := (h 2 _ _ rfl rfl).num_inv Try.underlying3
    obtain ⟨es3, rfl⟩ := CondD.rowOf (h 3 _ _ rfl rfl)
    exact ⟨⟨p0, p1, p2, es3⟩, (CondD.c_mk p0 p1 p2 es3).symm⟩
end Go.Proofs.Ytmgigjpkpeamjaa
