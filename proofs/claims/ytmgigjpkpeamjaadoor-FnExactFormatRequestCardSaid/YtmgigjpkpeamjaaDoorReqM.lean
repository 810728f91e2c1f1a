/- Requests (chapter 17): mathematics of requests and of leaves. No condition. -/
import Derived.Test.YtmgigjpkpeamjaaDoorRequestT
import Derived.Test.YtmgigjpkpeamjaaDoorNames2
import Derived.Test.YtmgigjpkpeamjaaDoorTimes
namespace Go.Proofs.YtmgigjpkpeamjaaDoor
open Go.ChangeShapes Go.WideShapes Go.ChangeAt Go.RowKit
set_option linter.unusedVariables false

def reqB (q : RequestD) : Bool := hasOf q.Person 1 && (hasOf q.Device 2 && (hasOf q.Program 3 && (hasOf q.Object 4 && (decide (0 ≤ q.Action ∧ q.Action ≤ 5) && decide (isT q.Now)))))
def atQ (q : RequestD) (n : Int) : RequestD := ⟨q.Person, q.Device, q.Program, q.Action, q.Object, n⟩
def sameQ (a b : RequestD) : Bool := a.Person == b.Person && (a.Device == b.Device && (a.Program == b.Program && (a.Action == b.Action && a.Object == b.Object)))
theorem atQ_wf {q : RequestD} {n : Int} (h : q.wf) (hn : (Lit.int .i64 n).wf = true) : (atQ q n).wf := by
  obtain ⟨h0, h1, h2, h3, h4, h5⟩ := h
  exact ⟨h0, h1, h2, h3, h4, hn⟩
theorem sameQ_no {p d g a o n p' d' g' a' o' n' : Int} (h : sameQ ⟨p, d, g, a, o, n⟩ ⟨p', d', g', a', o', n'⟩ = false) : (p == p') = false ∨ p = p' ∧ ((d == d') = false ∨ d = d' ∧ ((g == g') = false ∨ g = g' ∧ ((a == a') = false ∨ a = a' ∧ ((o == o') = false)))) := by
  simp only [sameQ, Bool.and_eq_false_iff] at h
  rcases h with h | h | h | h | h
  · exact .inl h
  · by_cases h1 : p = p'
    · exact .inr ⟨h1, .inl h⟩
    · exact .inl (beq_eq_false_iff_ne.2 h1)
  · by_cases h1 : p = p'
    · by_cases h2 : d = d'
      · exact .inr ⟨h1, .inr ⟨h2, .inl h⟩⟩
      · exact .inr ⟨h1, .inl (beq_eq_false_iff_ne.2 h2)⟩
    · exact .inl (beq_eq_false_iff_ne.2 h1)
  · by_cases h1 : p = p'
    · by_cases h2 : d = d'
      · by_cases h3 : g = g'
        · exact .inr ⟨h1, .inr ⟨h2, .inr ⟨h3, .inl h⟩⟩⟩
        · exact .inr ⟨h1, .inr ⟨h2, .inl (beq_eq_false_iff_ne.2 h3)⟩⟩
      · exact .inr ⟨h1, .inl (beq_eq_false_iff_ne.2 h2)⟩
    · exact .inl (beq_eq_false_iff_ne.2 h1)
  · by_cases h1 : p = p'
    · by_cases h2 : d = d'
      · by_cases h3 : g = g'
        · by_cases h4 : a = a'
          · exact .inr ⟨h1, .inr ⟨h2, .inr ⟨h3, .inr ⟨h4, h⟩⟩⟩⟩
          · exact .inr ⟨h1, .inr ⟨h2, .inr ⟨h3, .inl (beq_eq_false_iff_ne.2 h4)⟩⟩⟩
        · exact .inr ⟨h1, .inr ⟨h2, .inl (beq_eq_false_iff_ne.2 h3)⟩⟩
      · exact .inr ⟨h1, .inl (beq_eq_false_iff_ne.2 h2)⟩
    · exact .inl (beq_eq_false_iff_ne.2 h1)
theorem sameQ_yes {p d g a o n p' d' g' a' o' n' : Int} (h : sameQ ⟨p, d, g, a, o, n⟩ ⟨p', d', g', a', o', n'⟩ = true) : p = p' ∧ d = d' ∧ g = g' ∧ a = a' ∧ o = o' := by
  simpa [sameQ] using h
theorem sameQ_at (q : RequestD) (n : Int) : sameQ q (atQ q n) = true := by simp [sameQ, atQ]
end Go.Proofs.YtmgigjpkpeamjaaDoor
