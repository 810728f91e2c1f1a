/- Certificates (chapter 10): mathematics: what was issued is good for its span only, and nothing that was changed. No condition. -/
import Derived.Test.YtkbeejnikmegmaaDoorCert
namespace Go.Proofs.YtkbeejnikmegmaaDoor
set_option linter.unusedVariables false

/-- What is asked of a certificate that was issued. -/
structure Issued (s n p k f sp : Int) (x : CertD) : Prop where
  key : x.Key = k
  num : x.Serial = n ∧ 1 ≤ n ∧ n ≤ 9999
  fro : x.From = f ∧ 0 ≤ f ∧ f ≤ 10000
  unt : 0 ≤ x.Until ∧ x.Until ≤ 10000
  good : certB x = true
  first : checkC s x f = true
  last : checkC s x x.Until = true
  later : checkC s x (x.Until + 1) = false
  sooner : checkC s x (f - 1) = false
  other : checkC s ⟨x.Serial + 1, x.Subject, x.Key, x.From, x.Until, x.Mark⟩ f = false
  proved : provedC s x 7 (proveC k 7) f = true
theorem issued {s n p k f sp : Int} (h : okIssue s n p k f sp = true) : Issued s n p k f sp (issueC s n p k f sp) := by
  have e : issueC s n p k f sp = markC s (newC n p k f sp) := by unfold issueC; rw [if_pos h]
  rw [e]
  unfold okIssue at h
  rw [Bool.and_eq_true, Bool.and_eq_true] at h
  have hc := h.2.2
  have hp := (certB_iff _).1 hc
  obtain ⟨h1, h2, h3, h4, h5, h6, h7⟩ := id hp
  have hg : certB (markC s (newC n p k f sp)) = true := (certB_iff _).2 hp
  generalize hy : newC n p k f sp = y at hc hp h1 h2 h3 h4 h5 h6 h7 hg
  have en : y.Serial = n := by rw [← hy]; rfl
  have ek : y.Key = k := by rw [← hy]; rfl
  have ef : y.From = f := by rw [← hy]; rfl
  unfold isT at h4 h5
  have hm : (keyed s (certL (markC s y)) == (markC s y).Mark) = true := beq_self_eq_true _
  have hw : ∀ now, f ≤ now → now ≤ y.Until → withinOf (markC s y).From (markC s y).Until now = true := fun now a b => by
    show withinOf y.From y.Until now = true
    unfold withinOf isT
    exact decide_eq_true ⟨h4, h5, ⟨by omega, by omega⟩, by omega, b⟩
  have hno : ∀ now, (now < f ∨ y.Until < now) → withinOf (markC s y).From (markC s y).Until now = false := fun now a => by
    show withinOf y.From y.Until now = false
    unfold withinOf isT
    exact decide_eq_false fun ⟨_, _, _, b, c⟩ => by omega
  have c1 : checkC s (markC s y) f = true := by unfold checkC; rw [hg, hw f (Int.le_refl _) (by omega), hm]; rfl
  refine ⟨ek, ⟨en, by omega, by omega⟩, ⟨ef, by omega, by omega⟩, h5, hg, c1, ?_, ?_, ?_, ?_, ?_⟩
  · unfold checkC
    rw [hg, hw (markC s y).Until (by show f ≤ y.Until; omega) (Int.le_refl _), hm]
    rfl
  · unfold checkC
    rw [hno _ (.inr (by show y.Until < y.Until + 1; omega)), Bool.false_and, Bool.and_false]
  · unfold checkC
    rw [hno _ (.inl (by omega)), Bool.false_and, Bool.and_false]
  · unfold checkC
    have hk : (keyed s (certL ⟨(markC s y).Serial + 1, (markC s y).Subject, (markC s y).Key, (markC s y).From, (markC s y).Until, (markC s y).Mark⟩) == (markC s y).Mark) = false := by
      rw [beq_eq_false_iff_ne]
      have h8 := keyed_changed s (certL y) 0 (by show 0 < 5; decide) (y.Serial + 1) (by
        show y.Serial % 2147483647 ≠ (y.Serial + 1) % 2147483647
        omega)
      exact h8
    show (_ && (_ && (keyed s (certL ⟨(markC s y).Serial + 1, (markC s y).Subject, (markC s y).Key, (markC s y).From, (markC s y).Until, (markC s y).Mark⟩) == (markC s y).Mark))) = false
    rw [hk, Bool.and_false, Bool.and_false]
  · unfold provedC
    rw [c1, show (markC s y).Key = k from ek, beq_self_eq_true]
    rfl
end Go.Proofs.YtkbeejnikmegmaaDoor
