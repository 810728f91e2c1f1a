/- Appraisal (chapter 13): mathematics for the law FnAppraisal: what a health fact says holds at once. No condition. -/
import Derived.Test.YtjfmmingkciapaaDoorAllowW
import Derived.Test.YtjfmmingkciapaaDoorAllow6
namespace Go.Proofs.YtjfmmingkciapaaDoor
set_option linter.unusedVariables false

theorem health_ok {a : AllowedD} {key : Int} {q : QuoteD} {log : List Int} {nonce now span : Int} (h : okH a key q log nonce now span = true) : healthF a key q log nonce now span = ⟨3, q.Device, logA a log, 1, now, endOf now span⟩ := by
  unfold healthF
  rw [if_pos h]
  rfl
theorem health_holds {a : AllowedD} {key : Int} {q : QuoteD} {log : List Int} {nonce now span : Int} (h : okH a key q log nonce now span = true) : holdsB (healthF a key q log nonce now span) now 0 = true := by
  rw [health_ok h]
  unfold okH at h
  rw [Bool.and_eq_true] at h
  have hf : factB ⟨3, q.Device, logA a log, 1, now, endOf now span⟩ = true := h.2
  have ht := (factB_iff _).1 hf
  unfold holdsB
  rw [hf]
  obtain ⟨-, ht⟩ := ht
  unfold timesP at ht
  dsimp only at ht
  unfold isT at ht
  unfold withinOf freshOf ageOf isT
  simp
  omega
end Go.Proofs.YtjfmmingkciapaaDoor
