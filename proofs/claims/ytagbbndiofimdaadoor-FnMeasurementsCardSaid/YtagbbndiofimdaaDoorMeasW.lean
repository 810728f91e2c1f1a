/- Measurements (chapter 12): mathematics for the law FnMeasurements. No condition. -/
import Derived.Test.YtagbbndiofimdaaDoorMeas2
import Derived.Test.YtagbbndiofimdaaDoorMeasM
namespace Go.Proofs.YtagbbndiofimdaaDoor
set_option linter.unusedVariables false

theorem made_ok {k d n t : Int} {log : List Int} (h : okQuote k d log t = true) : makeQ k d log n t = ⟨d, regOf log, n, t, keyed k [d, regOf log, n, t]⟩ := by
  unfold makeQ
  rw [if_pos h]
  rfl
theorem fresh_self {k d t : Int} {log : List Int} (h : okQuote k d log t = true) : freshOf t t 0 = true := by
  have ht : isT t := by
    unfold okQuote at h
    rw [Bool.and_eq_true, Bool.and_eq_true, Bool.and_eq_true] at h
    exact of_decide_eq_true h.2.2.2
  unfold isT at ht
  unfold freshOf ageOf isT
  simp
  omega
theorem check_self {k d n t : Int} {log : List Int} (h : okQuote k d log t = true) : checkQ k (makeQ k d log n t) log n t 0 = true := by
  rw [made_ok h]
  unfold checkQ
  dsimp only
  rw [h, fresh_self h, beq_self_eq_true, beq_self_eq_true, beq_self_eq_true]
  rfl
theorem check_nonce {k d n t : Int} {log : List Int} (h : okQuote k d log t = true) : checkQ k (makeQ k d log n t) log (n + 1) t 0 = false := by
  rw [made_ok h]
  unfold checkQ
  dsimp only
  rw [show (n + 1 == n) = false from by rw [beq_eq_false_iff_ne]; omega, Bool.false_and, Bool.and_false, Bool.false_and, Bool.and_false]
theorem reg_other {log : List Int} {i : Nat} {x : Int} (hx : log[i]? = some x) (h0 : 0 ≤ x) (h1 : x ≤ 5) : regOf (log.set i (x + 1)) ≠ regOf log := regOf_changed hx (x + 1) (by omega)
theorem check_other {k d n t : Int} {log : List Int} {i : Nat} {x : Int} (h : okQuote k d log t = true) (hx : log[i]? = some x) (h0 : 0 ≤ x) (h1 : x ≤ 5) : checkQ k (makeQ k d log n t) (log.set i (x + 1)) n t 0 = false := by
  rw [made_ok h]
  unfold checkQ
  dsimp only
  rw [show (regOf (log.set i (x + 1)) == regOf log) = false from by rw [beq_eq_false_iff_ne]; exact reg_other hx h0 h1, Bool.false_and, Bool.false_and, Bool.and_false]
theorem prefix_yes {a b : List Int} (h : prefixB a b = true) : a.length ≤ b.length ∧ regOf a = regOf (b.take a.length) := by
  unfold prefixB at h
  rw [Bool.and_eq_true, decide_eq_true_eq, decide_eq_true_eq] at h
  exact ⟨h.1, congrArg regOf h.2⟩
theorem prefix_no {a b : List Int} (h : prefixB a b = false) (hl : a.length ≤ b.length) : decide (a = b.take a.length) = false := by
  unfold prefixB at h
  rwa [decide_eq_true hl, Bool.true_and] at h
theorem prefix_pos {a b : List Int} (h : prefixB a b = false) (hl : a.length ≤ b.length) : 0 < b.length := by
  rcases Nat.eq_zero_or_pos b.length with hb | hb
  · obtain rfl : b = [] := List.eq_nil_of_length_eq_zero hb
    obtain rfl : a = [] := List.eq_nil_of_length_eq_zero (by omega)
    exact absurd h (by decide)
  · exact hb
theorem madeQ_wf {k d n t : Int} {log : List Int} (hd : (Lit.int .i64 d).wf = true) (hn : (Lit.int .i64 n).wf = true) (ht : (Lit.int .i64 t).wf = true) : (makeQ k d log n t).wf := by
  have hm := keyed_bd k [d, regOf log, n, t]
  unfold makeQ
  split
  · exact ⟨hd, regOf_wf _, hn, ht, wf_i64 (by show _ ≤ keyed _ _; omega) (by show keyed _ _ ≤ _; omega)⟩
  · exact ⟨by decide, by decide, by decide, by decide, by decide⟩
end Go.Proofs.YtagbbndiofimdaaDoor
