/- Appraisal (chapter 13): mathematics for the law FnAppraisal. No condition. -/
import Derived.Test.YtjfmmingkciapaaDoorMathZ
import Derived.Test.YtjfmmingkciapaaDoorMeasA
namespace Go.Proofs.YtjfmmingkciapaaDoor
set_option linter.unusedVariables false

theorem logFrom_le (a : AllowedD) : ∀ (l : List Int) (r : Int), logFrom a r l ≤ r ∧ ∀ x ∈ l, logFrom a r l ≤ oneA a x
  | [], r => ⟨Int.le_refl _, fun x hx => (List.not_mem_nil hx).elim⟩
  | y :: l, r => by
    obtain ⟨h1, h2⟩ := logFrom_le a l (min r (oneA a y))
    have h3 : logFrom a r (y :: l) = logFrom a (min r (oneA a y)) l := rfl
    rw [h3]
    refine ⟨by omega, fun x hx => ?_⟩
    rcases List.mem_cons.1 hx with rfl | hx
    · omega
    · exact h2 x hx
theorem logFrom_at (a : AllowedD) : ∀ (l : List Int) (r : Int), logFrom a r l = r ∨ ∃ x ∈ l, logFrom a r l = oneA a x
  | [], r => .inl rfl
  | y :: l, r => by
    have h3 : logFrom a r (y :: l) = logFrom a (min r (oneA a y)) l := rfl
    rw [h3]
    rcases logFrom_at a l (min r (oneA a y)) with h | ⟨x, hx, h⟩
    · rcases Int.le_total r (oneA a y) with h4 | h4
      · exact .inl (by omega)
      · exact .inr ⟨y, List.mem_cons_self, by omega⟩
    · exact .inr ⟨x, List.mem_cons_of_mem _ hx, h⟩
theorem logA_le {a : AllowedD} {l : List Int} {x : Int} (h : x ∈ l) : logA a l ≤ oneA a x := (logFrom_le a l 3).2 x h
/-- A log is as good as its worst element. -/
theorem logA_at (a : AllowedD) (l : List Int) : (l = [] ∧ logA a l = 3) ∨ ∃ x ∈ l, logA a l = oneA a x := by
  rcases logFrom_at a l 3 with h | h
  · cases l with
    | nil => exact .inl ⟨rfl, rfl⟩
    | cons y l =>
      refine .inr ⟨y, List.mem_cons_self, ?_⟩
      have h1 := logA_le (a := a) (l := y :: l) List.mem_cons_self
      have h2 := oneA_bd a y
      have h3 : logA a (y :: l) = 3 := h
      omega
  · exact .inr h
/-- What the law's loop keeps: whether an element as bad as the log has been met. -/
def metTo (a : AllowedD) (l : List Int) (k : Nat) : Bool := (decide (l.length = 0) && (logA a l == 3)) || (l.take k).any (fun x => oneA a x == logA a l)
theorem metTo_succ {a : AllowedD} {l : List Int} {k : Nat} {x : Int} (h : l[k]? = some x) : metTo a l (k + 1) = (metTo a l k || (oneA a x == logA a l)) := by
  unfold metTo
  rw [List.take_add_one, h, List.any_append, Bool.or_assoc]
  simp
theorem metTo_all (a : AllowedD) (l : List Int) : metTo a l l.length = true := by
  unfold metTo
  rw [List.take_length]
  rcases logA_at a l with ⟨rfl, h⟩ | ⟨x, hx, h⟩
  · rw [h]; rfl
  · rw [Bool.or_eq_true]
    exact .inr (List.any_eq_true.2 ⟨x, hx, by rw [h]; exact beq_self_eq_true _⟩)
theorem logFrom_mono {a b : AllowedD} : ∀ (l : List Int) {r s : Int}, r ≤ s → (∀ x ∈ l, oneA a x ≤ oneA b x) → logFrom a r l ≤ logFrom b s l
  | [], r, s, h, _ => h
  | y :: l, r, s, h, ht => by
    have h1 := ht y List.mem_cons_self
    exact logFrom_mono l (r := min r (oneA a y)) (s := min s (oneA b y)) (by omega) fun x hx => ht x (List.mem_cons_of_mem _ hx)
theorem strict_at {a b : AllowedD} (h : strictB a b = true) {x : Int} (h0 : 0 ≤ x) (h1 : x ≤ 99) : oneA a x ≤ oneA b x := by
  unfold strictB strictTo at h
  rw [List.all_eq_true] at h
  have := h x.toNat (List.mem_range.2 (by omega))
  rw [decide_eq_true_eq, Int.toNat_of_nonneg h0] at this
  exact this
/-- Stricter rules judge no log better. -/
theorem strict_log {a b : AllowedD} {l : List Int} (h : strictB a b = true) (hl : logB l = true) : logA a l ≤ logA b l := by
  unfold logB at hl
  rw [Bool.and_eq_true, List.all_eq_true] at hl
  exact logFrom_mono l (Int.le_refl _) fun x hx => by
    have := of_decide_eq_true (hl.1 x hx)
    exact strict_at h this.1 this.2
theorem repl_version (a b : AllowedD) : a.Version ≤ (replA a b).Version := by
  unfold replA
  split
  · rename_i h
    unfold replB at h
    rw [Bool.and_eq_true, decide_eq_true_eq] at h
    omega
  · exact Int.le_refl _
end Go.Proofs.YtjfmmingkciapaaDoor
