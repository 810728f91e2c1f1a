/- Issuers (chapter 8): mathematics of what is believed and taken. No condition. -/
import Derived.Test.YtjfmmingkciapaaGreatDoorDraw8c
namespace Go.Proofs.YtjfmmingkciapaaGreatDoor
open Go.ChangeShapes Go.WideShapes Go.ChangeAt Go.RowKit
set_option linter.unusedVariables false

theorem stateV_parts2 (i q2 k1 k2 k3 k4 k5 k6 : Int) (ks : List Int) : ∃ (r0 r1 r2 r3 r4 r5 r6 : Int) (o : Bool), stateV ⟨i, ks, q2⟩ ⟨k1, k2, k3, k4, k5, k6⟩ = .tuple #[.agg #[.int .i64 r0, .int .i64 r1, .int .i64 r2, .int .i64 r3, .int .i64 r4, .int .i64 r5, .int .i64 r6], .bool o] ∧
    (o = true → okState ⟨i, ks, q2⟩ ⟨k1, k2, k3, k4, k5, k6⟩ = true ∧ r0 = k1 ∧ r1 = k2 ∧ r2 = k3 ∧ r3 = i ∧ r4 = k5 ∧ r5 = k6 ∧ r6 = keyed q2 [k1, k2, k3, i, k5, k6]) := by
  unfold stateV
  cases ho : okState ⟨i, ks, q2⟩ ⟨k1, k2, k3, k4, k5, k6⟩
  · exact ⟨_, _, _, _, _, _, _, _, rfl, fun h => by cases h⟩
  · exact ⟨_, _, _, _, _, _, _, _, rfl, fun _ => ⟨rfl, rfl, rfl, rfl, rfl, rfl, rfl, rfl⟩⟩
/-- What an issuer has stated is believed of a list of him alone. -/
theorem believed_own {i s k1 k2 k3 k4 k5 k6 : Int} {ks : List Int} (h : okState ⟨i, ks, s⟩ ⟨k1, k2, k3, k4, k5, k6⟩ = true) : believedB [⟨i, ks, s⟩] ⟨k1, k2, k3, i, k5, k6⟩ (keyed s [k1, k2, k3, i, k5, k6]) = true := by
  rw [believed_at (i := 0) (x := ⟨i, ks, s⟩) rfl (by simp [findI, firstI])]
  have h2 : okState ⟨i, ks, s⟩ ⟨k1, k2, k3, i, k5, k6⟩ = true := h
  rw [h2]
  simp
theorem believed_true {xs : List IssuerD} {f : FactD} {m : Int} (h : believedB xs f m = true) : ∃ (i : Nat) (x : IssuerD), xs[i]? = some x ∧ findI xs f.Issuer = (i : Int) ∧ x.Id = f.Issuer ∧ okState x f = true ∧ keyed x.Secret [f.Kind, f.Subject, f.Value, f.Issuer, f.At, f.Until] = m := by
  rcases findI_cases xs f.Issuer with h1 | ⟨i, x, hx, h1, h2⟩
  · rw [believed_no h1] at h
    cases h
  · rw [believed_at hx h1, Bool.and_eq_true, beq_iff_eq] at h
    exact ⟨i, x, hx, h1, h2, h.1, h.2⟩
theorem believed_at_changed {xs : List IssuerD} {k1 k2 k3 k4 k5 k6 m : Int} (h : believedB xs ⟨k1, k2, k3, k4, k5, k6⟩ m = true) : believedB xs ⟨k1, k2, k3, k4, k5 + 1, k6⟩ m = false := by
  obtain ⟨i, x, hx, h1, h2, h3, h4⟩ := believed_true h
  rw [believed_at (f := ⟨k1, k2, k3, k4, k5 + 1, k6⟩) hx h1, Bool.and_eq_false_iff]
  right
  rw [beq_eq_false_iff_ne, ← h4]
  exact keyed_changed x.Secret [k1, k2, k3, k4, k5, k6] 4 (by simp) (k5 + 1) (by show k5 % _ ≠ _; omega)
theorem believed_value_changed {xs : List IssuerD} {k1 k2 k3 k4 k5 k6 m : Int} (h : believedB xs ⟨k1, k2, k3, k4, k5, k6⟩ m = true) : believedB xs ⟨k1, k2, k3 + 1, k4, k5, k6⟩ m = false := by
  obtain ⟨i, x, hx, h1, h2, h3, h4⟩ := believed_true h
  rw [believed_at (f := ⟨k1, k2, k3 + 1, k4, k5, k6⟩) hx h1, Bool.and_eq_false_iff]
  right
  rw [beq_eq_false_iff_ne, ← h4]
  exact keyed_changed x.Secret [k1, k2, k3, k4, k5, k6] 2 (by simp) (k3 + 1) (by show k3 % _ ≠ _; omega)
theorem believed_bounds {xs : List IssuerD} {k1 k2 k3 k4 k5 k6 m : Int} (h : believedB xs ⟨k1, k2, k3, k4, k5, k6⟩ m = true) : 0 ≤ k5 ∧ k5 ≤ 10000 ∧ 0 ≤ k3 ∧ k3 ≤ 100 ∧ 0 ≤ findI xs k4 := by
  obtain ⟨i, x, hx, h1, h2, h3, h4⟩ := believed_true h
  have h1' : findI xs k4 = (i : Int) := h1
  unfold okState at h3
  rw [Bool.and_eq_true, Bool.and_eq_true] at h3
  obtain ⟨g1, g2⟩ := (factB_iff _).1 h3.2.1
  unfold kindP at g1
  unfold timesP isT at g2
  dsimp only at g1 g2
  omega
theorem stepT_store {ls : List IssuerD} {acc : List FactD × Nat} (h : storeB acc.1 = true) (y : StatedD) : storeB (stepT ls acc y).1 = true := by
  unfold stepT
  split
  · split
    · exact putF_store h _
    · exact h
  · exact h
theorem takeS_store (ls : List IssuerD) : ∀ (ys : List StatedD) (acc : List FactD × Nat), storeB acc.1 = true → storeB (ys.foldl (stepT ls) acc).1 = true
  | [], _, h => h
  | y :: ys, acc, h => takeS_store ls ys _ (stepT_store h y)
/-- A slice of one issuer, made of a copy of him. -/
theorem rowIss_one (w : World) (i s : Int) (kv : Value) (ks : List Int) (hi : Nat) (h : Row .i64 w hi kv ks) (hh : hi ≤ w.heap.size) : RowIssuer (w.alloc (.cells #[.int .i64 i, kv, .int .i64 s] 26)) (w.heap.size + 1) (.slice (some ⟨w.heap.size, 0, none⟩) 1 1) [⟨i, ks, s⟩] := by
  refine ⟨[[.int .i64 i, kv, .int .i64 s]], rfl, rowC_one 3 26 w [.int .i64 i, kv, .int .i64 s] rfl, fun j c x hc hx => ?_⟩
  have hj : j = 0 := by have := (List.getElem?_eq_some_iff.1 hx).1; simp only [List.length_singleton] at this; omega
  subst hj
  obtain rfl := Option.some.inj hc
  obtain rfl := Option.some.inj hx
  exact ⟨kv, rfl, (h.below ((Below.refl w.heap.size w).alloc (Nat.le_refl _) _) hh).more (by omega)⟩
end Go.Proofs.YtjfmmingkciapaaGreatDoor
