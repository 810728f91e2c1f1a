/- Issuers (chapter 8): contracts of the landed functions: an issuer is looked up in a map from Ids to places (a generic map type with methods). No condition but the bounds of what came in. -/
import Derived.Test.YtmmnajlncmnnhaaDoorIss
import Derived.Maps.OwnOps
import Derived.Maps.OwnSet
import Derived.Handy
namespace Go.Proofs.YtmmnajlncmnnhaaDoor
open Go.ChangeShapes Go.WideShapes Go.ChangeAt Go.RowKit Go.Maps
set_option linter.unusedVariables false

/-- The places of issuers, by their Ids: what the map holds after k issuers. -/
structure Dir (D : DataW Unit) (xs : List IssuerD) (k : Nat) : Prop where
  map : IsMap D
  no : ∀ id, findI (xs.take k) id = -1 → Maps.has D (.int .i64 id) = false
  yes : ∀ id, findI (xs.take k) id ≠ -1 → Maps.has D (.int .i64 id) = true ∧ D.atKey (.int .i64 id) (.lit (.int .i64 0)) = .lit (.int .i64 (findI (xs.take k) id))
theorem Dir.zero (xs : List IssuerD) : Dir (.map []) xs 0 := ⟨isMap_empty, fun _ _ => rfl, fun id h => absurd rfl h⟩
theorem firstI_snoc {X : Type} (p : X → Bool) (x : X) : ∀ (xs : List X) (n : Nat), firstI p (xs ++ [x]) (n : Int) = if firstI p xs (n : Int) = -1 then (if p x then ((n + xs.length : Nat) : Int) else -1) else firstI p xs (n : Int)
  | [], n => by simp [firstI]
  | y :: ys, n => by
    rw [List.cons_append]
    unfold firstI
    cases hp : p y
    · have h := firstI_snoc p x ys (n + 1)
      simp only [Bool.false_eq_true, if_false]
      rw [show ((n : Int) + 1) = ((n + 1 : Nat) : Int) by omega, h, List.length_cons, show n + 1 + ys.length = n + (ys.length + 1) by omega]
    · simp only [if_true]
      rw [if_neg (by omega)]
theorem findI_take {xs : List IssuerD} {k : Nat} {x : IssuerD} (hx : xs[k]? = some x) (id : Int) :
    findI (xs.take (k + 1)) id = if findI (xs.take k) id = -1 then (if x.Id = id then (k : Int) else -1) else findI (xs.take k) id := by
  have hk : k < xs.length := (List.getElem?_eq_some_iff.1 hx).1
  have h := firstI_snoc (fun x : IssuerD => decide (x.Id = id)) x (xs.take k) 0
  have hl : (xs.take k).length = k := by rw [List.length_take]; omega
  rw [hl, Nat.zero_add] at h
  unfold findI
  rw [List.take_add_one, hx]
  simpa using h
theorem Dir.skip {D : DataW Unit} {xs : List IssuerD} {k : Nat} {x : IssuerD} (h : Dir D xs k) (hx : xs[k]? = some x) (hh : Maps.has D (.int .i64 x.Id) = true) : Dir D xs (k + 1) := by
  have hne : findI (xs.take k) x.Id ≠ -1 := fun e => by
    have := h.no x.Id e
    rw [hh] at this
    cases this
  have e : ∀ id, findI (xs.take (k + 1)) id = findI (xs.take k) id := fun id => by
    rw [findI_take hx]
    by_cases h1 : findI (xs.take k) id = -1
    · rw [if_pos h1, if_neg fun e => hne (by rw [e]; exact h1), h1]
    · rw [if_neg h1]
  exact ⟨h.map, fun id hid => h.no id (by rw [← e]; exact hid), fun id hid => by rw [e]; exact h.yes id (by rw [← e]; exact hid)⟩
theorem Dir.put {D : DataW Unit} {xs : List IssuerD} {k : Nat} {x : IssuerD} (h : Dir D xs k) (hx : xs[k]? = some x) (hh : Maps.has D (.int .i64 x.Id) = false) : Dir (D.put (.int .i64 x.Id) (.lit (.int .i64 (k : Int)))) xs (k + 1) := by
  have hne : findI (xs.take k) x.Id = -1 := by
    by_cases e : findI (xs.take k) x.Id = -1
    · exact e
    · have := (h.yes x.Id e).1
      rw [hh] at this
      cases this
  have e : ∀ id, id ≠ x.Id → findI (xs.take (k + 1)) id = findI (xs.take k) id := fun id hid => by
    rw [findI_take hx]
    by_cases h1 : findI (xs.take k) id = -1
    · rw [if_pos h1, if_neg (Ne.symm hid), h1]
    · rw [if_neg h1]
  have e2 : findI (xs.take (k + 1)) x.Id = (k : Int) := by rw [findI_take hx, if_pos hne, if_pos rfl]
  have hk : WideAt.IsKeyLit (.int .i64 x.Id) := trivial
  have hl : ∀ id, id ≠ x.Id → (Lit.int .i64 id) ≠ .int .i64 x.Id := fun id hid e => hid (by injection e)
  refine ⟨h.map.put _ _, fun id hid => ?_, fun id hid => ?_⟩
  · by_cases h1 : id = x.Id
    · rw [h1, e2] at hid
      omega
    · rw [has_put_other (hl id h1)]
      exact h.no id (by rw [← e id h1]; exact hid)
  · by_cases h1 : id = x.Id
    · subst h1
      exact ⟨has_put_same h.map hk _, by rw [atKey_put_same h.map hk, e2]⟩
    · rw [has_put_other (hl id h1), atKey_put_other (hl id h1), e id h1]
      exact h.yes id (by rw [← e id h1]; exact hid)
theorem impl_factInts (w : World) (f : FactD) (hwf : f.wf) :
    Calls Tryd.prog 35 #[f.val] w fun e w' => ∃ u, e = .returned u ∧ Own 3 .i64 w' w.heap.size w'.heap.size u (factL f) ∧ Below w.heap.size w w' := by
  obtain ⟨q0, q1, q2, q3, q4, q5⟩ := f
  rw [FactD.val_mk]
  go_enter Tryd.func35, Tryd.ntmps35
  go_wp2
  go_ret
  refine ⟨_, rfl, ?_, by go_grown⟩
  have hO := Own.lit 3 (w.alloc (.cells #[.int .i64 q0, .int .i64 q1, .int .i64 q2, .int .i64 q3, .int .i64 q4, .int .i64 q5] 40)) (factL ⟨q0, q1, q2, q3, q4, q5⟩) (factL_wf hwf) (by show 6 ≤ maxLen; decide)
  have hz : (w.alloc (.cells #[.int .i64 q0, .int .i64 q1, .int .i64 q2, .int .i64 q3, .int .i64 q4, .int .i64 q5] 40)).heap.size = w.heap.size + 1 := by simp
  have h9 := hO.wide (lo' := w.heap.size) (hi' := w.heap.size + 1 + 1) (by omega) (by omega)
  rw [hz] at h9
  simpa [factL] using h9
end Go.Proofs.YtmmnajlncmnnhaaDoor
