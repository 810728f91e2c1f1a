/- Issuers (chapter 8): contracts of the landed functions: an issuer is looked up in a map from Ids to places (a generic map type with methods). No condition but the bounds of what came in. -/
import Derived.Test.YtjfmmingkciapaaGreatDoorIss
import Derived.Test.YtjfmmingkciapaaGreatDoorDirK
import Derived.Maps.OwnOps
import Derived.Maps.OwnSet
import Derived.Handy
namespace Go.Proofs.YtjfmmingkciapaaGreatDoor
open Go.ChangeShapes Go.WideShapes Go.ChangeAt Go.RowKit Go.Maps
set_option linter.unusedVariables false

/-- The places of issuers, by their Ids: what the map holds after k issuers. -/
structure Dir (D : DataW Unit) (xs : List IssuerD) (k : Nat) : Prop where
  map : IsMap D
  no : ∀ id, findI (xs.take k) id = -1 → Maps.has D (.int .i64 id) = false
  yes : ∀ id, findI (xs.take k) id ≠ -1 → Maps.has D (.int .i64 id) = true ∧ D.atKey (.int .i64 id) (.lit (.int .i64 0)) = .lit (.int .i64 (findI (xs.take k) id))
theorem Dir.zero (xs : List IssuerD) : Dir (.map []) xs 0 := ⟨isMap_empty, fun _ _ => rfl, fun id h => absurd rfl h⟩
theorem firstI_snoc {X : Type} (p : X → Bool) (x : X) : ∀ (xs : List X) (n : Nat), firstI p (xs ++ [x]) (n : Int) = if firstI p xs (n : Int) = -1 then (if p x then ((n + xs.length : Nat) : Int) else -1) else firstI p xs (n : Int)
  | [], n => by simp [firstI]
  | y :: ys, n => by
    rw [List.cons_append]
    unfold firstI
    cases hp : p y
    · have h := firstI_snoc p x ys (n + 1)
      simp only [Bool.false_eq_true, if_false]
      rw [show ((n : Int) + 1) = ((n + 1 : Nat) : Int) by omega, h, List.length_cons, show n + 1 + ys.length = n + (ys.length + 1) by omega]
    · simp only [if_true]
      rw [if_neg (by omega)]
theorem findI_take {xs : List IssuerD} {k : Nat} {x : IssuerD} (hx : xs[k]? = some x) (id : Int) :
    findI (xs.take (k + 1)) id = if findI (xs.take k) id = -1 then (if x.Id = id then (k : Int) else -1) else findI (xs.take k) id := by
  have hk : k < xs.length := (List.getElem?_eq_some_iff.1 hx).1
  have h := firstI_snoc (fun x : IssuerD => decide (x.Id = id)) x (xs.take k) 0
  have hl : (xs.take k).length = k := by rw [List.length_take]; omega
  rw [hl, Nat.zero_add] at h
  unfold findI
  rw [List.take_add_one, hx]
  simpa using h
theorem Dir.skip {D : DataW Unit} {xs : List IssuerD} {k : Nat} {x : IssuerD} (h : Dir D xs k) (hx : xs[k]? = some x) (hh : Maps.has D (.int .i64 x.Id) = true) : Dir D xs (k + 1) := by
  have hne : findI (xs.take k) x.Id ≠ -1 := fun e => by
    have := h.no x.Id e
    rw [hh] at this
    cases this
  have e : ∀ id, findI (xs.take (k + 1)) id = findI (xs.take k) id := fun id => by
    rw [findI_take hx]
    by_cases h1 : findI (xs.take k) id = -1
    · rw [if_pos h1, if_neg fun e => hne (by rw [e]; exact h1), h1]
    · rw [if_neg h1]
  exact ⟨h.map, fun id hid => h.no id (by rw [← e]; exact hid), fun id hid => by rw [e]; exact h.yes id (by rw [← e]; exact hid)⟩
theorem Dir.put {D : DataW Unit} {xs : List IssuerD} {k : Nat} {x : IssuerD} (h : Dir D xs k) (hx : xs[k]? = some x) (hh : Maps.has D (.int .i64 x.Id) = false) : Dir (D.put (.int .i64 x.Id) (.lit (.int .i64 (k : Int)))) xs (k + 1) := by
  have hne : findI (xs.take k) x.Id = -1 := by
    by_cases e : findI (xs.take k) x.Id = -1
    · exact e
    · have := (h.yes x.Id e).1
      rw [hh] at this
      cases this
  have e : ∀ id, id ≠ x.Id → findI (xs.take (k + 1)) id = findI (xs.take k) id := fun id hid => by
    rw [findI_take hx]
    by_cases h1 : findI (xs.take k) id = -1
    · rw [if_pos h1, if_neg (Ne.symm hid), h1]
    · rw [if_neg h1]
  have e2 : findI (xs.take (k + 1)) x.Id = (k : Int) := by rw [findI_take hx, if_pos hne, if_pos rfl]
  have hk : WideAt.IsKeyLit (.int .i64 x.Id) := trivial
  have hl : ∀ id, id ≠ x.Id → (Lit.int .i64 id) ≠ .int .i64 x.Id := fun id hid e => hid (by injection e)
  refine ⟨h.map.put _ _, fun id hid => ?_, fun id hid => ?_⟩
  · by_cases h1 : id = x.Id
    · rw [h1, e2] at hid
      omega
    · rw [has_put_other (hl id h1)]
      exact h.no id (by rw [← e id h1]; exact hid)
  · by_cases h1 : id = x.Id
    · subst h1
      exact ⟨has_put_same h.map hk _, by rw [atKey_put_same h.map hk, e2]⟩
    · rw [has_put_other (hl id h1), atKey_put_other (hl id h1), e id h1]
      exact h.yes id (by rw [← e id h1]; exact hid)
set_option maxHeartbeats 4000000 in
theorem impl_findIssuer (w : World) (hi c : Nat) (a : Option Addr) (xs : List IssuerD) (id : Int) (h : RowIssuer w hi (.slice a xs.length c) xs) (hwf : ∀ x ∈ xs, (Lit.int .i64 x.Id).wf = true) (hid : (Lit.int .i64 id).wf = true) :
    Calls Tryz.prog 13 #[.slice a xs.length c, .int .i64 id] w fun e w' => e = .returned (.int .i64 (findI xs id)) ∧ Below w.heap.size w w' := by
  obtain ⟨_, h1, h2⟩ := h.fits
  unfold maxLen at h2
  have H := Lib.hid h
  have HWF := Lib.hid hwf
  clear h hwf
  have hmm := @run_makeMap Tryz.prog
  have hb0 : Below w.heap.size w (w.alloc (.map #[] 0)) := (Below.refl _ _).alloc (Nat.le_refl _) _
  have hO0 := World.ownsMap_made w Tryz.prog 3 (plainElem (H := Unit) Tryz.prog 3)
  go_enter Tryz.func13, Tryz.ntmps13
  go_wp2
  go_loopw [11] (fun i wr => ∃ k : Nat, k ≤ xs.length ∧ i = .int .i64 (k : Int) ∧ (∃ D : DataW Unit, wr.ownsMap Tryz.prog 3 (plainElem Tryz.prog 3) w.heap.size k D ∧ Hid (Dir D xs k)) ∧ Below w.heap.size w wr) (fun i _ => xs.length - (intOf i).toNat)
  case atStart => exact ⟨0, Nat.zero_le _, rfl, ⟨_, hO0, Dir.zero xs⟩, hb0⟩
  case round =>
    obtain ⟨k, hk, rfl, ⟨D, hown, HM⟩, hb⟩ := hrel
    by_cases hlt : k < xs.length
    · obtain ⟨x, hx⟩ : ∃ x, xs[k]? = some x := ⟨_, List.getElem?_eq_getElem hlt⟩
      have hxw := HWF.out x (List.mem_of_getElem? hx)
      have HX := Lib.hid hx
      obtain ⟨p0, ks, p2⟩ := x
      obtain ⟨kv, b, off, hkr, rfl, g1, g2, HC⟩ := RowIssuer.at H.out hx
      obtain ⟨A2, n2, rfl, -⟩ := hkr.form
      obtain ⟨c0, c1, c2⟩ := HC _ _ g2 hb
      clear HC hx
      have hb1 : Below w.heap.size w (wr.alloc (.cells #[.int .i64 p0, .slice A2 ks.length n2, .int .i64 p2] 26)) := hb.alloc hb.size _
      have hob := hown.alloc (.cells #[.int .i64 p0, .slice A2 ks.length n2, .int .i64 p2] 26)
      have hE := impl_enter _ _ _ _ p0 (k : Int) hob hxw (wf_i64 (by omega) (by omega)) (by unfold maxLen; omega)
      have HE := Lib.hid hE
      clear hob hown hE hxw
      go_wp2_with fail
      refine HE.out.mono ?_
      rintro e u ⟨rfl, hg, hown⟩
      go_wp2
      refine ⟨⟨k + 1, by omega, by go_num, ⟨_, hown, ?_⟩, hb1.grown hg hb1.size (fun j hj => by cases hj; exact Nat.le_refl _)⟩, by simp only [intOf]; omega⟩
      cases hh : Maps.has D (.int .i64 p0)
      · exact HM.out.put HX.out hh
      · exact HM.out.skip HX.out hh
    · have hl : xs.take k = xs := List.take_of_length_le (by omega)
      have hL := impl_lookUp wr _ _ _ id (findI xs id) hown hid (by
        by_cases e : findI xs id = -1
        · exact .inl ⟨HM.out.no id (by rw [hl]; exact e), e⟩
        · have := HM.out.yes id (by rw [hl]; exact e)
          rw [hl] at this
          exact .inr this)
      have HL := Lib.hid hL
      clear hL hown hl
      go_wp2_with fail
      refine HL.out.mono ?_
      rintro e u ⟨rfl, rfl⟩
      go_wp2
      go_ret
      exact ⟨rfl, hb⟩
theorem impl_factInts (w : World) (f : FactD) (hwf : f.wf) :
    Calls Tryz.prog 37 #[f.val] w fun e w' => ∃ u, e = .returned u ∧ Own 3 .i64 w' w.heap.size w'.heap.size u (factL f) ∧ Below w.heap.size w w' := by
  obtain ⟨q0, q1, q2, q3, q4, q5⟩ := f
  rw [FactD.val_mk]
  go_enter Tryz.func37, Tryz.ntmps37
  go_wp2
  go_ret
  refine ⟨_, rfl, ?_, by go_grown⟩
  have hO := Own.lit 3 (w.alloc (.cells #[.int .i64 q0, .int .i64 q1, .int .i64 q2, .int .i64 q3, .int .i64 q4, .int .i64 q5] 28)) (factL ⟨q0, q1, q2, q3, q4, q5⟩) (factL_wf hwf) (by show 6 ≤ maxLen; decide)
  have hz : (w.alloc (.cells #[.int .i64 q0, .int .i64 q1, .int .i64 q2, .int .i64 q3, .int .i64 q4, .int .i64 q5] 28)).heap.size = w.heap.size + 1 := by simp
  have h9 := hO.wide (lo' := w.heap.size) (hi' := w.heap.size + 1 + 1) (by omega) (by omega)
  rw [hz] at h9
  simpa [factL] using h9
end Go.Proofs.YtjfmmingkciapaaGreatDoor
