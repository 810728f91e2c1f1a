/- A slice of structs that came in reads as a list. No condition; any program. -/
import Derived.Test.YtmgigjpkpeamjaaRowC
import Derived.Test.YtmgigjpkpeamjaaMFlat
import Derived.ChangeOld
namespace Go.Proofs.Ytmgigjpkpeamjaa
open Go.ChangeShapes Go.WideShapes Go.ChangeAt Go.RowKit Go.Deep
set_option linter.unusedVariables false

theorem agg_inj {vs cs : List Value} (h : Value.agg vs.toArray = .agg cs.toArray) : vs = cs := by
  injection h with h
  simpa using h
theorem list_of {X : Type} {p : Nat → X → Prop} : ∀ n : Nat, (∀ i, i < n → ∃ x, p i x) → ∃ xs : List X, xs.length = n ∧ ∀ i x, xs[i]? = some x → p i x
  | 0, _ => ⟨[], rfl, fun i x h => by simp at h⟩
  | n + 1, h => by
    obtain ⟨xs, h1, h2⟩ := list_of n (fun i hi => h i (by omega))
    obtain ⟨x, hx⟩ := h n (by omega)
    refine ⟨xs ++ [x], by simp [h1], fun i y hy => ?_⟩
    rcases Nat.lt_or_ge i n with hi | hi
    · rw [List.getElem?_append_left (by omega)] at hy
      exact h2 i y hy
    · have hlt := (List.getElem?_eq_some_iff.1 hy).1
      have : i = n := by simp at hlt; omega
      subst this
      rw [List.getElem?_append_right (by omega), h1, Nat.sub_self] at hy
      simp at hy
      subst hy
      exact hx
theorem rowC_of {X : Type} {f : X → List Value} {wf : X → Prop} {s : Nat} {H : Type} {enc : TypeId × Value → H} {P : Program} {w : World} {base : Nat} {spare : Nat → Bool} {held : Bool} {fuel : Nat} {t e : TypeId} {ts : List TypeId} {a : Option Addr} {l c : Nat} {d : DataW H × List MemPlace}
    (n : Nat) (ht : P.underlying t = some (.slice e)) (hf : flatT P n e = some (ts.mapIdx fun i u => (i, u))) (hC : P.cellsOf e = ts.length) (hs : ts.length = s) (h0 : 0 < s) (hfl : ∀ x, (f x).length = s)
    (hX : ∀ vs, Leaves (Leaf enc P w base spare held) ts vs → ∃ x, vs = f x ∧ wf x) (h : DataW.trod enc P w base spare held fuel t (Value.cells (.slice a l c)).toList = some d) :
    ∃ xs : List X, l = xs.length ∧ RowC s w w.heap.size (.slice a l c) xs.length (xs.flatMap f) ∧ ∀ x ∈ xs, wf x := by
  rcases open_slice ht h with ⟨hcs, _⟩ | ⟨A, len, cap, m, k, D, Pl, hcs, _, hl, hm, hmm, _, hel⟩
  · simp [Value.cells] at hcs
    obtain ⟨rfl, rfl, rfl⟩ := hcs
    exact ⟨[], rfl, ⟨by simp, none, 0, rfl, Nat.le_refl _, by decide, fun _ => rfl, fun hp => by simp at hp⟩, fun x hx => by cases hx⟩
  · simp [Value.cells] at hcs
    obtain ⟨rfl, rfl, rfl⟩ := hcs
    have hlm : l ≤ m := by rw [hmm]; split <;> omega
    obtain ⟨xs, hxl, hxs⟩ := list_of (p := fun i x => wf x ∧ w.cells? base (A.add (i * s)) s = some (f x)) l (fun i hi => by
      obtain ⟨cs', h1, h2⟩ := hel i (by omega)
      rw [hC, hs] at h1
      obtain ⟨x, rfl, hw⟩ := hX cs' (leaves_trod n hf hC (by rw [hC, hs]; exact (World.cells?_some h1).2.1) h2)
      exact ⟨x, hw, h1⟩)
    refine ⟨xs, hxl.symm, ⟨flat_len hfl xs, some A, c, by rw [hxl], by omega, hm, (fun e => by cases e), fun hp => ?_⟩, fun x hx => ?_⟩
    · obtain ⟨b, off, spot⟩ := A
      have h1 := (hxs 0 _ (List.getElem?_eq_getElem hp)).2
      have hb := World.cells?_block h1 h0
      have hbk : ((⟨b, off, spot⟩ : Addr).add (0 * s)).block = b := by unfold Addr.add; split <;> rfl
      rw [hbk] at hb
      obtain ⟨_, hl1, hc1⟩ := World.cells?_some h1
      have h2 := hc1 0 h0
      obtain ⟨c0, hc0⟩ : ∃ c0, (f xs[0])[0]? = some c0 := ⟨_, List.getElem?_eq_getElem (by rw [hl1]; exact h0)⟩
      rw [hc0] at h2
      have hspot : spot = none := by simpa [Addr.add] using World.cell?_spot h2
      subst hspot
      refine ⟨b, off, rfl, hb, hb, fun j u hu => ?_⟩
      have hj : j < xs.length * s := by rw [← flat_len hfl xs]; exact (List.getElem?_eq_some_iff.1 hu).1
      have hjs : j / s < xs.length := Nat.div_lt_of_lt_mul (by rw [Nat.mul_comm]; exact hj)
      have hr : j % s < s := Nat.mod_lt _ h0
      have h4 := List.getElem?_eq_getElem hjs
      have h5 := flat_at hfl h4 hr
      have h6 := (World.cells?_some (hxs _ _ h4).2).2.2 (j % s) hr
      rw [add_plain, add_plain, ← h5, Nat.add_assoc, show j / s * s + j % s = j by rw [Nat.mul_comm]; exact Nat.div_add_mod j s, hu] at h6
      exact h6
    · obtain ⟨i, hi⟩ := List.mem_iff_getElem?.1 hx
      exact (hxs i x hi).1
end Go.Proofs.Ytmgigjpkpeamjaa
