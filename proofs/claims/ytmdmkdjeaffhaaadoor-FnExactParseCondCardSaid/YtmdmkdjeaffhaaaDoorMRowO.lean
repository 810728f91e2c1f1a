/- Some texts in one: Flat, RowO. -/
import Derived.Test.YtmdmkdjeaffhaaaDoorShared
import Derived.Deep.Slices
import Derived.ChangeSame
import Derived.Test.YtmdmkdjeaffhaaaDoorRowC
import Derived.ChangeOld
/- What a struct by value that came in reads as: its cells, one by one, however its fields are nested. No condition; any program. -/
namespace Go.Proofs.YtmdmkdjeaffhaaaDoor
open Go.ChangeShapes Go.WideShapes Go.ChangeAt Go.RowKit Go.Deep
set_option linter.unusedVariables false

/-- The cells of a type: where each lies, and its own type; none where one is neither a bool, an integer, a string nor a slice. -/
def flatT (P : Program) : Nat → TypeId → Option (List (Nat × TypeId))
  | 0, _ => none
  | n + 1, t => match P.underlying t with
    | some (.struct fs) => (fs.toList.mapM fun f => (flatT P n f.type).map fun l => l.map fun p => (f.offset + p.1, p.2)).map List.flatten
    | some .bool => some [(0, t)]
    | some (.int _) => some [(0, t)]
    | some .string => some [(0, t)]
    | some (.slice _) => some [(0, t)]
    | _ => none

theorem mapM_mem {α β : Type} {f : α → Option β} : ∀ {l : List α} {r : List β}, l.mapM f = some r → ∀ y ∈ r, ∃ (i : Nat) (a : α), l[i]? = some a ∧ f a = some y
  | [], r, h, y, hy => by simp at h; subst h; cases hy
  | a :: l, r, h, y, hy => by
    simp only [List.mapM_cons, Option.bind_eq_bind] at h
    cases hfa : f a with
    | none => simp [hfa] at h
    | some b =>
      rw [hfa] at h
      simp only [Option.bind_some] at h
      cases hl : l.mapM f with
      | none => simp [hl] at h
      | some bs =>
        rw [hl] at h
        simp at h
        subst h
        rcases List.mem_cons.1 hy with rfl | hy
        · exact ⟨0, a, rfl, hfa⟩
        · obtain ⟨i, x, hx, hfx⟩ := mapM_mem hl y hy
          exact ⟨i + 1, x, by simpa using hx, hfx⟩

section
variable {H : Type} {enc : TypeId × Value → H} {P : Program} {w : World} {base : Nat} {spare : Nat → Bool} {held : Bool}

theorem trod_flat : ∀ (n : Nat) {t : TypeId} {l : List (Nat × TypeId)}, flatT P n t = some l → ∀ {fuel : Nat} {cs : List Value} {x : DataW H × List MemPlace}, DataW.trod enc P w base spare held fuel t cs = some x →
    ∀ p ∈ l, ∃ (v : Value) (m : Nat) (y : DataW H × List MemPlace), cs[p.1]? = some v ∧ DataW.trod enc P w base spare held m p.2 [v] = some y
  | 0, t, l, h, _, _, _, _, _, _ => by simp [flatT] at h
  | n + 1, t, l, h, fuel, cs, x, hx, p, hp => by
    unfold flatT at h
    split at h
    · rename_i fs hs
      obtain ⟨xs, m, _, _, hl, hxl, hf⟩ := DataW.trod_struct hs hx
      cases hm : (fs.toList.mapM fun f => (flatT P n f.type).map fun l => l.map fun p => (f.offset + p.1, p.2)) with
      | none => simp [hm] at h
      | some ls =>
        rw [hm] at h
        simp only [Option.map_some, Option.some.injEq] at h
        subst h
        obtain ⟨l1, hl1, hp1⟩ := List.mem_flatten.1 hp
        obtain ⟨i, f, hi, hfl⟩ := mapM_mem hm l1 hl1
        cases hft : flatT P n f.type with
        | none => simp [hft] at hfl
        | some l2 =>
          rw [hft] at hfl
          simp only [Option.map_some, Option.some.injEq] at hfl
          subst hfl
          obtain ⟨q, hq, rfl⟩ := List.mem_map.1 hp1
          have hi2 : fs[i]? = some f := by simpa using hi
          have h1 := hf i f hi2
          have hil : i < xs.length := by rw [hxl]; exact (Array.getElem?_eq_some_iff.1 hi2).1
          rw [List.getElem?_eq_getElem hil] at h1
          obtain ⟨v, m2, y, hv, hy⟩ := trod_flat n hft h1 q hq
          refine ⟨v, m2, y, ?_, hy⟩
          rw [List.getElem?_take] at hv
          split at hv
          · rwa [List.getElem?_drop] at hv
          · cases hv
    · rename_i hs
      simp only [Option.some.injEq] at h
      subst h
      obtain rfl : p = (0, t) := by simpa using hp
      obtain ⟨b, rfl, _⟩ := DataW.trod_bool hs hx
      exact ⟨_, _, _, rfl, hx⟩
    · rename_i k hs
      simp only [Option.some.injEq] at h
      subst h
      obtain rfl : p = (0, t) := by simpa using hp
      obtain ⟨b, rfl, _⟩ := DataW.trod_int hs hx
      exact ⟨_, _, _, rfl, hx⟩
    · rename_i hs
      simp only [Option.some.injEq] at h
      subst h
      obtain rfl : p = (0, t) := by simpa using hp
      obtain ⟨b, rfl, _⟩ := DataW.trod_string hs hx
      exact ⟨_, _, _, rfl, hx⟩
    · rename_i e hs
      simp only [Option.some.injEq] at h
      subst h
      obtain rfl : p = (0, t) := by simpa using hp
      rcases DataW.trod_slice hs hx with ⟨rfl, _⟩ | ⟨a, len, cap, elems, rest, m, _, rfl, _⟩
      · exact ⟨_, _, _, rfl, hx⟩
      · exact ⟨_, _, _, rfl, hx⟩
    · cases h

/-- Each cell reads at its own type, in the order of the cells. -/
def Leaves (R : TypeId → Value → Prop) : List TypeId → List Value → Prop
  | [], [] => True
  | t :: ts, v :: vs => R t v ∧ Leaves R ts vs
  | _, _ => False
theorem leaves_of {R : TypeId → Value → Prop} : ∀ {ts : List TypeId} {vs : List Value}, vs.length = ts.length → (∀ (j : Nat) (t : TypeId), ts[j]? = some t → ∃ v, vs[j]? = some v ∧ R t v) → Leaves R ts vs
  | [], [], _, _ => trivial
  | t :: ts, [], h, _ => by simp at h
  | [], v :: vs, h, _ => by simp at h
  | t :: ts, v :: vs, h, hr => by
    refine ⟨?_, leaves_of (by simpa using h) (fun j u hj => by simpa using hr (j + 1) u (by simpa using hj))⟩
    obtain ⟨v', h1, h2⟩ := hr 0 t rfl
    simp at h1
    subst h1
    exact h2
/-- What is known of one cell of what came in. -/
def Leaf (enc : TypeId × Value → H) (P : Program) (w : World) (base : Nat) (spare : Nat → Bool) (held : Bool) (t : TypeId) (v : Value) : Prop := ∃ (m : Nat) (y : DataW H × List MemPlace), DataW.trod enc P w base spare held m t [v] = some y
theorem leaves_trod (n : Nat) {t : TypeId} {ts : List TypeId} (hf : flatT P n t = some (ts.mapIdx fun i u => (i, u))) (hC : P.cellsOf t = ts.length)
    {fuel : Nat} {cs : List Value} {x : DataW H × List MemPlace} (hl : cs.length = P.cellsOf t) (h : DataW.trod enc P w base spare held fuel t cs = some x) : Leaves (Leaf enc P w base spare held) ts cs := by
  refine leaves_of (hl.trans hC) (fun j u hj => ?_)
  have hm : (j, u) ∈ ts.mapIdx fun i u => (i, u) := by
    rw [List.mem_iff_getElem?]
    exact ⟨j, by rw [List.getElem?_mapIdx, hj]; rfl⟩
  obtain ⟨v, m, y, hv, hy⟩ := trod_flat n hf h (j, u) hm
  exact ⟨v, hv, m, y, hy⟩
theorem open_flat (n : Nat) {r : Reach} {b0 : Nat} {t : TypeId} {ts : List TypeId} {fs : Array Field} {v : Value} {d : DataW H} {p : List MemPlace} (hs : P.underlying t = some (.struct fs))
    (hf : flatT P n t = some (ts.mapIdx fun i u => (i, u))) (hC : P.cellsOf t = ts.length) (hv : Value.okWide P w r b0 t v) (h : DataW.Trod enc P w base spare held t v d p) :
    ∃ vs : List Value, v = .agg vs.toArray ∧ Leaves (Leaf enc P w base spare held) ts vs := by
  obtain ⟨cs, rfl, hsz⟩ := okWide_struct hs hv
  obtain ⟨fuel, hf2⟩ := h
  have hf3 : DataW.trod enc P w base spare held fuel t cs.toList = some (d, p) := hf2
  exact ⟨cs.toList, by simp, leaves_trod n hf hC (by simpa using hsz) hf3⟩
theorem Leaf.int {t : TypeId} {k : IntKind} {v : Value} (ht : P.underlying t = some (.int k)) (h : Leaf enc P w base spare held t v) : ∃ n, v = .int k n ∧ (Lit.int k n).wf = true := by
  obtain ⟨m, y, hy⟩ := h
  obtain ⟨n, h1, _, h3⟩ := DataW.trod_int ht hy
  exact ⟨n, by simpa using h1, h3⟩
theorem Leaf.bool {t : TypeId} {v : Value} (ht : P.underlying t = some .bool) (h : Leaf enc P w base spare held t v) : ∃ b, v = .bool b := by
  obtain ⟨m, y, hy⟩ := h
  obtain ⟨n, h1, _⟩ := DataW.trod_bool ht hy
  exact ⟨n, by simpa using h1⟩
end
end Go.Proofs.YtmdmkdjeaffhaaaDoor
/- A slice of structs that came in reads as a list. No condition; any program. -/
namespace Go.Proofs.YtmdmkdjeaffhaaaDoor
open Go.ChangeShapes Go.WideShapes Go.ChangeAt Go.RowKit Go.Deep
set_option linter.unusedVariables false

theorem agg_inj {vs cs : List Value} (h : Value.agg vs.toArray = .agg cs.toArray) : vs = cs := by
  injection h with h
  simpa using h
theorem list_of {X : Type} {p : Nat → X → Prop} : ∀ n : Nat, (∀ i, i < n → ∃ x, p i x) → ∃ xs : List X, xs.length = n ∧ ∀ i x, xs[i]? = some x → p i x
  | 0, _ => ⟨[], rfl, fun i x h => by simp at h⟩
  | n + 1, h => by
    obtain ⟨xs, h1, h2⟩ := list_of n (fun i hi => h i (by omega))
    obtain ⟨x, hx⟩ := h n (by omega)
    refine ⟨xs ++ [x], by simp [h1], fun i y hy => ?_⟩
    rcases Nat.lt_or_ge i n with hi | hi
    · rw [List.getElem?_append_left (by omega)] at hy
      exact h2 i y hy
    · have hlt := (List.getElem?_eq_some_iff.1 hy).1
      have : i = n := by simp at hlt; omega
      subst this
      rw [List.getElem?_append_right (by omega), h1, Nat.sub_self] at hy
      simp at hy
      subst hy
      exact hx
theorem rowC_of {X : Type} {f : X → List Value} {wf : X → Prop} {s : Nat} {H : Type} {enc : TypeId × Value → H} {P : Program} {w : World} {base : Nat} {spare : Nat → Bool} {held : Bool} {fuel : Nat} {t e : TypeId} {ts : List TypeId} {a : Option Addr} {l c : Nat} {d : DataW H × List MemPlace}
    (n : Nat) (ht : P.underlying t = some (.slice e)) (hf : flatT P n e = some (ts.mapIdx fun i u => (i, u))) (hC : P.cellsOf e = ts.length) (hs : ts.length = s) (h0 : 0 < s) (hfl : ∀ x, (f x).length = s)
    (hX : ∀ vs, Leaves (Leaf enc P w base spare held) ts vs → ∃ x, vs = f x ∧ wf x) (h : DataW.trod enc P w base spare held fuel t (Value.cells (.slice a l c)).toList = some d) :
    ∃ xs : List X, l = xs.length ∧ RowC s w w.heap.size (.slice a l c) xs.length (xs.flatMap f) ∧ ∀ x ∈ xs, wf x := by
  rcases open_slice ht h with ⟨hcs, _⟩ | ⟨A, len, cap, m, k, D, Pl, hcs, _, hl, hm, hmm, _, hel⟩
  · simp [Value.cells] at hcs
    obtain ⟨rfl, rfl, rfl⟩ := hcs
    exact ⟨[], rfl, ⟨by simp, none, 0, rfl, Nat.le_refl _, by decide, fun _ => rfl, fun hp => by simp at hp⟩, fun x hx => by cases hx⟩
  · simp [Value.cells] at hcs
    obtain ⟨rfl, rfl, rfl⟩ := hcs
    have hlm : l ≤ m := by rw [hmm]; split <;> omega
    obtain ⟨xs, hxl, hxs⟩ := list_of (p := fun i x => wf x ∧ w.cells? base (A.add (i * s)) s = some (f x)) l (fun i hi => by
      obtain ⟨cs', h1, h2⟩ := hel i (by omega)
      rw [hC, hs] at h1
      obtain ⟨x, rfl, hw⟩ := hX cs' (leaves_trod n hf hC (by rw [hC, hs]; exact (World.cells?_some h1).2.1) h2)
      exact ⟨x, hw, h1⟩)
    refine ⟨xs, hxl.symm, ⟨flat_len hfl xs, some A, c, by rw [hxl], by omega, hm, (fun e => by cases e), fun hp => ?_⟩, fun x hx => ?_⟩
    · obtain ⟨b, off, spot⟩ := A
      have h1 := (hxs 0 _ (List.getElem?_eq_getElem hp)).2
      have hb := World.cells?_block h1 h0
      have hbk : ((⟨b, off, spot⟩ : Addr).add (0 * s)).block = b := by unfold Addr.add; split <;> rfl
      rw [hbk] at hb
      obtain ⟨_, hl1, hc1⟩ := World.cells?_some h1
      have h2 := hc1 0 h0
      obtain ⟨c0, hc0⟩ : ∃ c0, (f xs[0])[0]? = some c0 := ⟨_, List.getElem?_eq_getElem (by rw [hl1]; exact h0)⟩
      rw [hc0] at h2
      have hspot : spot = none := by simpa [Addr.add] using World.cell?_spot h2
      subst hspot
      refine ⟨b, off, rfl, hb, hb, fun j u hu => ?_⟩
      have hj : j < xs.length * s := by rw [← flat_len hfl xs]; exact (List.getElem?_eq_some_iff.1 hu).1
      have hjs : j / s < xs.length := Nat.div_lt_of_lt_mul (by rw [Nat.mul_comm]; exact hj)
      have hr : j % s < s := Nat.mod_lt _ h0
      have h4 := List.getElem?_eq_getElem hjs
      have h5 := flat_at hfl h4 hr
      have h6 := (World.cells?_some (hxs _ _ h4).2).2.2 (j % s) hr
      rw [add_plain, add_plain, ← h5, Nat.add_assoc, show j / s * s + j % s = j by rw [Nat.mul_comm]; exact Nat.div_add_mod j s, hu] at h6
      exact h6
    · obtain ⟨i, hi⟩ := List.mem_iff_getElem?.1 hx
      exact (hxs i x hi).1
end Go.Proofs.YtmdmkdjeaffhaaaDoor
