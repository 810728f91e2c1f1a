/- What a struct by value that came in reads as: its cells, one by one, however its fields are nested. No condition; any program. -/
import Derived.Test.YtmgigjpkpeamjaaDoorShared
import Derived.Deep.Slices
import Derived.ChangeSame
namespace Go.Proofs.YtmgigjpkpeamjaaDoor
open Go.ChangeShapes Go.WideShapes Go.ChangeAt Go.RowKit Go.Deep
set_option linter.unusedVariables false

/-- The cells of a type: where each lies, and its own type; none where one is neither a bool, an integer, a string nor a slice. -/
def flatT (P : Program) : Nat → TypeId → Option (List (Nat × TypeId))
  | 0, _ => none
  | n + 1, t => match P.underlying t with
    | some (.struct fs) => (fs.toList.mapM fun f => (flatT P n f.type).map fun l => l.map fun p => (f.offset + p.1, p.2)).map List.flatten
    | some .bool => some [(0, t)]
    | some (.int _) => some [(0, t)]
    | some .string => some [(0, t)]
    | some (.slice _) => some [(0, t)]
    | _ => none

theorem mapM_mem {α β : Type} {f : α → Option β} : ∀ {l : List α} {r : List β}, l.mapM f = some r → ∀ y ∈ r, ∃ (i : Nat) (a : α), l[i]? = some a ∧ f a = some y
  | [], r, h, y, hy => by simp at h; subst h; cases hy
  | a :: l, r, h, y, hy => by
    simp only [List.mapM_cons, Option.bind_eq_bind] at h
    cases hfa : f a with
    | none => simp [hfa] at h
    | some b =>
      rw [hfa] at h
      simp only [Option.bind_some] at h
      cases hl : l.mapM f with
      | none => simp [hl] at h
      | some bs =>
        rw [hl] at h
        simp at h
        subst h
        rcases List.mem_cons.1 hy with rfl | hy
        · exact ⟨0, a, rfl, hfa⟩
        · obtain ⟨i, x, hx, hfx⟩ := mapM_mem hl y hy
          exact ⟨i + 1, x, by simpa using hx, hfx⟩

section
variable {H : Type} {enc : TypeId × Value → H} {P : Program} {w : World} {base : Nat} {spare : Nat → Bool} {held : Bool}

theorem trod_flat : ∀ (n : Nat) {t : TypeId} {l : List (Nat × TypeId)}, flatT P n t = some l → ∀ {fuel : Nat} {cs : List Value} {x : DataW H × List MemPlace}, DataW.trod enc P w base spare held fuel t cs = some x →
    ∀ p ∈ l, ∃ (v : Value) (m : Nat) (y : DataW H × List MemPlace), cs[p.1]? = some v ∧ DataW.trod enc P w base spare held m p.2 [v] = some y
  | 0, t, l, h, _, _, _, _, _, _ => by simp [flatT] at h
  | n + 1, t, l, h, fuel, cs, x, hx, p, hp => by
    unfold flatT at h
    split at h
    · rename_i fs hs
      obtain ⟨xs, m, _, _, hl, hxl, hf⟩ := DataW.trod_struct hs hx
      cases hm : (fs.toList.mapM fun f => (flatT P n f.type).map fun l => l.map fun p => (f.offset + p.1, p.2)) with
      | none => simp [hm] at h
      | some ls =>
        rw [hm] at h
        simp only [Option.map_some, Option.some.injEq] at h
        subst h
        obtain ⟨l1, hl1, hp1⟩ := List.mem_flatten.1 hp
        obtain ⟨i, f, hi, hfl⟩ := mapM_mem hm l1 hl1
        cases hft : flatT P n f.type with
        | none => simp [hft] at hfl
        | some l2 =>
          rw [hft] at hfl
          simp only [Option.map_some, Option.some.injEq] at hfl
          subst hfl
          obtain ⟨q, hq, rfl⟩ := List.mem_map.1 hp1
          have hi2 : fs[i]? = some f := by simpa using hi
          have h1 := hf i f hi2
          have hil : i < xs.length := by rw [hxl]; exact (Array.getElem?_eq_some_iff.1 hi2).1
          rw [List.getElem?_eq_getElem hil] at h1
          obtain ⟨v, m2, y, hv, hy⟩ := trod_flat n hft h1 q hq
          refine ⟨v, m2, y, ?_, hy⟩
          rw [List.getElem?_take] at hv
          split at hv
          · rwa [List.getElem?_drop] at hv
          · cases hv
    · rename_i hs
      simp only [Option.some.injEq] at h
      subst h
      obtain rfl : p = (0, t) := by simpa using hp
      obtain ⟨b, rfl, _⟩ := DataW.trod_bool hs hx
      exact ⟨_, _, _, rfl, hx⟩
    · rename_i k hs
      simp only [Option.some.injEq] at h
      subst h
      obtain rfl : p = (0, t) := by simpa using hp
      obtain ⟨b, rfl, _⟩ := DataW.trod_int hs hx
      exact ⟨_, _, _, rfl, hx⟩
    · rename_i hs
      simp only [Option.some.injEq] at h
      subst h
      obtain rfl : p = (0, t) := by simpa using hp
      obtain ⟨b, rfl, _⟩ := DataW.trod_string hs hx
      exact ⟨_, _, _, rfl, hx⟩
    · rename_i e hs
      simp only [Option.some.injEq] at h
      subst h
      obtain rfl : p = (0, t) := by simpa using hp
      rcases DataW.trod_slice hs hx with ⟨rfl, _⟩ | ⟨a, len, cap, elems, rest, m, _, rfl, _⟩
      · exact ⟨_, _, _, rfl, hx⟩
      · exact ⟨_, _, _, rfl, hx⟩
    · cases h

/-- Each cell reads at its own type, in the order of the cells. -/
def Leaves (R : TypeId → Value → Prop) : List TypeId → List Value → Prop
  | [], [] => True
  | t :: ts, v :: vs => R t v ∧ Leaves R ts vs
  | _, _ => False
theorem leaves_of {R : TypeId → Value → Prop} : ∀ {ts : List TypeId} {vs : List Value}, vs.length = ts.length → (∀ (j : Nat) (t : TypeId), ts[j]? = some t → ∃ v, vs[j]? = some v ∧ R t v) → Leaves R ts vs
  | [], [], _, _ => trivial
  | t :: ts, [], h, _ => by simp at h
  | [], v :: vs, h, _ => by simp at h
  | t :: ts, v :: vs, h, hr => by
    refine ⟨?_, leaves_of (by simpa using h) (fun j u hj => by simpa using hr (j + 1) u (by simpa using hj))⟩
    obtain ⟨v', h1, h2⟩ := hr 0 t rfl
    simp at h1
    subst h1
    exact h2
/-- What is known of one cell of what came in. -/
def Leaf (enc : TypeId × Value → H) (P : Program) (w : World) (base : Nat) (spare : Nat → Bool) (held : Bool) (t : TypeId) (v : Value) : Prop := ∃ (m : Nat) (y : DataW H × List MemPlace), DataW.trod enc P w base spare held m t [v] = some y
theorem leaves_trod (n : Nat) {t : TypeId} {ts : List TypeId} (hf : flatT P n t = some (ts.mapIdx fun i u => (i, u))) (hC : P.cellsOf t = ts.length)
    {fuel : Nat} {cs : List Value} {x : DataW H × List MemPlace} (hl : cs.length = P.cellsOf t) (h : DataW.trod enc P w base spare held fuel t cs = some x) : Leaves (Leaf enc P w base spare held) ts cs := by
  refine leaves_of (hl.trans hC) (fun j u hj => ?_)
  have hm : (j, u) ∈ ts.mapIdx fun i u => (i, u) := by
    rw [List.mem_iff_getElem?]
    exact ⟨j, by rw [List.getElem?_mapIdx, hj]; rfl⟩
  obtain ⟨v, m, y, hv, hy⟩ := trod_flat n hf h (j, u) hm
  exact ⟨v, hv, m, y, hy⟩
theorem open_flat (n : Nat) {r : Reach} {b0 : Nat} {t : TypeId} {ts : List TypeId} {fs : Array Field} {v : Value} {d : DataW H} {p : List MemPlace} (hs : P.underlying t = some (.struct fs))
    (hf : flatT P n t = some (ts.mapIdx fun i u => (i, u))) (hC : P.cellsOf t = ts.length) (hv : Value.okWide P w r b0 t v) (h : DataW.Trod enc P w base spare held t v d p) :
    ∃ vs : List Value, v = .agg vs.toArray ∧ Leaves (Leaf enc P w base spare held) ts vs := by
  obtain ⟨cs, rfl, hsz⟩ := okWide_struct hs hv
  obtain ⟨fuel, hf2⟩ := h
  have hf3 : DataW.trod enc P w base spare held fuel t cs.toList = some (d, p) := hf2
  exact ⟨cs.toList, by simp, leaves_trod n hf hC (by simpa using hsz) hf3⟩
theorem Leaf.int {t : TypeId} {k : IntKind} {v : Value} (ht : P.underlying t = some (.int k)) (h : Leaf enc P w base spare held t v) : ∃ n, v = .int k n ∧ (Lit.int k n).wf = true := by
  obtain ⟨m, y, hy⟩ := h
  obtain ⟨n, h1, _, h3⟩ := DataW.trod_int ht hy
  exact ⟨n, by simpa using h1, h3⟩
theorem Leaf.bool {t : TypeId} {v : Value} (ht : P.underlying t = some .bool) (h : Leaf enc P w base spare held t v) : ∃ b, v = .bool b := by
  obtain ⟨m, y, hy⟩ := h
  obtain ⟨n, h1, _⟩ := DataW.trod_bool ht hy
  exact ⟨n, by simpa using h1⟩
end
end Go.Proofs.YtmgigjpkpeamjaaDoor
