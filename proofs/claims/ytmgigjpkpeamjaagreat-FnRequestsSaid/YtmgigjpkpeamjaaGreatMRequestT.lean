/- Some texts in one: Flat, RequestT. -/
import Derived.Test.YtmgigjpkpeamjaaGreatMBlk
import Derived.Deep.Slices
import Derived.ChangeSame
import Derived.Test.YtmgigjpkpeamjaaGreatMDraw5
import Derived.Handy
/- What a struct by value that came in reads as: its cells, one by one, however its fields are nested. No condition; any program. -/
namespace Go.Proofs.YtmgigjpkpeamjaaGreat
open Go.ChangeShapes Go.WideShapes Go.ChangeAt Go.RowKit Go.Deep
set_option linter.unusedVariables false

/-- The cells of a type: where each lies, and its own type; none where one is neither a bool, an integer, a string nor a slice. -/
def flatT (P : Program) : Nat → TypeId → Option (List (Nat × TypeId))
  | 0, _ => none
  | n + 1, t => match P.underlying t with
    | some (.struct fs) => (fs.toList.mapM fun f => (flatT P n f.type).map fun l => l.map fun p => (f.offset + p.1, p.2)).map List.flatten
    | some .bool => some [(0, t)]
    | some (.int _) => some [(0, t)]
    | some .string => some [(0, t)]
    | some (.slice _) => some [(0, t)]
    | _ => none

theorem mapM_mem {α β : Type} {f : α → Option β} : ∀ {l : List α} {r : List β}, l.mapM f = some r → ∀ y ∈ r, ∃ (i : Nat) (a : α), l[i]? = some a ∧ f a = some y
  | [], r, h, y, hy => by simp at h; subst h; cases hy
  | a :: l, r, h, y, hy => by
    simp only [List.mapM_cons, Option.bind_eq_bind] at h
    cases hfa : f a with
    | none => simp [hfa] at h
    | some b =>
      rw [hfa] at h
      simp only [Option.bind_some] at h
      cases hl : l.mapM f with
      | none => simp [hl] at h
      | some bs =>
        rw [hl] at h
        simp at h
        subst h
        rcases List.mem_cons.1 hy with rfl | hy
        · exact ⟨0, a, rfl, hfa⟩
        · obtain ⟨i, x, hx, hfx⟩ := mapM_mem hl y hy
          exact ⟨i + 1, x, by simpa using hx, hfx⟩

section
variable {H : Type} {enc : TypeId × Value → H} {P : Program} {w : World} {base : Nat} {spare : Nat → Bool} {held : Bool}

theorem trod_flat : ∀ (n : Nat) {t : TypeId} {l : List (Nat × TypeId)}, flatT P n t = some l → ∀ {fuel : Nat} {cs : List Value} {x : DataW H × List MemPlace}, DataW.trod enc P w base spare held fuel t cs = some x →
    ∀ p ∈ l, ∃ (v : Value) (m : Nat) (y : DataW H × List MemPlace), cs[p.1]? = some v ∧ DataW.trod enc P w base spare held m p.2 [v] = some y
  | 0, t, l, h, _, _, _, _, _, _ => by simp [flatT] at h
  | n + 1, t, l, h, fuel, cs, x, hx, p, hp => by
    unfold flatT at h
    split at h
    · rename_i fs hs
      obtain ⟨xs, m, _, _, hl, hxl, hf⟩ := DataW.trod_struct hs hx
      cases hm : (fs.toList.mapM fun f => (flatT P n f.type).map fun l => l.map fun p => (f.offset + p.1, p.2)) with
      | none => simp [hm] at h
      | some ls =>
        rw [hm] at h
        simp only [Option.map_some, Option.some.injEq] at h
        subst h
        obtain ⟨l1, hl1, hp1⟩ := List.mem_flatten.1 hp
        obtain ⟨i, f, hi, hfl⟩ := mapM_mem hm l1 hl1
        cases hft : flatT P n f.type with
        | none => simp [hft] at hfl
        | some l2 =>
          rw [hft] at hfl
          simp only [Option.map_some, Option.some.injEq] at hfl
          subst hfl
          obtain ⟨q, hq, rfl⟩ := List.mem_map.1 hp1
          have hi2 : fs[i]? = some f := by simpa using hi
          have h1 := hf i f hi2
          have hil : i < xs.length := by rw [hxl]; exact (Array.getElem?_eq_some_iff.1 hi2).1
          rw [List.getElem?_eq_getElem hil] at h1
          obtain ⟨v, m2, y, hv, hy⟩ := trod_flat n hft h1 q hq
          refine ⟨v, m2, y, ?_, hy⟩
          rw [List.getElem?_take] at hv
          split at hv
          · rwa [List.getElem?_drop] at hv
          · cases hv
    · rename_i hs
      simp only [Option.some.injEq] at h
      subst h
      obtain rfl : p = (0, t) := by simpa using hp
      obtain ⟨b, rfl, _⟩ := DataW.trod_bool hs hx
      exact ⟨_, _, _, rfl, hx⟩
    · rename_i k hs
      simp only [Option.some.injEq] at h
      subst h
      obtain rfl : p = (0, t) := by simpa using hp
      obtain ⟨b, rfl, _⟩ := DataW.trod_int hs hx
      exact ⟨_, _, _, rfl, hx⟩
    · rename_i hs
      simp only [Option.some.injEq] at h
      subst h
      obtain rfl : p = (0, t) := by simpa using hp
      obtain ⟨b, rfl, _⟩ := DataW.trod_string hs hx
      exact ⟨_, _, _, rfl, hx⟩
    · rename_i e hs
      simp only [Option.some.injEq] at h
      subst h
      obtain rfl : p = (0, t) := by simpa using hp
      rcases DataW.trod_slice hs hx with ⟨rfl, _⟩ | ⟨a, len, cap, elems, rest, m, _, rfl, _⟩
      · exact ⟨_, _, _, rfl, hx⟩
      · exact ⟨_, _, _, rfl, hx⟩
    · cases h

/-- Each cell reads at its own type, in the order of the cells. -/
def Leaves (R : TypeId → Value → Prop) : List TypeId → List Value → Prop
  | [], [] => True
  | t :: ts, v :: vs => R t v ∧ Leaves R ts vs
  | _, _ => False
theorem leaves_of {R : TypeId → Value → Prop} : ∀ {ts : List TypeId} {vs : List Value}, vs.length = ts.length → (∀ (j : Nat) (t : TypeId), ts[j]? = some t → ∃ v, vs[j]? = some v ∧ R t v) → Leaves R ts vs
  | [], [], _, _ => trivial
  | t :: ts, [], h, _ => by simp at h
  | [], v :: vs, h, _ => by simp at h
  | t :: ts, v :: vs, h, hr => by
    refine ⟨?_, leaves_of (by simpa using h) (fun j u hj => by simpa using hr (j + 1) u (by simpa using hj))⟩
    obtain ⟨v', h1, h2⟩ := hr 0 t rfl
    simp at h1
    subst h1
    exact h2
/-- What is known of one cell of what came in. -/
def Leaf (enc : TypeId × Value → H) (P : Program) (w : World) (base : Nat) (spare : Nat → Bool) (held : Bool) (t : TypeId) (v : Value) : Prop := ∃ (m : Nat) (y : DataW H × List MemPlace), DataW.trod enc P w base spare held m t [v] = some y
theorem leaves_trod (n : Nat) {t : TypeId} {ts : List TypeId} (hf : flatT P n t = some (ts.mapIdx fun i u => (i, u))) (hC : P.cellsOf t = ts.length)
    {fuel : Nat} {cs : List Value} {x : DataW H × List MemPlace} (hl : cs.length = P.cellsOf t) (h : DataW.trod enc P w base spare held fuel t cs = some x) : Leaves (Leaf enc P w base spare held) ts cs := by
  refine leaves_of (hl.trans hC) (fun j u hj => ?_)
  have hm : (j, u) ∈ ts.mapIdx fun i u => (i, u) := by
    rw [List.mem_iff_getElem?]
    exact ⟨j, by rw [List.getElem?_mapIdx, hj]; rfl⟩
  obtain ⟨v, m, y, hv, hy⟩ := trod_flat n hf h (j, u) hm
  exact ⟨v, hv, m, y, hy⟩
theorem open_flat (n : Nat) {r : Reach} {b0 : Nat} {t : TypeId} {ts : List TypeId} {fs : Array Field} {v : Value} {d : DataW H} {p : List MemPlace} (hs : P.underlying t = some (.struct fs))
    (hf : flatT P n t = some (ts.mapIdx fun i u => (i, u))) (hC : P.cellsOf t = ts.length) (hv : Value.okWide P w r b0 t v) (h : DataW.Trod enc P w base spare held t v d p) :
    ∃ vs : List Value, v = .agg vs.toArray ∧ Leaves (Leaf enc P w base spare held) ts vs := by
  obtain ⟨cs, rfl, hsz⟩ := okWide_struct hs hv
  obtain ⟨fuel, hf2⟩ := h
  have hf3 : DataW.trod enc P w base spare held fuel t cs.toList = some (d, p) := hf2
  exact ⟨cs.toList, by simp, leaves_trod n hf hC (by simpa using hsz) hf3⟩
theorem Leaf.int {t : TypeId} {k : IntKind} {v : Value} (ht : P.underlying t = some (.int k)) (h : Leaf enc P w base spare held t v) : ∃ n, v = .int k n ∧ (Lit.int k n).wf = true := by
  obtain ⟨m, y, hy⟩ := h
  obtain ⟨n, h1, _, h3⟩ := DataW.trod_int ht hy
  exact ⟨n, by simpa using h1, h3⟩
theorem Leaf.bool {t : TypeId} {v : Value} (ht : P.underlying t = some .bool) (h : Leaf enc P w base spare held t v) : ∃ b, v = .bool b := by
  obtain ⟨m, y, hy⟩ := h
  obtain ⟨n, h1, _⟩ := DataW.trod_bool ht hy
  exact ⟨n, by simpa using h1⟩
end
end Go.Proofs.YtmgigjpkpeamjaaGreat
/- The program's type Request as data, and the laws' own copier of it. No condition. -/
namespace Go.Proofs.YtmgigjpkpeamjaaGreat
open Go.ChangeShapes Go.WideShapes Go.ChangeAt Go.RowKit
set_option linter.unusedVariables false

structure RequestD where
  Person : Int
  Device : Int
  Program : Int
  Action : Int
  Object : Int
  Now : Int
def RequestD.val (x : RequestD) : Go.Value := .agg #[.int .i64 x.Person, .int .i64 x.Device, .int .i64 x.Program, .int .i64 x.Action, .int .i64 x.Object, .int .i64 x.Now]
def RequestD.cells (x : RequestD) : List Go.Value := [.int .i64 x.Person, .int .i64 x.Device, .int .i64 x.Program, .int .i64 x.Action, .int .i64 x.Object, .int .i64 x.Now]
theorem RequestD.cells_len (x : RequestD) : x.cells.length = 6 := rfl
theorem RequestD.cells_inj (x y : RequestD) (h : x.cells = y.cells) : x = y := by
  obtain ⟨a0, a1, a2, a3, a4, a5⟩ := x
  obtain ⟨b0, b1, b2, b3, b4, b5⟩ := y
  simp [RequestD.cells] at h
  simp [h]
def RequestD.wf (x : RequestD) : Prop := (Lit.int .i64 x.Person).wf = true ∧ (Lit.int .i64 x.Device).wf = true ∧ (Lit.int .i64 x.Program).wf = true ∧ (Lit.int .i64 x.Action).wf = true ∧ (Lit.int .i64 x.Object).wf = true ∧ (Lit.int .i64 x.Now).wf = true
theorem RequestD.val_mk (c_Person : Int) (c_Device : Int) (c_Program : Int) (c_Action : Int) (c_Object : Int) (c_Now : Int) : (RequestD.val ⟨c_Person, c_Device, c_Program, c_Action, c_Object, c_Now⟩) = .agg #[.int .i64 c_Person, .int .i64 c_Device, .int .i64 c_Program, .int .i64 c_Action, .int .i64 c_Object, .int .i64 c_Now] := rfl
theorem RequestD.wf_mk {c_Person : Int} {c_Device : Int} {c_Program : Int} {c_Action : Int} {c_Object : Int} {c_Now : Int} (hc_Person : -9223372036854775808 ≤ c_Person ∧ c_Person ≤ 9223372036854775807) (hc_Device : -9223372036854775808 ≤ c_Device ∧ c_Device ≤ 9223372036854775807) (hc_Program : -9223372036854775808 ≤ c_Program ∧ c_Program ≤ 9223372036854775807) (hc_Action : -9223372036854775808 ≤ c_Action ∧ c_Action ≤ 9223372036854775807) (hc_Object : -9223372036854775808 ≤ c_Object ∧ c_Object ≤ 9223372036854775807) (hc_Now : -9223372036854775808 ≤ c_Now ∧ c_Now ≤ 9223372036854775807) : (RequestD.wf ⟨c_Person, c_Device, c_Program, c_Action, c_Object, c_Now⟩) := ⟨wf_i64 hc_Person.1 hc_Person.2, wf_i64 hc_Device.1 hc_Device.2, wf_i64 hc_Program.1 hc_Program.2, wf_i64 hc_Action.1 hc_Action.2, wf_i64 hc_Object.1 hc_Object.2, wf_i64 hc_Now.1 hc_Now.2⟩
theorem RequestD.of_leaves {H : Type} {enc : TypeId × Go.Value → H} {P : Go.Program} {w : World} {base : Nat} {spare : Nat → Bool} {held : Bool} {ti : TypeId} (hti : P.underlying ti = some (.int .i64)) {vs : List Go.Value} (h : Leaves (Leaf enc P w base spare held) [ti, ti, ti, ti, ti, ti] vs) :
    ∃ x : RequestD, Go.Value.agg vs.toArray = x.val ∧ x.wf := by
  match vs, h with
  | [v0, v1, v2, v3, v4, v5], ⟨h0, h1, h2, h3, h4, h5, _⟩ =>
    obtain ⟨c_Person, rfl, w0⟩ := h0.int hti
    obtain ⟨c_Device, rfl, w1⟩ := h1.int hti
    obtain ⟨c_Program, rfl, w2⟩ := h2.int hti
    obtain ⟨c_Action, rfl, w3⟩ := h3.int hti
    obtain ⟨c_Object, rfl, w4⟩ := h4.int hti
    obtain ⟨c_Now, rfl, w5⟩ := h5.int hti
    exact ⟨⟨c_Person, c_Device, c_Program, c_Action, c_Object, c_Now⟩, rfl, ⟨w0, w1, w2, w3, w4, w5⟩⟩
end Go.Proofs.YtmgigjpkpeamjaaGreat
