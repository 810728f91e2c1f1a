/- Data of any depth that came in, as cells. No condition; any program. -/
import Derived.Test.YtmgigjpkpeamjaaCell2
import Derived.Test.YtmgigjpkpeamjaaRowO
namespace Go.Proofs.Ytmgigjpkpeamjaa
open Go.ChangeShapes Go.WideShapes Go.ChangeAt Go.RowKit Go.Deep
set_option linter.unusedVariables false

theorem flatG_all {α : Type} {n : Nat} : ∀ {css : List (List α)}, (∀ c ∈ css, c.length = n) → css.flatten.length = css.length * n
  | [], _ => by simp
  | c :: css, h => by
    rw [List.flatten_cons, List.length_append, flatG_all (fun d hd => h d (List.mem_cons_of_mem _ hd)), h c (List.mem_cons_self ..), List.length_cons, Nat.add_mul]
    omega
theorem flatG_at {α : Type} {n : Nat} : ∀ {css : List (List α)} {i : Nat} {c : List α}, (∀ c ∈ css, c.length = n) → css[i]? = some c → ∀ {j : Nat}, j < n → css.flatten[i * n + j]? = c[j]?
  | [], i, c, _, hi, _, _ => by simp at hi
  | d :: css, 0, c, h, hi, j, hj => by
    simp only [List.getElem?_cons_zero, Option.some.injEq] at hi
    subst hi
    rw [List.flatten_cons, Nat.zero_mul, Nat.zero_add, List.getElem?_append_left (by rw [h d (List.mem_cons_self ..)]; exact hj)]
  | d :: css, i + 1, c, h, hi, j, hj => by
    simp only [List.getElem?_cons_succ] at hi
    have hd := h d (List.mem_cons_self ..)
    rw [List.flatten_cons, List.getElem?_append_right (by rw [hd, Nat.add_mul]; omega), hd, show (i + 1) * n + j - n = i * n + j by rw [Nat.add_mul]; omega]
    exact flatG_at (fun e he => h e (List.mem_cons_of_mem _ he)) hi hj
/-- A cell of a type: integers of 64 bits, bools, slices of such, however deep. -/
inductive HasT (P : Program) : TypeId → Cell → Prop
  | num {t : TypeId} {x : Int} (h : P.underlying t = some (.int .i64)) : HasT P t (.num x)
  | flag {t : TypeId} {b : Bool} (h : P.underlying t = some .bool) : HasT P t (.flag b)
  | row {t e : TypeId} {ts : List TypeId} {n : Nat} {es : List (List Cell)} (ht : P.underlying t = some (.slice e)) (hf : flatT P 9 e = some (ts.mapIdx fun i u => (i, u))) (hn : es.length = n) (hl : ∀ (i : Nat) (e' : List Cell), es[i]? = some e' → e'.length = ts.length)
      (h : ∀ (i : Nat) (e' : List Cell), es[i]? = some e' → ∀ (j : Nat) (t' : TypeId) (c : Cell), ts[j]? = some t' → e'[j]? = some c → HasT P t' c) : HasT P t (.row n es.flatten)
theorem HasT.num_inv {P : Program} {t : TypeId} {c : Cell} (ht : P.underlying t = some (.int .i64)) (h : HasT P t c) : ∃ x, c = .num x := by
  cases h with
  | num _ => exact ⟨_, rfl⟩
  | flag h => rw [ht] at h; cases h
  | row h => rw [ht] at h; cases h
theorem HasT.flag_inv {P : Program} {t : TypeId} {c : Cell} (ht : P.underlying t = some .bool) (h : HasT P t c) : ∃ x, c = .flag x := by
  cases h with
  | num h => rw [ht] at h; cases h
  | flag _ => exact ⟨_, rfl⟩
  | row h => rw [ht] at h; cases h
theorem mapIdx_inj {ts us : List TypeId} (h : (ts.mapIdx fun i u => (i, u)) = us.mapIdx fun i u => (i, u)) : ts = us := by
  have h2 := congrArg (List.map Prod.snd) h
  simpa [List.mapIdx_eq_zipIdx_map, Function.comp_def] using h2
theorem rows_list {X : Type} {f : X → List Cell} : ∀ {es : List (List Cell)}, (∀ (i : Nat) (e' : List Cell), es[i]? = some e' → ∃ x, e' = f x) → ∃ xs : List X, es.flatten = xs.flatMap f ∧ es.length = xs.length
  | [], _ => ⟨[], rfl, rfl⟩
  | e :: es, h => by
    obtain ⟨x, hx⟩ := h 0 e rfl
    obtain ⟨xs, h1, h2⟩ := rows_list (es := es) fun i e' hi => h (i + 1) e' (by simpa using hi)
    exact ⟨x :: xs, by rw [List.flatten_cons, List.flatMap_cons, h1, hx], by simp [h2]⟩
/-- A slice's cell, by what its elements come to. -/
theorem HasT.row_inv {P : Program} {X : Type} {f : X → List Cell} {t e : TypeId} {ts : List TypeId} {c : Cell} (ht : P.underlying t = some (.slice e)) (hf : flatT P 9 e = some (ts.mapIdx fun i u => (i, u)))
    (hU : ∀ e' : List Cell, e'.length = ts.length → (∀ (j : Nat) (t' : TypeId) (c : Cell), ts[j]? = some t' → e'[j]? = some c → HasT P t' c) → ∃ x, e' = f x) (h : HasT P t c) : ∃ xs : List X, c = rowF f xs := by
  cases h with
  | num h => rw [ht] at h; cases h
  | flag h => rw [ht] at h; cases h
  | row h1 h2 hn hl hh =>
    rw [ht] at h1
    obtain rfl : e = _ := by simpa using h1
    rw [hf] at h2
    obtain rfl := mapIdx_inj (Option.some.inj h2)
    obtain ⟨xs, g1, g2⟩ := rows_list fun i e' hi => hU e' (hl i e' hi) (hh i e' hi)
    refine ⟨xs, ?_⟩
    rw [← hn, g1, g2]
theorem one_cell {e : List Cell} (h : e.length = 1) : ∃ c, e = [c] := by
  match e, h with
  | [c], _ => exact ⟨c, rfl⟩
theorem num_elem {P : Program} {t : TypeId} (ht : P.underlying t = some (.int .i64)) : ∀ e' : List Cell, e'.length = [t].length → (∀ (j : Nat) (t' : TypeId) (c : Cell), [t][j]? = some t' → e'[j]? = some c → HasT P t' c) → ∃ x : Int, e' = [Cell.num x] := by
  intro e' hl h
  obtain ⟨c, rfl⟩ := one_cell hl
  obtain ⟨x, rfl⟩ := (h 0 t c rfl rfl).num_inv ht
  exact ⟨x, rfl⟩
theorem flag_elem {P : Program} {t : TypeId} (ht : P.underlying t = some .bool) : ∀ e' : List Cell, e'.length = [t].length → (∀ (j : Nat) (t' : TypeId) (c : Cell), [t][j]? = some t' → e'[j]? = some c → HasT P t' c) → ∃ x : Bool, e' = [Cell.flag x] := by
  intro e' hl h
  obtain ⟨c, rfl⟩ := one_cell hl
  obtain ⟨x, rfl⟩ := (h 0 t c rfl rfl).flag_inv ht
  exact ⟨x, rfl⟩
/-- A set of types that is closed. -/
def OkT (P : Program) (S : TypeId → Prop) : Prop := ∀ t, S t → P.underlying t = some (.int .i64) ∨ P.underlying t = some .bool ∨
  ∃ (e : TypeId) (ts : List TypeId), P.underlying t = some (.slice e) ∧ flatT P 9 e = some (ts.mapIdx fun i u => (i, u)) ∧ P.cellsOf e = ts.length ∧ 0 < ts.length ∧ ∀ u ∈ ts, S u
section
variable {H : Type} {enc : TypeId × Value → H} {P : Program} {w : World} {base : Nat} {spare : Nat → Bool} {held : Bool}
theorem trod_flatB : ∀ (n : Nat) {t : TypeId} {l : List (Nat × TypeId)}, flatT P n t = some l → ∀ {fuel : Nat} {cs : List Value} {x : DataW H × List MemPlace}, DataW.trod enc P w base spare held fuel t cs = some x →
    ∀ p ∈ l, ∃ (v : Value) (m : Nat) (y : DataW H × List MemPlace), cs[p.1]? = some v ∧ m ≤ fuel ∧ DataW.trod enc P w base spare held m p.2 [v] = some y
  | 0, t, l, h, _, _, _, _, _, _ => by simp [flatT] at h
  | n + 1, t, l, h, fuel, cs, x, hx, p, hp => by
    unfold flatT at h
    split at h
    · rename_i fs hs
      obtain ⟨xs, m, hfu, _, hl, hxl, hf⟩ := DataW.trod_struct hs hx
      cases hm : (fs.toList.mapM fun f => (flatT P n f.type).map fun l => l.map fun p => (f.offset + p.1, p.2)) with
      | none => simp [hm] at h
      | some ls =>
        rw [hm] at h
        simp only [Option.map_some, Option.some.injEq] at h
        subst h
        obtain ⟨l1, hl1, hp1⟩ := List.mem_flatten.1 hp
        obtain ⟨i, f, hi, hfl⟩ := mapM_mem hm l1 hl1
        cases hft : flatT P n f.type with
        | none => simp [hft] at hfl
        | some l2 =>
          rw [hft] at hfl
          simp only [Option.map_some, Option.some.injEq] at hfl
          subst hfl
          obtain ⟨q, hq, rfl⟩ := List.mem_map.1 hp1
          have hi2 : fs[i]? = some f := by simpa using hi
          have h1 := hf i f hi2
          have hil : i < xs.length := by rw [hxl]; exact (Array.getElem?_eq_some_iff.1 hi2).1
          rw [List.getElem?_eq_getElem hil] at h1
          obtain ⟨v, m2, y, hv, hm2, hy⟩ := trod_flatB n hft h1 q hq
          refine ⟨v, m2, y, ?_, by omega, hy⟩
          rw [List.getElem?_take] at hv
          split at hv
          · rwa [List.getElem?_drop] at hv
          · cases hv
    · rename_i hs
      simp only [Option.some.injEq] at h
      subst h
      obtain rfl : p = (0, t) := by simpa using hp
      obtain ⟨b, rfl, _⟩ := DataW.trod_bool hs hx
      exact ⟨_, _, _, rfl, Nat.le_refl _, hx⟩
    · rename_i k hs
      simp only [Option.some.injEq] at h
      subst h
      obtain rfl : p = (0, t) := by simpa using hp
      obtain ⟨b, rfl, _⟩ := DataW.trod_int hs hx
      exact ⟨_, _, _, rfl, Nat.le_refl _, hx⟩
    · rename_i hs
      simp only [Option.some.injEq] at h
      subst h
      obtain rfl : p = (0, t) := by simpa using hp
      obtain ⟨b, rfl, _⟩ := DataW.trod_string hs hx
      exact ⟨_, _, _, rfl, Nat.le_refl _, hx⟩
    · rename_i e hs
      simp only [Option.some.injEq] at h
      subst h
      obtain rfl : p = (0, t) := by simpa using hp
      rcases DataW.trod_slice hs hx with ⟨rfl, _⟩ | ⟨a, len, cap, elems, rest, m, _, rfl, _⟩
      · exact ⟨_, _, _, rfl, Nat.le_refl _, hx⟩
      · exact ⟨_, _, _, rfl, Nat.le_refl _, hx⟩
    · cases h
theorem open_cell {S : TypeId → Prop} (hS : OkT P S) : ∀ (fuel : Nat) {t : TypeId} {v : Value} {y : DataW H × List MemPlace}, S t → DataW.trod enc P w base spare held fuel t [v] = some y → ∃ c, HasT P t c ∧ rdC w w.heap.size c v := by
  intro fuel
  induction fuel using Nat.strongRecOn with
  | ind fuel ih =>
  intro t v y hst hy
  rcases hS t hst with ht | ht | ⟨e, ts, ht, hf, hC, h0, hts⟩
  · obtain ⟨x, h1, _, h3⟩ := DataW.trod_int ht hy
    obtain rfl : v = .int .i64 x := by simpa using h1
    exact ⟨.num x, .num ht, by unfold rdC; exact ⟨rfl, h3⟩⟩
  · obtain ⟨b, h1, _⟩ := DataW.trod_bool ht hy
    obtain rfl : v = .bool b := by simpa using h1
    exact ⟨.flag b, .flag ht, by unfold rdC; rfl⟩
  · rcases DataW.trod_slice ht hy with ⟨h1, _⟩ | ⟨A, len, cap, elems, rest, n, hfu, h1, rfl, hb, hl, hm, hlen, hel, _, _⟩
    · obtain rfl : v = .slice none 0 0 := by simpa using h1
      refine ⟨.row 0 ([] : List (List Cell)).flatten, .row ht hf rfl (fun i e' h => by simp at h) (fun i e' h => by simp at h), ?_⟩
      unfold rdC
      exact ⟨none, 0, rfl, Nat.le_refl _, by decide, fun _ => rfl, fun _ => rfl, fun hp => absurd hp (Nat.lt_irrefl _)⟩
    · obtain rfl : v = .slice (some A) len cap := by simpa using h1
      have hone : ∀ i, i < len → ∃ (e' : List Cell), e'.length = ts.length ∧ ∀ j t' c, ts[j]? = some t' → e'[j]? = some c → HasT P t' c ∧ ∃ u, w.cell? ((A.add (i * ts.length)).add j) = some u ∧ rdC w w.heap.size c u := by
        intro i hi
        have h2 := hel i hi
        rw [List.getElem?_eq_getElem (by omega)] at h2
        cases h3 : w.cells? base (A.add (i * P.cellsOf e)) (P.cellsOf e) with
        | none => rw [h3] at h2; cases h2
        | some vs =>
          rw [h3] at h2
          have h4 : DataW.trod enc P w base spare held n e vs = some elems[i] := h2
          rw [hC] at h3
          obtain ⟨_, hl3, hc3⟩ := World.cells?_some h3
          obtain ⟨e', he1, he2⟩ := list_of (p := fun j c => ∀ t', ts[j]? = some t' → HasT P t' c ∧ ∃ u, w.cell? ((A.add (i * ts.length)).add j) = some u ∧ rdC w w.heap.size c u) ts.length (fun j hj => by
            have hm : (j, ts[j]) ∈ ts.mapIdx fun i u => (i, u) := by
              rw [List.mem_iff_getElem?]
              exact ⟨j, by rw [List.getElem?_mapIdx, List.getElem?_eq_getElem hj]; rfl⟩
            obtain ⟨u, m, y, hu, hmn, hy2⟩ := trod_flatB 9 hf h4 (j, ts[j]) hm
            obtain ⟨c, hc1, hc2⟩ := ih m (by omega) (hts _ (List.getElem_mem hj)) hy2
            refine ⟨c, fun t' ht' => ?_⟩
            rw [List.getElem?_eq_getElem hj] at ht'
            obtain rfl := Option.some.inj ht'
            exact ⟨hc1, u, (hc3 j hj).trans hu, hc2⟩)
          exact ⟨e', he1, fun j t' c h5 h6 => he2 j c h6 t' h5⟩
      obtain ⟨es, hes1, hes2⟩ := list_of (p := fun i (e' : List Cell) => e'.length = ts.length ∧ ∀ j t' c, ts[j]? = some t' → e'[j]? = some c → HasT P t' c ∧ ∃ u, w.cell? ((A.add (i * ts.length)).add j) = some u ∧ rdC w w.heap.size c u) len hone
      refine ⟨.row len es.flatten, .row ht hf hes1 (fun i e' h => (hes2 i e' h).1) (fun i e' h j t' c h5 h6 => ((hes2 i e' h).2 j t' c h5 h6).1), ?_⟩
      have hall : ∀ c ∈ es, c.length = ts.length := fun c hc => by
        obtain ⟨i, hi⟩ := List.mem_iff_getElem?.1 hc
        exact (hes2 i c hi).1
      unfold rdC
      refine ⟨some A, cap, rfl, hl, hm, (fun e => by cases e), fun h0 => ?_, fun hp => ?_⟩
      · have : es = [] := List.length_eq_zero_iff.mp (hes1.trans h0)
        rw [this]
        rfl
      · obtain ⟨b, off, spot⟩ := A
        have hone0 : ∀ i e' j c, es[i]? = some e' → e'[j]? = some c → ∃ u, w.cell? (((⟨b, off, spot⟩ : Addr).add (i * ts.length)).add j) = some u ∧ rdC w w.heap.size c u := fun i e' j c h5 h6 => by
          have hj : j < ts.length := by rw [← (hes2 i e' h5).1]; exact (List.getElem?_eq_some_iff.1 h6).1
          exact ((hes2 i e' h5).2 j ts[j] c (List.getElem?_eq_getElem hj) h6).2
        have he0 : es[0]? = some es[0] := List.getElem?_eq_getElem (by omega)
        have hl0 := (hes2 0 _ he0).1
        obtain ⟨u0, hu0, _⟩ := hone0 0 es[0] 0 es[0][0] he0 (List.getElem?_eq_getElem (by omega))
        have hspot : spot = none := by simpa [Addr.add] using World.cell?_spot hu0
        subst hspot
        rw [add_plain, add_plain] at hu0
        have hbk : b < w.heap.size := by
          rcases Nat.lt_or_ge b w.heap.size with h | h
          · exact h
          · simp [World.cell?, Array.getElem?_eq_none h] at hu0
        refine ⟨b, off, rfl, hbk, hbk, rdE_of fun k c hk => ?_⟩
        have hlt := (List.getElem?_eq_some_iff.1 hk).1
        rw [flatG_all hall, hes1] at hlt
        have hjs : k / ts.length < es.length := by rw [hes1]; exact Nat.div_lt_of_lt_mul (by rw [Nat.mul_comm]; exact hlt)
        have hr : k % ts.length < ts.length := Nat.mod_lt _ h0
        have h4 := List.getElem?_eq_getElem hjs
        have h5 := flatG_at hall h4 hr
        have hkk : k / ts.length * ts.length + k % ts.length = k := by rw [Nat.mul_comm]; exact Nat.div_add_mod k ts.length
        rw [hkk, hk] at h5
        have h6 := hone0 _ _ _ c h4 h5.symm
        rw [add_plain, add_plain, Nat.add_assoc, hkk] at h6
        exact h6
/-- A struct by value that came in. -/
theorem open_cells {S : TypeId → Prop} (hS : OkT P S) {ts : List TypeId} (hts : ∀ u ∈ ts, S u) {vs : List Value} (h : Leaves (Leaf enc P w base spare held) ts vs) : ∃ cs : List Cell, cs.length = ts.length ∧ (∀ (j : Nat) (t : TypeId) (c : Cell), ts[j]? = some t → cs[j]? = some c → HasT P t c) ∧ rdL w w.heap.size cs vs := by
  induction ts generalizing vs with
  | nil =>
    cases vs with
    | nil => exact ⟨[], rfl, fun j t c h => by simp at h, rfl⟩
    | cons v vs => cases h
  | cons t ts ih =>
    cases vs with
    | nil => cases h
    | cons v vs =>
      obtain ⟨⟨m, y, hy⟩, h2⟩ := h
      obtain ⟨c, hc1, hc2⟩ := open_cell hS m (hts t List.mem_cons_self) hy
      obtain ⟨cs, g1, g2, g3⟩ := ih (fun u hu => hts u (List.mem_cons_of_mem _ hu)) h2
      refine ⟨c :: cs, by simp [g1], fun j t' c' h5 h6 => ?_, v, vs, rfl, hc2, g3⟩
      cases j with
      | zero =>
        obtain rfl : t = t' := by simpa using h5
        obtain rfl : c = c' := by simpa using h6
        exact hc1
      | succ j => exact g2 j t' c' (by simpa using h5) (by simpa using h6)
/-- A slice that came in. -/
theorem open_row {S : TypeId → Prop} (hS : OkT P S) {fuel : Nat} {t : TypeId} {a : Option Addr} {l c : Nat} {d : DataW H × List MemPlace} (ht : S t) (h : DataW.trod enc P w base spare held fuel t (Value.cells (.slice a l c)).toList = some d) : ∃ x, HasT P t x ∧ rdC w w.heap.size x (.slice a l c) :=
  open_cell hS fuel ht (by simpa [Value.cells] using h)
end
end Go.Proofs.Ytmgigjpkpeamjaa
