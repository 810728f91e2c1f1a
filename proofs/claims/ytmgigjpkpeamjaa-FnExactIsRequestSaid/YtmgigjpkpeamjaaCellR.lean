/- Slices of structs without slices inside (XRowC), told as cells and back. No condition; any program. -/
import Derived.Test.YtmgigjpkpeamjaaCell2
import Derived.Test.YtmgigjpkpeamjaaRowC
namespace Go.Proofs.Ytmgigjpkpeamjaa
open Go.ChangeShapes Go.WideShapes Go.ChangeAt Go.RowKit
set_option linter.unusedVariables false

/-- A cell that is no slice, and its fit. -/
def Cell.flatW : Cell → Prop
  | .num x => (Lit.int .i64 x).wf = true
  | .flag _ => True
  | .row _ _ => False
def Cell.lit : Cell → Value
  | .num x => .int .i64 x
  | .flag b => .bool b
  | .row _ _ => .bool false
def Cell.flatB : Cell → Bool
  | .row _ _ => false
  | _ => true
theorem rdC_flat {w : World} {hi : Nat} {c : Cell} {v : Value} (hc : c.flatB = true) (h : rdC w hi c v) : v = c.lit ∧ c.flatW := by
  cases c with
  | num x => exact rdC_num.1 h
  | flag b => exact ⟨rdC_flag.1 h, trivial⟩
  | row n cs => cases hc
theorem flat_rdC {w : World} {hi : Nat} {c : Cell} (hc : c.flatW) : rdC w hi c c.lit := by
  cases c with
  | num x => exact rdC_num.2 ⟨rfl, hc⟩
  | flag b => exact rdC_flag.2 rfl
  | row n cs => cases hc
theorem flat_owC {w : World} {c : Cell} (hc : c.flatW) : owC w c c.lit [] := by
  cases c with
  | num x => exact owC_num.2 ⟨rfl, hc, rfl⟩
  | flag b => exact owC_flag.2 ⟨rfl, rfl⟩
  | row n cs => cases hc
theorem flat_owE {w : World} : ∀ {cs : List Cell}, (∀ c ∈ cs, c.flatW) → owE w cs (cs.map Cell.lit) []
  | [], _ => owE_nil.2 ⟨rfl, rfl⟩
  | c :: cs, h => owE_cons.2 ⟨_, _, [], [], rfl, rfl, flat_owC (h c List.mem_cons_self), flat_owE fun d hd => h d (List.mem_cons_of_mem _ hd)⟩
theorem flat_rdL {w : World} {hi : Nat} : ∀ {cs : List Cell}, (∀ c ∈ cs, c.flatW) → rdL w hi cs (cs.map Cell.lit)
  | [], _ => rfl
  | c :: cs, h => ⟨_, _, rfl, flat_rdC (h c List.mem_cons_self), flat_rdL fun d hd => h d (List.mem_cons_of_mem _ hd)⟩
theorem rdL_flat {w : World} {hi : Nat} : ∀ {cs : List Cell} {vs : List Value}, (∀ c ∈ cs, c.flatB = true) → rdL w hi cs vs → vs = cs.map Cell.lit ∧ ∀ c ∈ cs, c.flatW
  | [], vs, _, h => ⟨h, fun c hc => by cases hc⟩
  | c :: cs, vs, hf, h => by
    obtain ⟨v, vs', rfl, h1, h2⟩ := h
    obtain ⟨rfl, g1⟩ := rdC_flat (hf c List.mem_cons_self) h1
    obtain ⟨rfl, g2⟩ := rdL_flat (fun d hd => hf d (List.mem_cons_of_mem _ hd)) h2
    exact ⟨rfl, fun d hd => by
      rcases List.mem_cons.1 hd with rfl | hd
      · exact g1
      · exact g2 d hd⟩
theorem rd_rowC {w : World} {hi n s : Nat} {v : Value} {cs : List Cell} (hl : cs.length = n * s) (hf : ∀ c ∈ cs, c.flatB = true) (h : rdC w hi (.row n cs) v) : RowC s w hi v n (cs.map Cell.lit) ∧ ∀ c ∈ cs, c.flatW := by
  unfold rdC at h
  obtain ⟨a, c, rfl, h1, h2, h3, h4, h5⟩ := h
  refine ⟨⟨by rw [List.length_map, hl], a, c, rfl, h1, h2, h3, fun hp => ?_⟩, fun x hx => ?_⟩
  · obtain ⟨b, off, rfl, g1, g2, g3⟩ := h5 hp
    refine ⟨b, off, rfl, g1, g2, fun j u hj => ?_⟩
    rw [List.getElem?_map] at hj
    cases hx : cs[j]? with
    | none => rw [hx] at hj; cases hj
    | some x =>
      rw [hx] at hj
      obtain rfl := Option.some.inj hj
      obtain ⟨u, h6, h7⟩ := rdE_at g3 hx
      rw [h6, (rdC_flat (hf x (List.mem_of_getElem? hx)) h7).1]
  · rcases Nat.eq_zero_or_pos n with h0 | hp
    · rw [h4 h0] at hx
      cases hx
    · obtain ⟨b, off, rfl, g1, g2, g3⟩ := h5 hp
      obtain ⟨i, hi, rfl⟩ := List.getElem_of_mem hx
      obtain ⟨u, h6, h7⟩ := rdE_at g3 (List.getElem?_eq_getElem hi)
      exact (rdC_flat (hf _ (List.getElem_mem hi)) h7).2
theorem rowC_rd {w : World} {hi n s : Nat} {v : Value} {cs : List Cell} (hw : ∀ c ∈ cs, c.flatW) (h : RowC s w hi v n (cs.map Cell.lit)) : rdC w hi (.row n cs) v := by
  obtain ⟨hl, a, c, rfl, h1, h2, h3, h4⟩ := h
  rw [List.length_map] at hl
  unfold rdC
  refine ⟨a, c, rfl, h1, h2, h3, fun e => ?_, fun hp => ?_⟩
  · subst e
    rw [Nat.zero_mul] at hl
    exact List.length_eq_zero_iff.mp hl
  · obtain ⟨b, off, rfl, g1, g2, g3⟩ := h4 hp
    refine ⟨b, off, rfl, g1, g2, rdE_of fun j c hj => ?_⟩
    exact ⟨_, g3 j c.lit (by rw [List.getElem?_map, hj]; rfl), flat_rdC (hw c (List.mem_of_getElem? hj))⟩
/-- A slice of the call's own, as cells. -/
theorem own_cells {E : TypeId} {w : World} {lo hi n s : Nat} {v : Value} {cs : List Cell} (hw : ∀ c ∈ cs, c.flatW) (h : OwnC E s w lo hi v n (cs.map Cell.lit)) : ∃ fp, owC w (.row n cs) v fp ∧ fp.Nodup ∧ ∀ k ∈ fp, lo ≤ k ∧ k < hi := by
  have hl := h.row.1
  have hh := h.hi
  rw [List.length_map] at hl
  rcases h.row.2 with ⟨rfl, rfl⟩ | ⟨g, cap, cur, rfl, g1, g2, g3, g4, g5, g6⟩
  · rw [Nat.zero_mul] at hl
    obtain rfl := List.length_eq_zero_iff.mp hl
    refine ⟨[], ?_, List.nodup_nil, fun k hk => by cases hk⟩
    unfold owC
    exact .inl ⟨rfl, rfl, rfl, rfl⟩
  · refine ⟨[g], ?_, by simp, fun k hk => ?_⟩
    · unfold owC
      refine .inr ⟨g, cap, cur, E, [], rfl, g3, g4, g2, rfl, fun e => ?_, ?_⟩
      · subst e
        rw [Nat.zero_mul] at hl
        exact List.length_eq_zero_iff.mp hl
      · rw [hl, g6]
        exact flat_owE hw
    · rw [List.mem_singleton] at hk
      subst hk
      exact ⟨g1, hh k rfl⟩
section
variable {X : Type} {f : X → List Cell} {g : X → List Value} {s : Nat}
theorem flatMap_lit (hg : ∀ x, (f x).map Cell.lit = g x) (xs : List X) : (xs.flatMap f).map Cell.lit = xs.flatMap g := by
  rw [List.map_flatMap]
  exact congrArg (fun h => xs.flatMap h) (funext hg)
theorem flatMap_len (hs : ∀ x, (f x).length = s) : ∀ xs : List X, (xs.flatMap f).length = xs.length * s
  | [] => by simp
  | x :: xs => by
    rw [List.flatMap_cons, List.length_append, hs x, flatMap_len hs xs, List.length_cons, Nat.add_mul]
    omega
/-- A slice that came in, told either way: f an element's cells, g its values, s their number. -/
theorem rows_cells {w : World} {hi : Nat} {v : Value} {wf : X → Prop} (hg : ∀ x, (f x).map Cell.lit = g x) (hs : ∀ x, (f x).length = s) (hb : ∀ x, ∀ c ∈ f x, c.flatB = true) (hw : ∀ x, wf x ↔ ∀ c ∈ f x, c.flatW) (xs : List X) :
    rdC w hi (rowF f xs) v ↔ RowC s w hi v xs.length (xs.flatMap g) ∧ ∀ x ∈ xs, wf x := by
  show rdC w hi (.row xs.length (xs.flatMap f)) v ↔ _
  rw [← flatMap_lit hg]
  constructor
  · intro h
    obtain ⟨h1, h2⟩ := rd_rowC (flatMap_len hs xs) (fun c hc => by obtain ⟨x, _, hx⟩ := List.mem_flatMap.1 hc; exact hb x c hx) h
    exact ⟨h1, fun x hx => (hw x).2 fun c hc => h2 c (List.mem_flatMap.2 ⟨x, hx, hc⟩)⟩
  · rintro ⟨h1, h2⟩
    exact rowC_rd (fun c hc => by obtain ⟨x, hx, hc⟩ := List.mem_flatMap.1 hc; exact (hw x).1 (h2 x hx) c hc) h1
theorem own_rows {E : TypeId} {w : World} {lo hi : Nat} {v : Value} {wf : X → Prop} (hg : ∀ x, (f x).map Cell.lit = g x) (hw : ∀ x, wf x ↔ ∀ c ∈ f x, c.flatW) {xs : List X} (hx : ∀ x ∈ xs, wf x) (h : OwnC E s w lo hi v xs.length (xs.flatMap g)) :
    ∃ fp, owC w (rowF f xs) v fp ∧ fp.Nodup ∧ ∀ k ∈ fp, lo ≤ k ∧ k < hi := by
  show ∃ fp, owC w (.row xs.length (xs.flatMap f)) v fp ∧ _
  rw [← flatMap_lit hg] at h
  exact own_cells (fun c hc => by obtain ⟨x, hx2, hc⟩ := List.mem_flatMap.1 hc; exact (hw x).1 (hx x hx2) c hc) h
end
end Go.Proofs.Ytmgigjpkpeamjaa
