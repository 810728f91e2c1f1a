/- Values that reach into memory (structs with slices inside, slices of them): how a value's cells hold a datum, read and owned; what keeps them. No condition; any program. -/
import Derived.Test.YtmmnajlncmnnhabDoorRowC
namespace Go.Proofs.YtmmnajlncmnnhabDoor
open Go.ChangeShapes Go.WideShapes Go.ChangeAt Go.RowKit
set_option linter.unusedVariables false

/-- A kind of data: how many cells it takes; what it is to read it (all that it reaches lies below a number), and to own it (all that it reaches lies in the blocks of a list). -/
structure Rep (X : Type) where
  n : Nat
  read : World → Nat → List Value → X → Prop
  own : World → List Nat → List Value → X → Prop
structure Rep.Fine {X : Type} (R : Rep X) : Prop where
  len : ∀ {w : World} {hi : Nat} {cs : List Value} {x : X}, R.read w hi cs x → cs.length = R.n
  one : ∀ {w : World} {hi : Nat} {cs : List Value} {x : X}, R.read w hi cs x → ∀ u ∈ cs, u.oneCell' = true
  keep : ∀ {w w' : World} {hi : Nat} {cs : List Value} {x : X}, R.read w hi cs x → w.heap.size ≤ w'.heap.size → (∀ k, k < hi → k < w.heap.size → w'.heap[k]? = w.heap[k]?) → R.read w' hi cs x
  more : ∀ {w : World} {hi hi' : Nat} {cs : List Value} {x : X}, R.read w hi cs x → hi ≤ hi' → R.read w hi' cs x
  okeep : ∀ {w w' : World} {fp : List Nat} {cs : List Value} {x : X}, R.own w fp cs x → (∀ k ∈ fp, k < w.heap.size → w'.heap[k]? = w.heap[k]?) → R.own w' fp cs x
  olt : ∀ {w : World} {fp : List Nat} {cs : List Value} {x : X}, R.own w fp cs x → ∀ k ∈ fp, k < w.heap.size
  oread : ∀ {w : World} {fp : List Nat} {hi : Nat} {cs : List Value} {x : X}, R.own w fp cs x → (∀ k ∈ fp, k < hi) → R.read w hi cs x
section
variable {X Y : Type}
theorem Rep.Fine.below {R : Rep X} (F : R.Fine) {w w' : World} {hi B : Nat} {cs : List Value} {x : X} (h : R.read w hi cs x) (hb : Below B w w') (hB : hi ≤ B) : R.read w' hi cs x :=
  F.keep h hb.size fun k hk _ => hb.block k (by omega)
theorem Rep.Fine.obelow {R : Rep X} (F : R.Fine) {w w' : World} {fp : List Nat} {B : Nat} {cs : List Value} {x : X} (h : R.own w fp cs x) (hb : Below B w w') (hB : ∀ k ∈ fp, k < B) : R.own w' fp cs x :=
  F.okeep h fun k hk _ => hb.block k (hB k hk)
/-- Data without memory. -/
def Rep.flat (n : Nat) (f : X → List Value) : Rep X := ⟨n, fun _ _ cs x => cs = f x, fun _ fp cs x => fp = [] ∧ cs = f x⟩
theorem Rep.flat_fine {n : Nat} {f : X → List Value} (hl : ∀ x, (f x).length = n) (h1 : ∀ x, ∀ u ∈ f x, u.oneCell' = true) : (Rep.flat n f).Fine where
  len h := by cases h; exact hl _
  one h := by cases h; exact h1 _
  keep h _ _ := h
  more h _ := h
  okeep h _ := h
  olt h k hk := by rw [h.1] at hk; cases hk
  oread h _ := h.2
/-- Two data side by side. -/
def Rep.prod (R : Rep X) (S : Rep Y) : Rep (X × Y) :=
  ⟨R.n + S.n, fun w hi cs x => ∃ c d, cs = c ++ d ∧ R.read w hi c x.1 ∧ S.read w hi d x.2, fun w fp cs x => ∃ c d f g, cs = c ++ d ∧ fp = f ++ g ∧ R.own w f c x.1 ∧ S.own w g d x.2⟩
theorem Rep.prod_fine {R : Rep X} {S : Rep Y} (F : R.Fine) (G : S.Fine) : (R.prod S).Fine where
  len h := by
    obtain ⟨c, d, rfl, h1, h2⟩ := h
    show (c ++ d).length = R.n + S.n
    rw [List.length_append, F.len h1, G.len h2]
  one h := by
    obtain ⟨c, d, rfl, h1, h2⟩ := h
    intro u hu
    rcases List.mem_append.1 hu with hu | hu
    · exact F.one h1 u hu
    · exact G.one h2 u hu
  keep h hs hb := by
    obtain ⟨c, d, rfl, h1, h2⟩ := h
    exact ⟨c, d, rfl, F.keep h1 hs hb, G.keep h2 hs hb⟩
  more h hh := by
    obtain ⟨c, d, rfl, h1, h2⟩ := h
    exact ⟨c, d, rfl, F.more h1 hh, G.more h2 hh⟩
  okeep h hb := by
    obtain ⟨c, d, f, g, rfl, rfl, h1, h2⟩ := h
    exact ⟨c, d, f, g, rfl, rfl, F.okeep h1 fun k hk => hb k (List.mem_append_left _ hk), G.okeep h2 fun k hk => hb k (List.mem_append_right _ hk)⟩
  olt h := by
    obtain ⟨c, d, f, g, rfl, rfl, h1, h2⟩ := h
    intro k hk
    rcases List.mem_append.1 hk with hk | hk
    · exact F.olt h1 k hk
    · exact G.olt h2 k hk
  oread h hh := by
    obtain ⟨c, d, f, g, rfl, rfl, h1, h2⟩ := h
    exact ⟨c, d, rfl, F.oread h1 fun k hk => hh k (List.mem_append_left _ hk), G.oread h2 fun k hk => hh k (List.mem_append_right _ hk)⟩
/-- The same data by another name. -/
def Rep.as (R : Rep X) (e : Y → X) : Rep Y := ⟨R.n, fun w hi cs y => R.read w hi cs (e y), fun w fp cs y => R.own w fp cs (e y)⟩
theorem Rep.as_fine {R : Rep X} (F : R.Fine) (e : Y → X) : (R.as e).Fine :=
  ⟨fun h => F.len h, fun h => F.one h, fun h => F.keep h, fun h => F.more h, fun h => F.okeep h, fun h => F.olt h, fun h => F.oread h⟩
/-- A slice v that reads as the data xs. -/
def Rep.reads (R : Rep X) (w : World) (hi : Nat) (v : Value) (xs : List X) : Prop :=
  ∃ css : List (List Value), css.length = xs.length ∧ RowC R.n w hi v xs.length css.flatten ∧ ∀ (i : Nat) (c : List Value) (x : X), css[i]? = some c → xs[i]? = some x → R.read w hi c x
/-- A slice v of the call's own that reads as the data xs; all that it reaches lies in the blocks of a list. -/
def Rep.owns (R : Rep X) (E : TypeId) (w : World) (fp : List Nat) (v : Value) (xs : List X) : Prop :=
  ∃ (css : List (List Value)) (fps : List (List Nat)), css.length = xs.length ∧ fps.length = xs.length ∧ fp = v.ownBlock.toList ++ fps.flatten ∧ w.ownsRow 0 E R.n v xs.length css.flatten ∧
    ∀ (i : Nat) (c : List Value) (f : List Nat) (x : X), css[i]? = some c → fps[i]? = some f → xs[i]? = some x → R.own w f c x
theorem flatten_len {α : Type} {n : Nat} : ∀ {css : List (List α)}, (∀ c ∈ css, c.length = n) → css.flatten.length = css.length * n
  | [], _ => by simp
  | c :: css, h => by
    rw [List.flatten_cons, List.length_append, flatten_len (fun d hd => h d (List.mem_cons_of_mem _ hd)), h c (List.mem_cons_self ..), List.length_cons, Nat.add_mul]
    omega
/-- A cell of a part, in the whole. -/
theorem flatten_at {α : Type} {n : Nat} : ∀ {css : List (List α)} {i : Nat} {c : List α}, (∀ c ∈ css, c.length = n) → css[i]? = some c → ∀ {j : Nat}, j < n → css.flatten[i * n + j]? = c[j]?
  | [], i, c, _, hi, _, _ => by simp at hi
  | d :: css, 0, c, h, hi, j, hj => by
    simp only [List.getElem?_cons_zero, Option.some.injEq] at hi
    subst hi
    rw [List.flatten_cons, Nat.zero_mul, Nat.zero_add, List.getElem?_append_left (by rw [h d (List.mem_cons_self ..)]; exact hj)]
  | d :: css, i + 1, c, h, hi, j, hj => by
    simp only [List.getElem?_cons_succ] at hi
    have hd := h d (List.mem_cons_self ..)
    rw [List.flatten_cons, List.getElem?_append_right (by rw [hd, Nat.add_mul]; omega), hd, show (i + 1) * n + j - n = i * n + j by rw [Nat.add_mul]; omega]
    exact flatten_at (fun e he => h e (List.mem_cons_of_mem _ he)) hi hj
theorem Rep.reads.keep {R : Rep X} (F : R.Fine) {w w' : World} {hi : Nat} {v : Value} {xs : List X} (h : R.reads w hi v xs) (hs : w.heap.size ≤ w'.heap.size) (hb : ∀ k, k < hi → k < w.heap.size → w'.heap[k]? = w.heap[k]?) : R.reads w' hi v xs := by
  obtain ⟨css, h1, h2, h3⟩ := h
  exact ⟨css, h1, h2.keep hs hb, fun i c x hc hx => F.keep (h3 i c x hc hx) hs hb⟩
theorem Rep.reads.below {R : Rep X} (F : R.Fine) {w w' : World} {hi B : Nat} {v : Value} {xs : List X} (h : R.reads w hi v xs) (hb : Below B w w') (hB : hi ≤ B) : R.reads w' hi v xs :=
  h.keep F hb.size fun k hk _ => hb.block k (by omega)
theorem Rep.reads.more {R : Rep X} (F : R.Fine) {w : World} {hi hi' : Nat} {v : Value} {xs : List X} (h : R.reads w hi v xs) (hh : hi ≤ hi') : R.reads w hi' v xs := by
  obtain ⟨css, h1, h2, h3⟩ := h
  exact ⟨css, h1, h2.more hh, fun i c x hc hx => F.more (h3 i c x hc hx) hh⟩
theorem mem_block {b : Option Nat} {k : Nat} : k ∈ b.toList ↔ b = some k := by cases b <;> simp [eq_comm]
theorem mem_part {fps : List (List Nat)} {i : Nat} {f : List Nat} {k : Nat} (hf : fps[i]? = some f) (hk : k ∈ f) : k ∈ fps.flatten :=
  List.mem_flatten.2 ⟨f, List.mem_of_getElem? hf, hk⟩
theorem Rep.owns.lt {R : Rep X} (F : R.Fine) {E : TypeId} {w : World} {fp : List Nat} {v : Value} {xs : List X} (h : R.owns E w fp v xs) : ∀ k ∈ fp, k < w.heap.size := by
  obtain ⟨css, fps, h1, h2, rfl, h3, h4⟩ := h
  intro k hk
  rcases List.mem_append.1 hk with hk | hk
  · exact (h3.lt k (mem_block.1 hk)).2
  · obtain ⟨f, hf, hk⟩ := List.mem_flatten.1 hk
    obtain ⟨i, hi, rfl⟩ := List.getElem_of_mem hf
    exact F.olt (h4 i css[i] fps[i] xs[i] (List.getElem?_eq_getElem (by omega)) (List.getElem?_eq_getElem hi) (List.getElem?_eq_getElem (by omega))) k hk
theorem ownsRow_keep {E : TypeId} {s m base : Nat} {w w' : World} {v : Value} {cs : List Value} (h : w.ownsRow base E s v m cs) (hb : ∀ k, v.ownBlock = some k → k < w.heap.size → w'.heap[k]? = w.heap[k]?) : w'.ownsRow base E s v m cs := by
  have hl := h.lt
  refine ⟨h.1, ?_⟩
  rcases h.2 with hn | ⟨g, cap, cur, rfl, g1, g2, rest⟩
  · exact .inl hn
  · exact .inr ⟨g, cap, cur, rfl, g1, (hb g rfl (hl g rfl).2).trans g2, rest⟩
theorem Rep.owns.keep {R : Rep X} (F : R.Fine) {E : TypeId} {w w' : World} {fp : List Nat} {v : Value} {xs : List X} (h : R.owns E w fp v xs) (hb : ∀ k ∈ fp, k < w.heap.size → w'.heap[k]? = w.heap[k]?) : R.owns E w' fp v xs := by
  obtain ⟨css, fps, h1, h2, rfl, h3, h4⟩ := h
  exact ⟨css, fps, h1, h2, rfl, ownsRow_keep h3 fun k hk => hb k (List.mem_append_left _ (mem_block.2 hk)),
    fun i c f x hc hf hx => F.okeep (h4 i c f x hc hf hx) fun k hk => hb k (List.mem_append_right _ (mem_part hf hk))⟩
theorem Rep.owns.below {R : Rep X} (F : R.Fine) {E : TypeId} {w w' : World} {fp : List Nat} {v : Value} {xs : List X} {B : Nat} (h : R.owns E w fp v xs) (hb : Below B w w') (hB : ∀ k ∈ fp, k < B) : R.owns E w' fp v xs :=
  h.keep F fun k hk _ => hb.block k (hB k hk)
theorem Rep.owns.read {R : Rep X} (F : R.Fine) {E : TypeId} {w : World} {fp : List Nat} {hi : Nat} {v : Value} {xs : List X} (h : R.owns E w fp v xs) (hh : ∀ k ∈ fp, k < hi) : R.reads w hi v xs := by
  obtain ⟨css, fps, h1, h2, rfl, h3, h4⟩ := h
  refine ⟨css, h1, OwnC.read (E := E) (lo := 0) ⟨h3, fun k hk => hh k (List.mem_append_left _ (mem_block.2 hk))⟩, fun i c x hc hx => ?_⟩
  have hi' : i < fps.length := by have := (List.getElem?_eq_some_iff.1 hx).1; omega
  exact F.oread (h4 i c fps[i] x hc (List.getElem?_eq_getElem hi') hx) fun k hk => hh k (List.mem_append_right _ (mem_part (List.getElem?_eq_getElem hi') hk))
/-- Slices as data of one cell. -/
def Rep.slice (E : TypeId) (R : Rep X) : Rep (List X) := ⟨1, fun w hi cs xs => ∃ v, cs = [v] ∧ R.reads w hi v xs, fun w fp cs xs => ∃ v, cs = [v] ∧ R.owns E w fp v xs⟩
theorem RowC.one_cell {s hi m : Nat} {w : World} {v : Value} {cs : List Value} (h : RowC s w hi v m cs) : v.oneCell' = true := by
  obtain ⟨_, a, c, rfl, _⟩ := h
  rfl
theorem Rep.slice_fine {R : Rep X} (F : R.Fine) (E : TypeId) : (Rep.slice E R).Fine where
  len h := by
    obtain ⟨v, rfl, _⟩ := h
    rfl
  one h := by
    obtain ⟨v, rfl, _, _, h2, _⟩ := h
    intro u hu
    rw [List.mem_singleton.1 hu]
    exact h2.one_cell
  keep h hs hb := by
    obtain ⟨v, rfl, h⟩ := h
    exact ⟨v, rfl, h.keep F hs hb⟩
  more h hh := by
    obtain ⟨v, rfl, h⟩ := h
    exact ⟨v, rfl, h.more F hh⟩
  okeep h hb := by
    obtain ⟨v, rfl, h⟩ := h
    exact ⟨v, rfl, h.keep F hb⟩
  olt h := by
    obtain ⟨v, rfl, h⟩ := h
    exact h.lt F
  oread h hh := by
    obtain ⟨v, rfl, h⟩ := h
    exact ⟨v, rfl, h.read F hh⟩
/-- One element of a slice that is read: its cells, as long as what is below a number above its block is kept; and what it reads as. -/
theorem Rep.reads.at {R : Rep X} (F : R.Fine) {w : World} {hi c k : Nat} {a : Option Addr} {xs : List X} {x : X} (h : R.reads w hi (.slice a xs.length c) xs) (hx : xs[k]? = some x) :
    ∃ cs b off, R.read w hi cs x ∧ a = some ⟨b, off, none⟩ ∧ b < hi ∧ b < w.heap.size ∧ ∀ (j : Nat) (u : Value), cs[j]? = some u → ∀ (B : Nat) (w' : World), b < B → Below B w w' → w'.cell? ⟨b, off + k * R.n + j, none⟩ = some u := by
  obtain ⟨css, h1, h2, h3⟩ := h
  have hk : k < xs.length := (List.getElem?_eq_some_iff.1 hx).1
  have hck : css[k]? = some css[k] := List.getElem?_eq_getElem (by omega)
  have hall : ∀ c ∈ css, c.length = R.n := by
    intro c hc
    obtain ⟨i, hi, rfl⟩ := List.getElem_of_mem hc
    exact F.len (h3 i css[i] xs[i] (List.getElem?_eq_getElem hi) (List.getElem?_eq_getElem (by omega)))
  obtain ⟨_, a', c', e, _, _, _, h5⟩ := h2
  injection e with e1 e2 e3
  subst e1
  obtain ⟨b, off, rfl, g1, g2, g3⟩ := h5 (by omega)
  refine ⟨css[k], b, off, h3 k _ x hck hx, rfl, g1, g2, fun j u hu B w' hB hb => (hb.cell (p := ⟨b, _, none⟩) hB).trans ?_⟩
  have hj : j < R.n := by
    rw [← hall _ (List.getElem_mem (show k < css.length by omega))]
    exact (List.getElem?_eq_some_iff.1 hu).1
  have := g3 (k * R.n + j) u ((flatten_at hall hck hj).trans hu)
  rwa [← Nat.add_assoc] at this
end
/-- A slice of integers of the call's own, by the list of its blocks. -/
def ownsI (E : TypeId) (w : World) (fp : List Nat) (v : Value) (xs : List Int) : Prop := fp = v.ownBlock.toList ∧ w.ownsRow 0 E 1 v xs.length (xs.map (Value.int .i64)) ∧ ∀ x ∈ xs, (Lit.int .i64 x).wf = true
section
variable {E : TypeId} {w w' : World} {fp : List Nat} {v : Value} {xs : List Int}
theorem ownsI.keep (h : ownsI E w fp v xs) (hb : ∀ k ∈ fp, k < w.heap.size → w'.heap[k]? = w.heap[k]?) : ownsI E w' fp v xs :=
  ⟨h.1, ownsRow_keep h.2.1 fun k hk => hb k (by rw [h.1]; exact mem_block.2 hk), h.2.2⟩
theorem ownsI.lt (h : ownsI E w fp v xs) : ∀ k ∈ fp, k < w.heap.size := fun k hk => by
  rw [h.1] at hk
  exact (h.2.1.lt k (mem_block.1 hk)).2
theorem ownsI.own {lo hi : Nat} (h : ownsI E w fp v xs) (hh : ∀ k ∈ fp, lo ≤ k ∧ k < hi) : Own E .i64 w lo hi v xs := by
  obtain ⟨rfl, h2, h3⟩ := h
  refine ⟨⟨h2.1, ?_⟩, fun k hk => (hh k (mem_block.2 hk)).2, h3⟩
  rcases h2.2 with hn | ⟨g, cap, cur, rfl, g1, rest⟩
  · exact .inl hn
  · exact .inr ⟨g, cap, cur, rfl, (hh g (mem_block.2 rfl)).1, rest⟩
theorem ownsI.read {hi : Nat} (h : ownsI E w fp v xs) (hh : ∀ k ∈ fp, k < hi) : Row .i64 w hi v xs := (h.own (lo := 0) fun k hk => ⟨Nat.zero_le _, hh k hk⟩).read
theorem Own.ownsI {lo hi : Nat} (h : Own E .i64 w lo hi v xs) : ownsI E w v.ownBlock.toList v xs ∧ ∀ k ∈ v.ownBlock.toList, lo ≤ k ∧ k < hi ∧ k < w.heap.size :=
  ⟨⟨rfl, (Own.wide h (Nat.zero_le lo) (Nat.le_refl hi)).row, h.wf⟩, fun k hk => h.lt k (mem_block.1 hk)⟩
end
end Go.Proofs.YtmmnajlncmnnhabDoor
