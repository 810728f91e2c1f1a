/- Data of any depth, as cells: numbers, flags, rows of cells. How a value holds them, read and owned; what keeps them; marks. No condition; any program. -/
import Derived.Test.YtmgigjpkpeamjaaGreatRowC
namespace Go.Proofs.YtmgigjpkpeamjaaGreat
open Go.ChangeShapes Go.WideShapes Go.ChangeAt Go.RowKit
set_option linter.unusedVariables false

/-- A cell: a number, a flag, or a slice of n elements, whose cells stand one behind another. -/
inductive Cell where
  | num (x : Int)
  | flag (b : Bool)
  | row (n : Nat) (cs : List Cell)

mutual
/-- v reads as the cell; all that it reaches lies below hi. -/
def rdC (w : World) (hi : Nat) : Cell → Value → Prop
  | .num x, v => v = .int .i64 x ∧ (Lit.int .i64 x).wf = true
  | .flag b, v => v = .bool b
  | .row n cs, v => ∃ a c, v = .slice a n c ∧ n ≤ c ∧ c ≤ maxLen ∧ (a = none → c = 0) ∧ (n = 0 → cs = []) ∧ (0 < n → ∃ b off, a = some ⟨b, off, none⟩ ∧ b < hi ∧ b < w.heap.size ∧ rdE w hi b off cs)
/-- The cells stand one behind another in block b, from off on. -/
def rdE (w : World) (hi b : Nat) : Nat → List Cell → Prop
  | _, [] => True
  | off, c :: cs => (∃ u, w.cell? ⟨b, off, none⟩ = some u ∧ rdC w hi c u) ∧ rdE w hi b (off + 1) cs
end
/-- A struct's values read as its cells. -/
def rdL (w : World) (hi : Nat) : List Cell → List Value → Prop
  | [], vs => vs = []
  | c :: cs, vs => ∃ v vs', vs = v :: vs' ∧ rdC w hi c v ∧ rdL w hi cs vs'
section
variable {w w' : World} {hi hi' : Nat}
theorem rdE_at {b : Nat} : ∀ {cs : List Cell} {off j : Nat} {c : Cell}, rdE w hi b off cs → cs[j]? = some c → ∃ u, w.cell? ⟨b, off + j, none⟩ = some u ∧ rdC w hi c u
  | [], off, j, c, _, hj => by simp at hj
  | d :: cs, off, 0, c, h, hj => by
    obtain rfl : d = c := by simpa using hj
    unfold rdE at h
    exact h.1
  | d :: cs, off, j + 1, c, h, hj => by
    unfold rdE at h
    have := rdE_at h.2 (show cs[j]? = some c by simpa using hj)
    rwa [show off + 1 + j = off + (j + 1) by omega] at this
theorem rdE_of {b : Nat} : ∀ {cs : List Cell} {off : Nat}, (∀ j c, cs[j]? = some c → ∃ u, w.cell? ⟨b, off + j, none⟩ = some u ∧ rdC w hi c u) → rdE w hi b off cs
  | [], off, _ => by unfold rdE; trivial
  | d :: cs, off, h => by
    unfold rdE
    exact ⟨h 0 d rfl, rdE_of fun j c hj => by
      have := h (j + 1) c (by simpa using hj)
      rwa [show off + (j + 1) = off + 1 + j by omega] at this⟩
mutual
theorem rdC.keep (hs : w.heap.size ≤ w'.heap.size) (hb : ∀ k, k < hi → k < w.heap.size → w'.heap[k]? = w.heap[k]?) : ∀ {c : Cell} {v : Value}, rdC w hi c v → rdC w' hi c v
  | .num x, v, h => by unfold rdC at h ⊢; exact h
  | .flag b, v, h => by unfold rdC at h ⊢; exact h
  | .row n cs, v, h => by
    unfold rdC at h ⊢
    obtain ⟨a, c, rfl, h1, h2, h3, h4, h5⟩ := h
    refine ⟨a, c, rfl, h1, h2, h3, h4, fun hp => ?_⟩
    obtain ⟨b, off, rfl, g1, g2, g3⟩ := h5 hp
    exact ⟨b, off, rfl, g1, by omega, rdE.keep hs hb (hb b g1 g2) g3⟩
theorem rdE.keep (hs : w.heap.size ≤ w'.heap.size) (hb : ∀ k, k < hi → k < w.heap.size → w'.heap[k]? = w.heap[k]?) : ∀ {cs : List Cell} {b off : Nat}, w'.heap[b]? = w.heap[b]? → rdE w hi b off cs → rdE w' hi b off cs
  | [], b, off, he, h => by unfold rdE; trivial
  | c :: cs, b, off, he, h => by
    unfold rdE at h ⊢
    obtain ⟨⟨u, h1, h2⟩, h3⟩ := h
    exact ⟨⟨u, (World.cell?_of_block (w := w) he).trans h1, rdC.keep hs hb h2⟩, rdE.keep hs hb he h3⟩
end
mutual
theorem rdC.more (hh : hi ≤ hi') : ∀ {c : Cell} {v : Value}, rdC w hi c v → rdC w hi' c v
  | .num x, v, h => by unfold rdC at h ⊢; exact h
  | .flag b, v, h => by unfold rdC at h ⊢; exact h
  | .row n cs, v, h => by
    unfold rdC at h ⊢
    obtain ⟨a, c, rfl, h1, h2, h3, h4, h5⟩ := h
    refine ⟨a, c, rfl, h1, h2, h3, h4, fun hp => ?_⟩
    obtain ⟨b, off, rfl, g1, g2, g3⟩ := h5 hp
    exact ⟨b, off, rfl, by omega, g2, rdE.more hh g3⟩
theorem rdE.more (hh : hi ≤ hi') : ∀ {cs : List Cell} {b off : Nat}, rdE w hi b off cs → rdE w hi' b off cs
  | [], b, off, h => by unfold rdE; trivial
  | c :: cs, b, off, h => by
    unfold rdE at h ⊢
    obtain ⟨⟨u, h1, h2⟩, h3⟩ := h
    exact ⟨⟨u, h1, rdC.more hh h2⟩, rdE.more hh h3⟩
end
theorem rdC.below {B : Nat} {c : Cell} {v : Value} (h : rdC w hi c v) (hb : Below B w w') (hB : hi ≤ B) : rdC w' hi c v := h.keep hb.size fun k hk _ => hb.block k (by omega)
theorem rdL.keep (hs : w.heap.size ≤ w'.heap.size) (hb : ∀ k, k < hi → k < w.heap.size → w'.heap[k]? = w.heap[k]?) : ∀ {cs : List Cell} {vs : List Value}, rdL w hi cs vs → rdL w' hi cs vs
  | [], vs, h => h
  | c :: cs, vs, h => by
    obtain ⟨v, vs', rfl, h1, h2⟩ := h
    exact ⟨v, vs', rfl, h1.keep hs hb, rdL.keep hs hb h2⟩
theorem rdL.below {B : Nat} {cs : List Cell} {vs : List Value} (h : rdL w hi cs vs) (hb : Below B w w') (hB : hi ≤ B) : rdL w' hi cs vs := h.keep hb.size fun k hk _ => hb.block k (by omega)
theorem rdL.more (hh : hi ≤ hi') : ∀ {cs : List Cell} {vs : List Value}, rdL w hi cs vs → rdL w hi' cs vs
  | [], vs, h => h
  | c :: cs, vs, h => by
    obtain ⟨v, vs', rfl, h1, h2⟩ := h
    exact ⟨v, vs', rfl, h1.more hh, rdL.more hh h2⟩
theorem rdC.one {c : Cell} {v : Value} (h : rdC w hi c v) : v.oneCell' = true := by
  cases c with
  | num x => unfold rdC at h; obtain ⟨rfl, _⟩ := h; rfl
  | flag b => unfold rdC at h; subst h; rfl
  | row n cs => unfold rdC at h; obtain ⟨a, c, rfl, _⟩ := h; rfl
theorem rdL.one : ∀ {cs : List Cell} {vs : List Value}, rdL w hi cs vs → ∀ u ∈ vs, u.oneCell' = true
  | [], vs, h, u, hu => by cases h; cases hu
  | c :: cs, vs, h, u, hu => by
    obtain ⟨v, vs', rfl, h1, h2⟩ := h
    rcases List.mem_cons.1 hu with rfl | hu
    · exact h1.one
    · exact rdL.one h2 u hu
theorem rdL.length : ∀ {cs : List Cell} {vs : List Value}, rdL w hi cs vs → vs.length = cs.length
  | [], vs, h => by cases h; rfl
  | c :: cs, vs, h => by
    obtain ⟨v, vs', rfl, h1, h2⟩ := h
    rw [List.length_cons, List.length_cons, rdL.length h2]
/-- A piece of a row's cells, as a struct's values. -/
theorem rdE.list {b : Nat} : ∀ {e rest : List Cell} {off : Nat}, rdE w hi b off (e ++ rest) → ∃ vs, rdL w hi e vs ∧ ∀ j u, vs[j]? = some u → w.cell? ⟨b, off + j, none⟩ = some u
  | [], rest, off, h => ⟨[], rfl, fun j u hj => by simp at hj⟩
  | c :: e, rest, off, h => by
    rw [List.cons_append] at h
    unfold rdE at h
    obtain ⟨⟨u, h1, h2⟩, h3⟩ := h
    obtain ⟨vs, g1, g2⟩ := rdE.list h3
    refine ⟨u :: vs, ⟨u, vs, rfl, h2, g1⟩, fun j x hj => ?_⟩
    cases j with
    | zero =>
      obtain rfl : u = x := by simpa using hj
      exact h1
    | succ j =>
      have := g2 j x (by simpa using hj)
      rwa [show off + 1 + j = off + (j + 1) by omega] at this
theorem rdE.drop {b : Nat} : ∀ {pre rest : List Cell} {off : Nat}, rdE w hi b off (pre ++ rest) → rdE w hi b (off + pre.length) rest
  | [], rest, off, h => h
  | c :: pre, rest, off, h => by
    rw [List.cons_append] at h
    unfold rdE at h
    have := rdE.drop h.2
    rwa [show off + 1 + pre.length = off + (c :: pre).length by rw [List.length_cons]; omega] at this
end

mutual
/-- v is the call's own and reads as the cell; fp: the blocks that it reaches, in their order. -/
def owC (w : World) : Cell → Value → List Nat → Prop
  | .num x, v, fp => v = .int .i64 x ∧ (Lit.int .i64 x).wf = true ∧ fp = []
  | .flag b, v, fp => v = .bool b ∧ fp = []
  | .row n cs, v, fp => (n = 0 ∧ cs = [] ∧ v = .slice none 0 0 ∧ fp = []) ∨
      ∃ g cap cur E f, v = .slice (some ⟨g, 0, none⟩) n cap ∧ n ≤ cap ∧ cap ≤ maxLen ∧ w.heap[g]? = some (.cells cur E (0, 0)) ∧ fp = g :: f ∧ (n = 0 → cs = []) ∧ owE w cs (cur.toList.take cs.length) f
def owE (w : World) : List Cell → List Value → List Nat → Prop
  | [], us, f => us = [] ∧ f = []
  | c :: cs, us, f => ∃ u us' f1 f2, us = u :: us' ∧ f = f1 ++ f2 ∧ owC w c u f1 ∧ owE w cs us' f2
end
section
variable {w w' : World} {hi hi' : Nat}
mutual
theorem owC.keep : ∀ {c : Cell} {v : Value} {fp : List Nat}, owC w c v fp → (∀ k ∈ fp, w'.heap[k]? = w.heap[k]?) → owC w' c v fp
  | .num x, v, fp, h, hb => by unfold owC at h ⊢; exact h
  | .flag b, v, fp, h, hb => by unfold owC at h ⊢; exact h
  | .row n cs, v, fp, h, hb => by
    unfold owC at h ⊢
    rcases h with h | ⟨g, cap, cur, E, f, rfl, h1, h2, h3, rfl, h4, h5⟩
    · exact .inl h
    · exact .inr ⟨g, cap, cur, E, f, rfl, h1, h2, (hb g List.mem_cons_self).trans h3, rfl, h4, owE.keep h5 fun k hk => hb k (List.mem_cons_of_mem _ hk)⟩
theorem owE.keep : ∀ {cs : List Cell} {us : List Value} {f : List Nat}, owE w cs us f → (∀ k ∈ f, w'.heap[k]? = w.heap[k]?) → owE w' cs us f
  | [], us, f, h, hb => by unfold owE at h ⊢; exact h
  | c :: cs, us, f, h, hb => by
    unfold owE at h ⊢
    obtain ⟨u, us', f1, f2, rfl, rfl, h1, h2⟩ := h
    exact ⟨u, us', f1, f2, rfl, rfl, owC.keep h1 fun k hk => hb k (List.mem_append_left _ hk), owE.keep h2 fun k hk => hb k (List.mem_append_right _ hk)⟩
end
mutual
theorem owC.lt : ∀ {c : Cell} {v : Value} {fp : List Nat}, owC w c v fp → ∀ k ∈ fp, k < w.heap.size
  | .num x, v, fp, h, k, hk => by unfold owC at h; rw [h.2.2] at hk; cases hk
  | .flag b, v, fp, h, k, hk => by unfold owC at h; rw [h.2] at hk; cases hk
  | .row n cs, v, fp, h, k, hk => by
    unfold owC at h
    rcases h with ⟨_, _, _, rfl⟩ | ⟨g, cap, cur, E, f, rfl, h1, h2, h3, rfl, h4, h5⟩
    · cases hk
    · rcases List.mem_cons.1 hk with rfl | hk
      · exact (Array.getElem?_eq_some_iff.1 h3).1
      · exact owE.lt h5 k hk
theorem owE.lt : ∀ {cs : List Cell} {us : List Value} {f : List Nat}, owE w cs us f → ∀ k ∈ f, k < w.heap.size
  | [], us, f, h, k, hk => by unfold owE at h; rw [h.2] at hk; cases hk
  | c :: cs, us, f, h, k, hk => by
    unfold owE at h
    obtain ⟨u, us', f1, f2, rfl, rfl, h1, h2⟩ := h
    rcases List.mem_append.1 hk with hk | hk
    · exact owC.lt h1 k hk
    · exact owE.lt h2 k hk
end
theorem owE.length : ∀ {cs : List Cell} {us : List Value} {f : List Nat}, owE w cs us f → us.length = cs.length
  | [], us, f, h => by unfold owE at h; rw [h.1]; rfl
  | c :: cs, us, f, h => by
    unfold owE at h
    obtain ⟨u, us', f1, f2, rfl, rfl, h1, h2⟩ := h
    rw [List.length_cons, List.length_cons, owE.length h2]
theorem cell_take {cur : Array Value} {E : TypeId} {g m j : Nat} {u : Value} (h : w.heap[g]? = some (.cells cur E (0, 0))) (hu : (cur.toList.take m)[j]? = some u) : w.cell? ⟨g, j, none⟩ = some u := by
  have hj : j < m := by
    have := (List.getElem?_eq_some_iff.1 hu).1
    rw [List.length_take] at this
    omega
  rw [List.getElem?_take_of_lt hj, Array.getElem?_toList] at hu
  simp [World.cell?, h, hu]
mutual
/-- What is owned can be read. -/
theorem owC.read : ∀ {c : Cell} {v : Value} {fp : List Nat}, owC w c v fp → (∀ k ∈ fp, k < hi) → rdC w hi c v
  | .num x, v, fp, h, hh => by unfold owC at h; unfold rdC; exact ⟨h.1, h.2.1⟩
  | .flag b, v, fp, h, hh => by unfold owC at h; unfold rdC; exact h.1
  | .row n cs, v, fp, h, hh => by
    have hl := owC.lt h
    unfold owC at h
    unfold rdC
    rcases h with ⟨rfl, rfl, rfl, rfl⟩ | ⟨g, cap, cur, E, f, rfl, h1, h2, h3, rfl, h4, h5⟩
    · exact ⟨none, 0, rfl, Nat.le_refl _, by decide, fun _ => rfl, fun _ => rfl, fun hp => absurd hp (Nat.lt_irrefl _)⟩
    · refine ⟨_, cap, rfl, h1, h2, (fun e => by cases e), h4, fun hp => ⟨g, 0, rfl, hh g List.mem_cons_self, hl g List.mem_cons_self, ?_⟩⟩
      exact owE.read h5 (fun k hk => hh k (List.mem_cons_of_mem _ hk)) fun j u hj => by
        rw [Nat.zero_add]
        exact cell_take h3 hj
theorem owE.read : ∀ {cs : List Cell} {us : List Value} {f : List Nat} {b off : Nat}, owE w cs us f → (∀ k ∈ f, k < hi) → (∀ j u, us[j]? = some u → w.cell? ⟨b, off + j, none⟩ = some u) → rdE w hi b off cs
  | [], us, f, b, off, h, hh, hc => by unfold rdE; trivial
  | c :: cs, us, f, b, off, h, hh, hc => by
    unfold owE at h
    obtain ⟨u, us', f1, f2, rfl, rfl, h1, h2⟩ := h
    unfold rdE
    exact ⟨⟨u, hc 0 u rfl, owC.read h1 fun k hk => hh k (List.mem_append_left _ hk)⟩, owE.read h2 (fun k hk => hh k (List.mem_append_right _ hk)) fun j x hj => by
      have := hc (j + 1) x (by simpa using hj)
      rwa [show off + (j + 1) = off + 1 + j by omega] at this⟩
end
theorem owE.list : ∀ {cs : List Cell} {us : List Value} {f : List Nat}, owE w cs us f → (∀ k ∈ f, k < hi) → rdL w hi cs us
  | [], us, f, h, hh => by unfold owE at h; exact h.1
  | c :: cs, us, f, h, hh => by
    unfold owE at h
    obtain ⟨u, us', f1, f2, rfl, rfl, h1, h2⟩ := h
    exact ⟨u, us', rfl, h1.read fun k hk => hh k (List.mem_append_left _ hk), owE.list h2 fun k hk => hh k (List.mem_append_right _ hk)⟩
theorem owE.append : ∀ {cs ds : List Cell} {us vs : List Value} {f g : List Nat}, owE w cs us f → owE w ds vs g → owE w (cs ++ ds) (us ++ vs) (f ++ g)
  | [], ds, us, vs, f, g, h, k => by
    unfold owE at h
    obtain ⟨rfl, rfl⟩ := h
    exact k
  | c :: cs, ds, us, vs, f, g, h, k => by
    unfold owE at h
    obtain ⟨u, us', f1, f2, rfl, rfl, h1, h2⟩ := h
    rw [List.cons_append, List.cons_append, List.append_assoc]
    unfold owE
    exact ⟨u, _, f1, _, rfl, rfl, h1, owE.append h2 k⟩
/-- A cell in the midst of a row: what it owns, and what may be put in its place. -/
theorem owE.split : ∀ {pre : List Cell} {c : Cell} {rest : List Cell} {us : List Value} {f : List Nat}, owE w (pre ++ c :: rest) us f → f.Nodup →
    ∃ u f1, us[pre.length]? = some u ∧ owC w c u f1 ∧ f1.Nodup ∧ (∀ k ∈ f1, k ∈ f) ∧
      ∀ (w' : World) (c' : Cell) (u' : Value), owC w' c' u' f1 → (∀ k ∈ f, k ∉ f1 → w'.heap[k]? = w.heap[k]?) → owE w' (pre ++ c' :: rest) (us.set pre.length u') f
  | [], c, rest, us, f, h, nd => by
    rw [List.nil_append] at h
    unfold owE at h
    obtain ⟨u, us', f1, f2, rfl, rfl, h1, h2⟩ := h
    obtain ⟨n1, n2, n3⟩ := List.nodup_append.1 nd
    refine ⟨u, f1, rfl, h1, n1, fun k hk => List.mem_append_left _ hk, fun w' c' u' h3 h4 => ?_⟩
    rw [List.nil_append]
    unfold owE
    exact ⟨u', us', f1, f2, rfl, rfl, h3, h2.keep fun k hk => h4 k (List.mem_append_right _ hk) fun hk1 => n3 k hk1 k hk rfl⟩
  | d :: pre, c, rest, us, f, h, nd => by
    rw [List.cons_append] at h
    unfold owE at h
    obtain ⟨x, us', f1, f2, rfl, rfl, h1, h2⟩ := h
    obtain ⟨n1, n2, n3⟩ := List.nodup_append.1 nd
    obtain ⟨u, f3, g1, g2, g3, g4, g5⟩ := owE.split h2 n2
    refine ⟨u, f3, by simpa using g1, g2, g3, fun k hk => List.mem_append_right _ (g4 k hk), fun w' c' u' h3 h4 => ?_⟩
    rw [List.cons_append]
    unfold owE
    exact ⟨x, us'.set pre.length u', f1, f2, rfl, rfl, h1.keep fun k hk => h4 k (List.mem_append_left _ hk) fun hk1 => n3 k hk k (g4 k hk1) rfl, g5 w' c' u' h3 fun k hk hn => h4 k (List.mem_append_right _ hk) hn⟩
end
/-- Turned in the blocks of a list and in new blocks alone. -/
structure Touch (fp : List Nat) (w w' : World) : Prop where
  os : w'.os = w.os
  tape : w'.tape = w.tape
  output : w'.output = w.output
  size : w.heap.size ≤ w'.heap.size
  block : ∀ k, k < w.heap.size → k ∉ fp → w'.heap[k]? = w.heap[k]?
end Go.Proofs.YtmgigjpkpeamjaaGreat
