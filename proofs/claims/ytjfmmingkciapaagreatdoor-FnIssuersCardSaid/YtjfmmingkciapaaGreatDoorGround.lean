/- Some texts in one: Shared, Abs, Blk, Row, RowC, Flat, Deep. -/
import Derived.Test.YtjfmmingkciapaaGreatDoorRows
import Derived.WalkKit
import Derived.ProofKit
import Derived.OpenShut
import Derived.ShutString
import Derived.ChangeOld
import Derived.Below
import Derived.Laws.OwnMore
import Derived.OwnWalk
import Derived.Laws.AppendOwnNone
import Derived.Deep.Draws
import Derived.Lib.Hide
import Derived.Deep.Slices
import Derived.ChangeSame
/- What a walk is told of a slice of integers that came in, and how a reading tells it. -/
namespace Go.Proofs.YtjfmmingkciapaaGreatDoor
open Go.ChangeShapes Go.WideShapes Go.ChangeAt Go.RowKit

theorem ret_i {k : IntKind} {a b : Int} (h : a = b) : Ending.returned (.int k a) = .returned (.int k b) := by rw [h]
theorem ret_b {a b : Bool} (h : a = b) : Ending.returned (.bool a) = .returned (.bool b) := by rw [h]
theorem wf_u8 {x : Int} (h0 : 0 ≤ x) (h1 : x ≤ 255) : (Lit.int .u8 x).wf = true := by
  have e1 : IntKind.u8.min = 0 := rfl
  have e2 : IntKind.u8.max = 255 := rfl
  simp [Lit.wf, e1, e2]
  omega
theorem wf_i64 {x : Int} (h0 : -9223372036854775808 ≤ x) (h1 : x ≤ 9223372036854775807) : (Lit.int .i64 x).wf = true := by
  have e1 : IntKind.i64.min = -9223372036854775808 := rfl
  have e2 : IntKind.i64.max = 9223372036854775807 := rfl
  simp [Lit.wf, e1, e2]
  omega
/-- A slice of integers that came in: nil; or a row of 'cap' cells, the numbers 'zs' (the first 'len' are its elements, the rest its spare room), each fitting its kind. -/
def IsRow (k : IntKind) (w : World) (a : Option Addr) (len cap : Nat) (zs : List Int) : Prop :=
  (a = none ∧ len = 0 ∧ cap = 0 ∧ zs = []) ∨
  ∃ x, a = some x ∧ len ≤ cap ∧ cap ≤ maxLen ∧ zs.length = cap ∧ (∀ i, i < zs.length → w.cell? (x.add i) = some (.int k (zs.getD i 0))) ∧ ∀ n ∈ zs, (Lit.int k n).wf = true
theorem isRow_of {H : Type} {enc : TypeId × Value → H} {P : Program} {w : World} {base : Nat} {fuel : Nat} {t e : TypeId} {k : IntKind} {a : Option Addr} {l c : Nat} {x : DataW H × List MemPlace}
    (ht : P.underlying t = some (.slice e)) (he : P.underlying e = some (.int k)) (hc : P.cellsOf e = 1) (hf : DataW.trod enc P w base (fun _ => true) true fuel t (Value.cells (.slice a l c)).toList = some x) : ∃ zs, IsRow k w a l c zs := by
  rcases open_ints ht he hc hf with ⟨hcs, _⟩ | ⟨x, l, c, zs, hcs, _, hl, hm, hz, _, hcell, hwz⟩
  · simp [Value.cells] at hcs
    obtain ⟨rfl, rfl, rfl⟩ := hcs
    exact ⟨[], .inl ⟨rfl, rfl, rfl, rfl⟩⟩
  · simp [Value.cells] at hcs
    obtain ⟨rfl, rfl, rfl⟩ := hcs
    exact ⟨zs, .inr ⟨_, rfl, hl, hm, by simpa using hz, hcell, hwz⟩⟩
theorem IsRow.lt {w : World} {k : IntKind} {a : Option Addr} {len cap : Nat} {z : List Int} (h : IsRow k w a len cap z) (x : Addr) (hx : a = some x) (hp : 0 < cap) : x.block < w.heap.size := by
  rcases h with ⟨rfl, _⟩ | ⟨y, rfl, _, _, h3, h4, _⟩
  · cases hx
  · injection hx with hx
    subst hx
    have h0 := h4 0 (by omega)
    have hb : (y.add 0).block = y.block := by unfold Addr.add; split <;> rfl
    rw [← hb]
    rcases Nat.lt_or_ge (y.add 0).block w.heap.size with h' | h'
    · exact h'
    · unfold World.cell? at h0
      rw [Array.getElem?_eq_none h'] at h0
      simp at h0
/-- What was there when a walk began stays a row. -/
theorem IsRow.below {w w' : World} {k : IntKind} {a : Option Addr} {len cap : Nat} {z : List Int} (h : IsRow k w a len cap z) (hb : Below w.heap.size w w') : IsRow k w' a len cap z := by
  have hl := h.lt
  rcases h with h | ⟨x, rfl, h1, h2, h3, h4, h5⟩
  · exact .inl h
  · refine .inr ⟨x, rfl, h1, h2, h3, fun i hi => ?_, h5⟩
    have hx : (x.add i).block = x.block := by unfold Addr.add; split <;> rfl
    rw [hb.cell (by rw [hx]; exact hl x rfl (by omega))]
    exact h4 i hi
end Go.Proofs.YtjfmmingkciapaaGreatDoor
/- Contracts that end in 'e = .. and Below', as a law's walk takes them: the frame is carried from the law's own start. No condition. -/
namespace Go.Proofs.YtjfmmingkciapaaGreatDoor
open Go.RowKit
set_option linter.unusedVariables false

/-- A call that turns nothing below a number leaves what held below it. -/
theorem absorb {P : Program} {f : FuncId} {args : Array Value} {w W : World} {r : Ending} (h : Calls P f args W fun e w' => e = r ∧ Below W.heap.size W w') (hb : Below w.heap.size w W) : Calls P f args W fun e w' => e = r ∧ Below w.heap.size w w' :=
  h.mono fun e w' he => ⟨he.1, hb.trans (he.2.mono hb.size)⟩
theorem bBelow {B : Nat} {w w' : World} (h : w = w') : Below B w w' := by rw [h]; exact Below.refl _ _
theorem as_bool {P : Program} {f : FuncId} {args : Array Value} {w W : World} {b c : Bool} (h : Calls P f args W fun e w' => e = .returned (.bool b) ∧ Below W.heap.size W w') (hb : Below w.heap.size w W) (e : b = c) : Calls P f args W fun e w' => e = .returned (.bool c) ∧ Below w.heap.size w w' := by
  subst e
  exact absorb h hb
theorem as_int {P : Program} {f : FuncId} {args : Array Value} {w W : World} {b c : Int} (h : Calls P f args W fun e w' => e = .returned (.int .i64 b) ∧ Below W.heap.size W w') (hb : Below w.heap.size w W) (e : b = c) : Calls P f args W fun e w' => e = .returned (.int .i64 c) ∧ Below w.heap.size w w' := by
  subst e
  exact absorb h hb
theorem as_str {P : Program} {f : FuncId} {args : Array Value} {w W : World} {b c : ByteArray} (h : Calls P f args W fun e w' => e = .returned (.string b) ∧ Below W.heap.size W w') (hb : Below w.heap.size w W) (e : b = c) : Calls P f args W fun e w' => e = .returned (.string c) ∧ Below w.heap.size w w' := by
  subst e
  exact absorb h hb
theorem as_val {P : Program} {f : FuncId} {args : Array Value} {w W : World} {b c : Value} (h : Calls P f args W fun e w' => e = .returned b ∧ Below W.heap.size W w') (hb : Below w.heap.size w W) (e : b = c) : Calls P f args W fun e w' => e = .returned c ∧ Below w.heap.size w w' := by
  subst e
  exact absorb h hb
end Go.Proofs.YtjfmmingkciapaaGreatDoor
/- Blocks: one just made, one that is kept, its cells. No condition; any program. -/
namespace Go.Proofs.YtjfmmingkciapaaGreatDoor
open Go.ChangeShapes Go.WideShapes Go.ChangeAt Go.RowKit
theorem blk_new (w : World) (T : TypeId) (cs : Array Value) : (w.alloc (.cells cs T)).heap[w.heap.size]? = some (.cells cs T) := by show (w.heap.push _)[w.heap.size]? = _; simp
theorem blk_keep {C f : Nat} {w w' : World} {o : Obj} (h : w.heap[f]? = some o) (hb : Below C w w') (hf : f < C) : w'.heap[f]? = some o := (hb.block f hf).trans h
theorem blk_cell {f : Nat} {w : World} {cs : Array Value} {T : TypeId} (h : w.heap[f]? = some (.cells cs T)) (i : Nat) {v : Value} (hv : cs[i]? = some v) : w.cell? ⟨f, i, none⟩ = some v := by
  simp [World.cell?, h, hv]
theorem blk_frozen {f : Nat} {w : World} {cs : Array Value} {T : TypeId} (h : w.heap[f]? = some (.cells cs T)) (i : Nat) : w.frozen? ⟨f, i, none⟩ = false := by
  simp [World.frozen?, h]
theorem blk_new_at {w : World} {n : Nat} (T : TypeId) (cs : Array Value) (h : w.heap.size = n) : (w.alloc (.cells cs T)).heap[n]? = some (.cells cs T) := by
  subst h
  exact blk_new w T cs
/-- A block made in a statement whose order is open, the world named anew. -/
theorem blk_new_of {w V : World} {T : TypeId} {cs : Array Value} (h : w.alloc (.cells cs T) = V) : V.heap[w.heap.size]? = some (.cells cs T) ∧ w.heap.size < V.heap.size := by
  subst h
  exact ⟨blk_new w T cs, by simp⟩
theorem next_of {W0 w V : World} {o : Obj} (h : w.alloc o = V) (hb : Below W0.heap.size W0 w) : Below W0.heap.size W0 V ∧ W0.heap.size ≤ w.heap.size := by
  subst h
  exact ⟨hb.alloc hb.size o, hb.size⟩
theorem keepG {V U : World} {g : Nat} {o : Obj} (hG : V.heap[g]? = some o ∧ g < V.heap.size) (e : Below V.heap.size V U) : U.heap[g]? = some o := blk_keep hG.1 e hG.2
theorem blk_set {f i : Nat} {w : World} {cs : Array Value} {T : TypeId} (h : w.heap[f]? = some (.cells cs T)) (u : Value) : (w.setCell ⟨f, i, none⟩ u).heap[f]? = some (.cells (cs.setIfInBounds i u) T) := by
  simp [World.setCell, Array.getElem?_modify, h]
theorem cells7 {w : World} {f : Nat} {T : TypeId} {z0 z1 z2 z3 z4 z5 z6 : Value} (h : w.heap[f]? = some (.cells #[z0, z1, z2, z3, z4, z5, z6] T)) :
    (w.cell? ⟨f, 0, none⟩ = some z0 ∧ w.cell? ⟨f, 1, none⟩ = some z1 ∧ w.cell? ⟨f, 2, none⟩ = some z2 ∧ w.cell? ⟨f, 3, none⟩ = some z3 ∧ w.cell? ⟨f, 4, none⟩ = some z4 ∧ w.cell? ⟨f, 5, none⟩ = some z5 ∧ w.cell? ⟨f, 6, none⟩ = some z6) ∧
    (w.frozen? ⟨f, 0, none⟩ = false ∧ w.frozen? ⟨f, 1, none⟩ = false ∧ w.frozen? ⟨f, 2, none⟩ = false ∧ w.frozen? ⟨f, 3, none⟩ = false ∧ w.frozen? ⟨f, 4, none⟩ = false ∧ w.frozen? ⟨f, 5, none⟩ = false ∧ w.frozen? ⟨f, 6, none⟩ = false) :=
  ⟨⟨blk_cell h 0 rfl, blk_cell h 1 rfl, blk_cell h 2 rfl, blk_cell h 3 rfl, blk_cell h 4 rfl, blk_cell h 5 rfl, blk_cell h 6 rfl⟩, ⟨blk_frozen h 0, blk_frozen h 1, blk_frozen h 2, blk_frozen h 3, blk_frozen h 4, blk_frozen h 5, blk_frozen h 6⟩⟩
/-- A struct of seven cells stored into a block of the call's own. -/
theorem store7 {W0 w : World} {f : Nat} {T : TypeId} {z0 z1 z2 z3 z4 z5 z6 : Value} (h : w.heap[f]? = some (.cells #[z0, z1, z2, z3, z4, z5, z6] T)) (hb : Below W0.heap.size W0 w) (hf : W0.heap.size ≤ f) (r0 r1 r2 r3 r4 r5 r6 : Value) :
    (((((((w.setCell ⟨f, 0, none⟩ r0).setCell ⟨f, 1, none⟩ r1).setCell ⟨f, 2, none⟩ r2).setCell ⟨f, 3, none⟩ r3).setCell ⟨f, 4, none⟩ r4).setCell ⟨f, 5, none⟩ r5).setCell ⟨f, 6, none⟩ r6).heap[f]? = some (.cells #[r0, r1, r2, r3, r4, r5, r6] T) ∧
    Below W0.heap.size W0 (((((((w.setCell ⟨f, 0, none⟩ r0).setCell ⟨f, 1, none⟩ r1).setCell ⟨f, 2, none⟩ r2).setCell ⟨f, 3, none⟩ r3).setCell ⟨f, 4, none⟩ r4).setCell ⟨f, 5, none⟩ r5).setCell ⟨f, 6, none⟩ r6) := by
  have h0 : (w.setCell ⟨f, 0, none⟩ r0).heap[f]? = some (.cells #[r0, z1, z2, z3, z4, z5, z6] T) := blk_set h r0
  have h1 : ((w.setCell ⟨f, 0, none⟩ r0).setCell ⟨f, 1, none⟩ r1).heap[f]? = some (.cells #[r0, r1, z2, z3, z4, z5, z6] T) := blk_set h0 r1
  have h2 : (((w.setCell ⟨f, 0, none⟩ r0).setCell ⟨f, 1, none⟩ r1).setCell ⟨f, 2, none⟩ r2).heap[f]? = some (.cells #[r0, r1, r2, z3, z4, z5, z6] T) := blk_set h1 r2
  have h3 : ((((w.setCell ⟨f, 0, none⟩ r0).setCell ⟨f, 1, none⟩ r1).setCell ⟨f, 2, none⟩ r2).setCell ⟨f, 3, none⟩ r3).heap[f]? = some (.cells #[r0, r1, r2, r3, z4, z5, z6] T) := blk_set h2 r3
  have h4 : (((((w.setCell ⟨f, 0, none⟩ r0).setCell ⟨f, 1, none⟩ r1).setCell ⟨f, 2, none⟩ r2).setCell ⟨f, 3, none⟩ r3).setCell ⟨f, 4, none⟩ r4).heap[f]? = some (.cells #[r0, r1, r2, r3, r4, z5, z6] T) := blk_set h3 r4
  have h5 : ((((((w.setCell ⟨f, 0, none⟩ r0).setCell ⟨f, 1, none⟩ r1).setCell ⟨f, 2, none⟩ r2).setCell ⟨f, 3, none⟩ r3).setCell ⟨f, 4, none⟩ r4).setCell ⟨f, 5, none⟩ r5).heap[f]? = some (.cells #[r0, r1, r2, r3, r4, r5, z6] T) := blk_set h4 r5
  have h6 : (((((((w.setCell ⟨f, 0, none⟩ r0).setCell ⟨f, 1, none⟩ r1).setCell ⟨f, 2, none⟩ r2).setCell ⟨f, 3, none⟩ r3).setCell ⟨f, 4, none⟩ r4).setCell ⟨f, 5, none⟩ r5).setCell ⟨f, 6, none⟩ r6).heap[f]? = some (.cells #[r0, r1, r2, r3, r4, r5, r6] T) := blk_set h5 r6
  exact ⟨h6, ((((((hb.setCell (p := ⟨f, 0, none⟩) hf r0).setCell (p := ⟨f, 1, none⟩) hf r1).setCell (p := ⟨f, 2, none⟩) hf r2).setCell (p := ⟨f, 3, none⟩) hf r3).setCell (p := ⟨f, 4, none⟩) hf r4).setCell (p := ⟨f, 5, none⟩) hf r5).setCell (p := ⟨f, 6, none⟩) hf r6⟩
theorem size_alloc (w : World) (o : Obj) : (w.alloc o).heap.size = w.heap.size + 1 := by simp
theorem blk_lt {w : World} {f : Nat} {o : Obj} (h : w.heap[f]? = some o) : f < w.heap.size := by
  rcases Nat.lt_or_ge f w.heap.size with hl | hg
  · exact hl
  · rw [Array.getElem?_eq_none hg] at h
    cases h
end Go.Proofs.YtjfmmingkciapaaGreatDoor
/- Slices of integers: one that is read, and one that a call has made for itself; what keeps them. No condition. -/
namespace Go.Proofs.YtjfmmingkciapaaGreatDoor
open Go.ChangeShapes Go.WideShapes Go.ChangeAt Go.RowKit
set_option linter.unusedVariables false

/-- The slice v reads as xs; where it has elements they lie in one block below 'hi'. -/
structure Row (K : IntKind) (w : World) (hi : Nat) (v : Value) (xs : List Int) : Prop where
  form : ∃ a c, v = .slice a xs.length c ∧ xs.length ≤ c ∧ c ≤ maxLen ∧ (a = none → c = 0) ∧
    (0 < xs.length → ∃ b off, a = some ⟨b, off, none⟩ ∧ b < hi ∧ b < w.heap.size ∧ ∀ i, i < xs.length → w.cell? ⟨b, off + i, none⟩ = some (.int K (xs.getD i 0)))
  wf : ∀ x ∈ xs, (Lit.int K x).wf = true
/-- The slice v is the call's own: it reads as xs, its block lies from 'lo' on and below 'hi', and it may be written. -/
structure Own (E : TypeId) (K : IntKind) (w : World) (lo hi : Nat) (v : Value) (xs : List Int) : Prop where
  row : w.ownsRow lo E 1 v xs.length (xs.map (Value.int K))
  hi : ∀ k, v.ownBlock = some k → k < hi
  wf : ∀ x ∈ xs, (Lit.int K x).wf = true

section
variable {K : IntKind} {E : TypeId} {w w' : World} {lo hi : Nat} {v : Value} {xs : List Int}
theorem Row.keep (h : Row K w hi v xs) (hs : w.heap.size ≤ w'.heap.size) (hb : ∀ k, k < hi → k < w.heap.size → w'.heap[k]? = w.heap[k]?) : Row K w' hi v xs := by
  obtain ⟨⟨a, c, rfl, h1, h2, h0, h3⟩, h4⟩ := h
  refine ⟨⟨a, c, rfl, h1, h2, h0, fun hp => ?_⟩, h4⟩
  obtain ⟨b, off, rfl, g1, g2, g3⟩ := h3 hp
  exact ⟨b, off, rfl, g1, by omega, fun i hi => (World.cell?_of_block (w := w) (hb b g1 g2)).trans (g3 i hi)⟩
theorem Row.below {B : Nat} (h : Row K w hi v xs) (hb : Below B w w') (hB : hi ≤ B) : Row K w' hi v xs :=
  h.keep hb.size fun k hk _ => hb.block k (by omega)
theorem Row.more {hi' : Nat} (h : Row K w hi v xs) (hB : hi ≤ hi') : Row K w hi' v xs := by
  obtain ⟨⟨a, c, rfl, h1, h2, h0, h3⟩, h4⟩ := h
  refine ⟨⟨a, c, rfl, h1, h2, h0, fun hp => ?_⟩, h4⟩
  obtain ⟨b, off, rfl, g1, g2, g3⟩ := h3 hp
  exact ⟨b, off, rfl, by omega, g2, g3⟩
theorem Own.lt (h : Own E K w lo hi v xs) : ∀ k, v.ownBlock = some k → lo ≤ k ∧ k < hi ∧ k < w.heap.size := fun k hk => ⟨(h.row.lt k hk).1, h.hi k hk, (h.row.lt k hk).2⟩
theorem Own.keep (h : Own E K w lo hi v xs) (hb : ∀ k, lo ≤ k → k < hi → k < w.heap.size → w'.heap[k]? = w.heap[k]?) : Own E K w' lo hi v xs := by
  have hl := h.lt
  refine ⟨⟨h.row.1, ?_⟩, h.hi, h.wf⟩
  rcases h.row.2 with hn | ⟨g, cap, cur, rfl, g1, g2, rest⟩
  · exact .inl hn
  · obtain ⟨l1, l2, l3⟩ := hl g rfl
    exact .inr ⟨g, cap, cur, rfl, g1, (hb g l1 l2 l3).trans g2, rest⟩
theorem Own.below {B : Nat} (h : Own E K w lo hi v xs) (hb : Below B w w') (hB : hi ≤ B) : Own E K w' lo hi v xs :=
  h.keep fun k _ hk _ => hb.block k (by omega)
theorem Own.wide {lo' hi' : Nat} (h : Own E K w lo hi v xs) (h1 : lo' ≤ lo) (h2 : hi ≤ hi') : Own E K w lo' hi' v xs := by
  refine ⟨⟨h.row.1, ?_⟩, fun k hk => Nat.lt_of_lt_of_le (h.hi k hk) h2, h.wf⟩
  rcases h.row.2 with hn | ⟨g, cap, cur, rfl, g1, g2, rest⟩
  · exact .inl hn
  · exact .inr ⟨g, cap, cur, rfl, by omega, g2, rest⟩
/-- What is owned can be read. -/
theorem Own.read (h : Own E K w lo hi v xs) : Row K w hi v xs := by
  have hl := h.lt
  have hr := h.row
  rcases hr.2 with ⟨rfl, hn⟩ | ⟨g, cap, cur, rfl, g1, g2, g3, g4, g5, g6⟩
  · exact ⟨⟨none, 0, by rw [hn], by omega, by decide, fun _ => rfl, fun hp => by omega⟩, h.wf⟩
  · obtain ⟨l1, l2, l3⟩ := hl g rfl
    refine ⟨⟨_, cap, rfl, g3, g4, (fun e => by cases e), fun hp => ⟨g, 0, rfl, l2, l3, fun i hi => ?_⟩⟩, h.wf⟩
    have := hr.cellAt i (by omega)
    rw [Nat.zero_add, this, List.getElem?_map, List.getElem?_eq_getElem hi]
    simp [List.getD, hi]
/-- The world is as it was, but for the block of v. -/
def Wrote (w w' : World) (v : Value) : Prop := w.grownBy w' v.ownBlock ∧ w'.heap.size = w.heap.size
theorem Row.wrote {u : Value} {ys : List Int} {l h' : Nat} (h : Row K w hi v xs) (ho : Own E K w l h' u ys) (hw : Wrote w w' u) (hd : hi ≤ l) : Row K w' hi v xs :=
  h.keep hw.1.size fun k hk hs => hw.1.block k hs fun e => by have := (ho.lt k e.symm).1; omega
theorem Own.wrote {E' : TypeId} {K' : IntKind} {u : Value} {ys : List Int} {l h' : Nat} (h : Own E K w lo hi v xs) (ho : Own E' K' w l h' u ys) (hw : Wrote w w' u) (hd : hi ≤ l ∨ h' ≤ lo) : Own E K w' lo hi v xs :=
  h.keep fun k h1 h2 hs => hw.1.block k hs fun e => by obtain ⟨q1, q2, _⟩ := ho.lt k e.symm; omega
theorem Wrote.below {u : Value} {ys : List Int} {l h' B : Nat} (hw : Wrote w w' u) (ho : Own E K w l h' u ys) (hB : B ≤ l) (hs : B ≤ w.heap.size) : Below B w w' :=
  ⟨hw.1.os, hw.1.tape, hw.1.output, hw.1.size, fun k hk => hw.1.block k (by omega) fun e => by have := (ho.lt k e.symm).1; omega⟩
end
/-- A slice that came in reads as its first elements. -/
theorem IsRow.row {K : IntKind} {w : World} {a : Option Addr} {len cap : Nat} {z : List Int} (h : IsRow K w a len cap z) : Row K w w.heap.size (.slice a len cap) (z.take len) ∧ (z.take len).length = len := by
  have hl := h.lt
  rcases h with ⟨rfl, rfl, rfl, rfl⟩ | ⟨x, rfl, h1, h2, h3, h4, h5⟩
  · exact ⟨⟨⟨none, 0, rfl, Nat.le_refl _, by decide, (fun _ => rfl), fun hp => by simp at hp⟩, fun x hx => by simp at hx⟩, rfl⟩
  · have hlen : (z.take len).length = len := by rw [List.length_take]; omega
    refine ⟨⟨⟨some x, cap, by rw [hlen], by omega, h2, (fun e => by cases e), fun hp => ?_⟩, fun x hx => h5 x (List.mem_of_mem_take hx)⟩, hlen⟩
    obtain ⟨b, off, rfl, h6⟩ := ints_at h4 (by omega)
    refine ⟨b, off, rfl, hl _ rfl (by omega), hl _ rfl (by omega), fun i hi => ?_⟩
    rw [h6 i (by omega)]
    simp [List.getD, show i < len by omega]
/-- A list of which the first k places are filled. -/
def half (xs : List Value) (z : Value) (k : Nat) : List Value := xs.take k ++ List.replicate (xs.length - k) z
theorem half_zero (xs : List Value) (z : Value) : half xs z 0 = List.replicate xs.length z := by simp [half]
theorem half_all (xs : List Value) (z : Value) : half xs z xs.length = xs := by simp [half]
theorem half_set (xs : List Value) (z : Value) (k : Nat) (hk : k < xs.length) : (half xs z k).set k xs[k] = half xs z (k + 1) := by
  unfold half
  have hl : (xs.take k).length = k := by rw [List.length_take]; omega
  rw [List.set_append_right _ _ (by omega), hl, Nat.sub_self, List.take_succ_eq_append_getElem hk, List.append_assoc]
  congr 1
  rw [show xs.length - k = (xs.length - (k + 1)) + 1 by omega, List.replicate_succ]
  rfl
theorem half_at (xs : List Value) (z : Value) (k : Nat) (hk : k < xs.length) : (half xs z k)[k]? = some z := by
  unfold half
  have hl : (xs.take k).length = k := by rw [List.length_take]; omega
  rw [List.getElem?_append_right (by omega), hl, Nat.sub_self, List.getElem?_replicate, if_pos (by omega)]
theorem drewN_add (w : World) (m k : Nat) : (w.drewN m).drewN k = w.drewN (m + k) := by unfold World.drewN; simp [Nat.add_assoc]
/-- Of two lists: the first j places of the second, behind them the rest of the first. -/
def mix (xs ys : List Value) (j : Nat) : List Value := ys.take j ++ xs.drop j
theorem mix_zero (xs ys : List Value) : mix xs ys 0 = xs := by simp [mix]
theorem mix_all (xs ys : List Value) (h : xs.length = ys.length) : mix xs ys ys.length = ys := by simp [mix, h]
theorem mix_set (xs ys : List Value) (j : Nat) (h : xs.length = ys.length) (hj : j < ys.length) : (mix xs ys j).set j ys[j] = mix xs ys (j + 1) := by
  unfold mix
  have hl : (ys.take j).length = j := by rw [List.length_take]; omega
  rw [List.set_append_right _ _ (by omega), hl, Nat.sub_self, List.take_succ_eq_append_getElem hj, List.append_assoc]
  congr 1
  rw [List.drop_eq_getElem_cons (show j < xs.length by omega)]
  rfl
theorem mix_at (xs ys : List Value) (j : Nat) (h : xs.length = ys.length) (hj : j < ys.length) : (mix xs ys j)[j]? = some (xs[j]'(by omega)) := by
  unfold mix
  have hl : (ys.take j).length = j := by rw [List.length_take]; omega
  rw [List.getElem?_append_right (by omega), hl, Nat.sub_self, List.getElem?_drop, Nat.add_zero, List.getElem?_eq_getElem]
theorem wrote_set {w wr : World} {g n cap j : Nat} (h : Wrote w wr (.slice (some ⟨g, 0, none⟩) n cap)) (u : Value) : Wrote w (wr.setCell ⟨g, j, none⟩ u) (.slice (some ⟨g, 0, none⟩) n cap) := by
  have e : (Value.slice (some ⟨g, 0, none⟩) n cap).ownBlock = some g := rfl
  unfold Wrote at h ⊢
  rw [e] at h ⊢
  refine ⟨⟨h.1.os, h.1.tape, h.1.output, by simp [World.setCell]; exact h.1.size, fun k hk hn => ?_⟩, by simp [World.setCell]; exact h.2⟩
  rw [Below.heap_setCell _ _ _ _ (fun e => hn (by rw [e]))]
  exact h.1.block k hk hn
/-- 'append(out, b...)', out the call's own, b any slice that can be read. -/
theorem wpList_append_row {P : Program} {w : World} {ops : Array Oper} {rest : List Oper} {o : Oper} {a : Act} {Q : Exit → Act → World → Prop} (hgd : o.guard = none) (s x : Operand) (t : TypeId)
    (ho : o.op = .call { callee := .builtin .append, args := #[s, x], argTypes := #[t, t] })
    (base : Nat) (e : TypeId) (i : TypeInfo) (z : Value) (bytes : Nat) (ht : P.underlying t = some (.slice e)) (hi : P.info? e = some i) (hz : i.zero = some z) (hsize : i.size = 1) (hby : i.bytes = bytes) (hzs : z.cells.size = 1)
    (v : Value) (n : Nat) (xs : List Value) (hs : a.eval s = v) (hown : w.ownsRow base e 1 v n xs)
    (K : IntKind) (top : Nat) (u : Value) (ys : List Int) (hx : a.eval x = u) (hr : Row K w top u ys)
    (h63 : n + ys.length ≤ maxLen) (hbytes : (n + ys.length) * bytes ≤ 140737488355328) (hbase : base ≤ w.heap.size)
    (h : ∀ v' w', w'.ownsRow base e 1 v' (n + ys.length) (xs ++ ys.map (Value.int K)) → w.grownBy w' v.ownBlock → wpList P ops Q rest (a.put o.dst v') w') : wpList P ops Q (o :: rest) a w := by
  obtain ⟨⟨A, c, rfl, r1, r2, r0, r3⟩, _⟩ := hr
  rcases A with _ | ad
  · have hl : ys.length = 0 := by
      rcases Nat.eq_zero_or_pos ys.length with h0 | hp
      · exact h0
      · obtain ⟨_, _, e1, _⟩ := r3 hp
        cases e1
    have hy : ys = [] := List.length_eq_zero_iff.mp hl
    obtain rfl := r0 rfl
    refine wpList_append_own_none hgd s x t ho base e i 1 ht hi v n xs hs hown (by rw [hx, hl]) (h v w ?_ (World.grownBy.refl _ _))
    rw [hy]
    simpa using hown
  · refine wpList_append_own w hgd s x t ho base e i z 1 bytes ht hi hz hsize hby hzs (by decide) v n xs hs hown ad ys.length c (ys.map (Value.int K)) hx (by simp) (fun j q hj => ?_) (fun q hq => ?_) h63 hbytes hbase (fun v' w' g1 g2 _ => h v' w' g1 g2)
    · have hj2 : j < ys.length := by
        have := (List.getElem?_eq_some_iff.1 hj).1
        simpa using this
      obtain ⟨b, off, e1, _, _, r4⟩ := r3 (by omega)
      injection e1 with e1
      subst e1
      have hadd : (⟨b, off, none⟩ : Addr).add j = ⟨b, off + j, none⟩ := by unfold Addr.add; split <;> simp_all
      rw [hadd, r4 j hj2]
      rw [List.getElem?_map, List.getElem?_eq_getElem hj2] at hj
      simp only [Option.map_some, Option.some.injEq] at hj
      rw [← hj]
      simp [List.getD, hj2]
    · obtain ⟨q', _, rfl⟩ := List.mem_map.1 hq
      rfl
/-- The literal '[]T{}' is the call's own, and empty. -/
theorem own_empty (E : TypeId) (K : IntKind) (w : World) : (w.alloc (.cells #[] E)).ownsRow w.heap.size E 1 (.slice (some ⟨w.heap.size, 0, none⟩) 0 0) 0 (([] : List Int).map (Value.int K)) :=
  World.ownsRow_lit w #[] 0 (Nat.le_refl _) (by decide) rfl
/-- One value in a block just made reads as a slice of one. -/
theorem row_one (K : IntKind) (T : TypeId) (w : World) (x : Int) (hx : (Lit.int K x).wf = true) : Row K (w.alloc (.cells #[.int K x] T)) (w.heap.size + 1) (.slice (some ⟨w.heap.size, 0, none⟩) 1 1) [x] := by
  refine ⟨⟨_, 1, rfl, Nat.le_refl _, by decide, (fun e => by cases e), fun _ => ⟨w.heap.size, 0, rfl, by omega, by simp, fun i hi => ?_⟩⟩, fun y hy => ?_⟩
  · have : i = 0 := by simpa using hi
    subst this
    rw [World.cell?_alloc_new]
    rfl
  · have : y = x := by simpa using hy
    rw [this]
    exact hx
theorem Own.empty (E : TypeId) (K : IntKind) (w : World) : Own E K (w.alloc (.cells #[] E)) w.heap.size (w.heap.size + 1) (.slice (some ⟨w.heap.size, 0, none⟩) 0 0) [] :=
  ⟨own_empty E K w, fun k hk => by
    have : w.heap.size = k := by simpa [Value.ownBlock] using hk
    omega, fun x hx => by cases hx⟩
/-- The same, in one word: out is owned before and behind; below its first block nothing has turned. -/
theorem wpList_append_Own {P : Program} {w : World} {ops : Array Oper} {rest : List Oper} {o : Oper} {a : Act} {Q : Exit → Act → World → Prop} (hgd : o.guard = none) (s x : Operand) (t : TypeId)
    (ho : o.op = .call { callee := .builtin .append, args := #[s, x], argTypes := #[t, t] })
    (e : TypeId) (i : TypeInfo) (z : Value) (bytes : Nat) (ht : P.underlying t = some (.slice e)) (hi : P.info? e = some i) (hz : i.zero = some z) (hsize : i.size = 1) (hby : i.bytes = bytes) (hzs : z.cells.size = 1)
    (K : IntKind) (lo top : Nat) (v : Value) (xs : List Int) (hs : a.eval s = v) (hown : Own e K w lo top v xs)
    (top' : Nat) (u : Value) (ys : List Int) (hx : a.eval x = u) (hr : Row K w top' u ys)
    (h63 : xs.length + ys.length ≤ 2199023255552) (hb8 : bytes ≤ 8) (hbase : lo ≤ w.heap.size)
    (h : ∀ v' w', Own e K w' lo w'.heap.size v' (xs ++ ys) → Below lo w w' → wpList P ops Q rest (a.put o.dst v') w') : wpList P ops Q (o :: rest) a w := by
  have hbytes : (xs.length + ys.length) * bytes ≤ 2199023255552 * 8 := Nat.mul_le_mul h63 hb8
  refine wpList_append_row hgd s x t ho lo e i z bytes ht hi hz hsize hby hzs v xs.length (xs.map (Value.int K)) hs hown.row K top' u ys hx hr (by unfold maxLen; omega) (by omega) hbase (fun v' w' g1 g2 => h v' w' ⟨?_, fun k hk => (g1.lt k hk).2, fun q hq => ?_⟩ ⟨g2.os, g2.tape, g2.output, g2.size, fun k hk => g2.block k (by omega) fun e1 => ?_⟩)
  · rw [List.length_append, List.map_append]
    exact g1
  · rcases List.mem_append.1 hq with hq | hq
    · exact hown.wf q hq
    · exact hr.wf q hq
  · have := (hown.lt k e1.symm).1
    omega
/-- A slice of no elements reads as none. -/
theorem Row.zero (K : IntKind) (w : World) (top : Nat) (a : Addr) (c : Nat) (hc : c ≤ maxLen) : Row K w top (.slice (some a) 0 c) [] :=
  ⟨⟨some a, c, rfl, Nat.zero_le _, hc, (fun e => by cases e), fun hp => by simp at hp⟩, fun x hx => by cases hx⟩
/-- A piece of a slice. -/
theorem Row.sub {K : IntKind} {w : World} {hi b off n c : Nat} {xs : List Int} (h : Row K w hi (.slice (some ⟨b, off, none⟩) n c) xs) (i m : Nat) (hm : i + m ≤ n) : Row K w hi (.slice (some ⟨b, off + i, none⟩) m (c - i)) ((xs.drop i).take m) := by
  obtain ⟨⟨a, c', e, h1, h2, _, h3⟩, h4⟩ := h
  injection e with e1 e2 e3
  subst e1
  subst e2
  subst e3
  have hl : ((xs.drop i).take m).length = m := by rw [List.length_take, List.length_drop]; omega
  refine ⟨⟨_, c - i, by rw [hl], by rw [hl]; omega, by omega, (fun e => by cases e), fun hp => ?_⟩, fun x hx => h4 x (List.mem_of_mem_drop (List.mem_of_mem_take hx))⟩
  rw [hl] at hp ⊢
  obtain ⟨b', off', e, g1, g2, g3⟩ := h3 (by omega)
  injection e with e
  injection e with e1 e2 _
  subst e1
  subst e2
  refine ⟨b, off + i, rfl, g1, g2, fun j hj => ?_⟩
  rw [Nat.add_assoc, g3 (i + j) (by omega)]
  simp [List.getD, List.getElem?_drop, hj]
theorem Own.drewN {E : TypeId} {K : IntKind} {w : World} {lo hi : Nat} {v : Value} {xs : List Int} (h : Own E K w lo hi v xs) (m : Nat) : Own E K (w.drewN m) lo hi v xs := ⟨h.row, h.hi, h.wf⟩
theorem Row.drewN {K : IntKind} {w : World} {hi : Nat} {v : Value} {xs : List Int} (h : Row K w hi v xs) (m : Nat) : Row K (w.drewN m) hi v xs := ⟨h.form, h.wf⟩
theorem bOf {B m : Nat} {w w' : World} (h : Below B (w.drewN m) w') : Below B w w' := ⟨h.os, h.tape, h.output, h.size, h.block⟩
theorem bDrew {B : Nat} {a w : World} (h : Below B a w) (m : Nat) : Below B a (w.drewN m) := ⟨h.os, h.tape, h.output, h.size, h.block⟩
end Go.Proofs.YtjfmmingkciapaaGreatDoor
/- Slices whose elements are several cells each: one that is read, and one that a call has made for itself; what keeps them. No condition; any program. -/
namespace Go.Proofs.YtjfmmingkciapaaGreatDoor
open Go.ChangeShapes Go.WideShapes Go.ChangeAt Go.RowKit
set_option linter.unusedVariables false

/-! Lists of elements, laid out in cells. -/
section
variable {X : Type} {f : X → List Value} {s : Nat}
theorem flat_len (hf : ∀ x, (f x).length = s) : ∀ xs : List X, (xs.flatMap f).length = xs.length * s
  | [] => by simp
  | x :: xs => by
    rw [List.flatMap_cons, List.length_append, hf, flat_len hf xs, List.length_cons, Nat.add_mul, Nat.one_mul]
    omega
theorem flat_at (hf : ∀ x, (f x).length = s) : ∀ {xs : List X} {i : Nat} {x : X}, xs[i]? = some x → ∀ {j : Nat}, j < s → (xs.flatMap f)[i * s + j]? = (f x)[j]?
  | [], i, x, h, _, _ => by simp at h
  | y :: ys, 0, x, h, j, hj => by
    simp only [List.getElem?_cons_zero, Option.some.injEq] at h
    subst h
    rw [List.flatMap_cons, Nat.zero_mul, Nat.zero_add, List.getElem?_append_left (by rw [hf]; exact hj)]
  | y :: ys, i + 1, x, h, j, hj => by
    rw [List.getElem?_cons_succ] at h
    rw [List.flatMap_cons, List.getElem?_append_right (by rw [hf, Nat.add_mul]; omega), hf, show (i + 1) * s + j - s = i * s + j by rw [Nat.add_mul]; omega]
    exact flat_at hf h hj
theorem flat_inj (hf : ∀ x, (f x).length = s) (hs : 0 < s) (hi : ∀ x y, f x = f y → x = y) : ∀ {xs ys : List X}, xs.flatMap f = ys.flatMap f → xs = ys
  | [], [], _ => rfl
  | [], y :: ys, h => by
    have := congrArg List.length h
    rw [List.flatMap_cons, List.length_append, hf] at this
    simp at this
    omega
  | x :: xs, [], h => by
    have := congrArg List.length h
    rw [List.flatMap_cons, List.length_append, hf] at this
    simp at this
    omega
  | x :: xs, y :: ys, h => by
    rw [List.flatMap_cons, List.flatMap_cons] at h
    obtain ⟨h1, h2⟩ := List.append_inj h (by rw [hf, hf])
    rw [hi x y h1, flat_inj hf hs hi h2]
/-- Of a list of elements the first k are laid, behind them zeros. -/
def halfC (f : X → List Value) (z : List Value) (xs : List X) (k : Nat) : List Value := (xs.take k).flatMap f ++ (List.replicate (xs.length - k) z).flatten
theorem halfC_zero (z : List Value) (xs : List X) : halfC f z xs 0 = (List.replicate xs.length z).flatten := by simp [halfC]
theorem halfC_all (z : List Value) (xs : List X) : halfC f z xs xs.length = xs.flatMap f := by simp [halfC]
theorem made_zeros (z : List Value) (s : Nat) (hs : 0 < s) (hz : z.length = s) (n : Nat) : (madeCells z.toArray (n * s)).toList = (List.replicate n z).flatten := by
  have e : (List.replicate n z).flatten = (List.replicate n ()).flatMap (fun _ => z) := by rw [List.flatMap_def, List.map_replicate]
  rw [e]
  apply List.ext_getElem?
  intro i
  by_cases hi : i < n * s
  · have h1 : i / s < n := Nat.div_lt_of_lt_mul (by rw [Nat.mul_comm]; exact hi)
    have h2 : i % s < s := Nat.mod_lt _ hs
    have h3 := flat_at (f := fun (_ : Unit) => z) (s := s) (fun _ => hz) (xs := List.replicate n ()) (i := i / s) (x := ()) (by rw [List.getElem?_replicate, if_pos h1]) h2
    rw [Nat.mul_comm, Nat.div_add_mod] at h3
    rw [h3]
    have h4 : i % s < z.length := by rw [hz]; exact h2
    simp [madeCells, hi, hz]
    rw [List.getElem?_eq_getElem h4, Option.getD_some]
  · rw [List.getElem?_eq_none (by simp [madeCells]; omega), List.getElem?_eq_none (by rw [flat_len (f := fun (_ : Unit) => z) (s := s) (fun _ => hz), List.length_replicate]; omega)]
/-- Cells written in a row. -/
def setMany : List Value → Nat → List Value → List Value
  | l, _, [] => l
  | l, i, u :: us => setMany (l.set i u) (i + 1) us
theorem setMany_mid : ∀ (us : List Value) (a b c : List Value), us.length = b.length → setMany (a ++ (b ++ c)) a.length us = a ++ (us ++ c)
  | [], a, b, c, h => by
    have : b = [] := List.length_eq_zero_iff.mp (by simpa using h.symm)
    subst this
    rfl
  | u :: us, a, [], c, h => by simp at h
  | u :: us, a, x :: b, c, h => by
    have e : (a ++ (x :: b ++ c)).set a.length u = (a ++ [u]) ++ (b ++ c) := by
      rw [List.set_append_right _ _ (Nat.le_refl _), Nat.sub_self]
      simp
    unfold setMany
    rw [e, show a.length + 1 = (a ++ [u]).length by simp, setMany_mid us (a ++ [u]) b c (by simpa using h)]
    simp
theorem halfC_set (hf : ∀ x, (f x).length = s) (z : List Value) (hz : z.length = s) {xs : List X} {k : Nat} {x : X} (hx : xs[k]? = some x) : setMany (halfC f z xs k) (k * s) (f x) = halfC f z xs (k + 1) := by
  have hk : k < xs.length := (List.getElem?_eq_some_iff.1 hx).1
  have hl : ((xs.take k).flatMap f).length = k * s := by rw [flat_len hf, List.length_take]; congr 1; omega
  unfold halfC
  rw [show xs.length - k = (xs.length - (k + 1)) + 1 by omega, List.replicate_succ, List.flatten_cons, ← hl, setMany_mid _ _ _ _ (by rw [hf, hz]), List.take_add_one, hx]
  simp
theorem halfC_at (hf : ∀ x, (f x).length = s) (z : List Value) (hz : z.length = s) {xs : List X} {k : Nat} (hk : k < xs.length) {j : Nat} (hj : j < s) : (halfC f z xs k)[k * s + j]? = z[j]? := by
  have hl : ((xs.take k).flatMap f).length = k * s := by rw [flat_len hf, List.length_take]; congr 1; omega
  unfold halfC
  rw [List.getElem?_append_right (by omega), hl, Nat.add_sub_cancel_left, show xs.length - k = (xs.length - (k + 1)) + 1 by omega, List.replicate_succ, List.flatten_cons, List.getElem?_append_left (by omega)]
/-- Of two lists of elements, laid out: the first j of the second, behind them the rest of the first. -/
def mixC (f : X → List Value) (xs ys : List X) (j : Nat) : List Value := (ys.take j).flatMap f ++ (xs.drop j).flatMap f
theorem mixC_zero (xs ys : List X) : mixC f xs ys 0 = xs.flatMap f := by simp [mixC]
theorem mixC_all {xs ys : List X} (h : ys.length = xs.length) : mixC f xs ys xs.length = ys.flatMap f := by
  unfold mixC
  rw [List.take_of_length_le (by omega), List.drop_of_length_le (Nat.le_refl _)]
  simp
theorem mixC_at (hf : ∀ x, (f x).length = s) {xs ys : List X} (h : ys.length = xs.length) {j : Nat} {x : X} (hx : xs[j]? = some x) {i : Nat} (hi : i < s) : (mixC f xs ys j)[j * s + i]? = (f x)[i]? := by
  have hj : j < xs.length := (List.getElem?_eq_some_iff.1 hx).1
  have hl : ((ys.take j).flatMap f).length = j * s := by rw [flat_len hf, List.length_take]; congr 1; omega
  have hx' : xs[j] = x := (List.getElem?_eq_some_iff.1 hx).2
  unfold mixC
  rw [List.getElem?_append_right (by omega), hl, Nat.add_sub_cancel_left, List.drop_eq_getElem_cons hj, List.flatMap_cons, hx', List.getElem?_append_left (by rw [hf]; exact hi)]
theorem mixC_set (hf : ∀ x, (f x).length = s) {xs ys : List X} (h : ys.length = xs.length) {j : Nat} {y : X} (hy : ys[j]? = some y) : setMany (mixC f xs ys j) (j * s) (f y) = mixC f xs ys (j + 1) := by
  have hj : j < ys.length := (List.getElem?_eq_some_iff.1 hy).1
  have hj2 : j < xs.length := by omega
  have hl : ((ys.take j).flatMap f).length = j * s := by rw [flat_len hf, List.length_take]; congr 1; omega
  unfold mixC
  rw [List.drop_eq_getElem_cons hj2, List.flatMap_cons, ← hl, setMany_mid _ _ _ _ (by rw [hf, hf]), List.take_add_one, hy]
  simp
end

/-- The slice v of m elements, s cells each, reads as the cells cs; where it has elements they lie in one block below 'hi'. -/
structure RowC (s : Nat) (w : World) (hi : Nat) (v : Value) (m : Nat) (cs : List Value) : Prop where
  len : cs.length = m * s
  form : ∃ a c, v = .slice a m c ∧ m ≤ c ∧ c ≤ maxLen ∧ (a = none → c = 0) ∧
    (0 < m → ∃ b off, a = some ⟨b, off, none⟩ ∧ b < hi ∧ b < w.heap.size ∧ ∀ (j : Nat) (u : Value), cs[j]? = some u → w.cell? ⟨b, off + j, none⟩ = some u)
/-- The slice v is the call's own: it reads as cs, its block lies from 'lo' on and below 'hi', and it may be written. -/
structure OwnC (E : TypeId) (s : Nat) (w : World) (lo hi : Nat) (v : Value) (m : Nat) (cs : List Value) : Prop where
  row : w.ownsRow lo E s v m cs
  hi : ∀ k, v.ownBlock = some k → k < hi
section
variable {E : TypeId} {s : Nat} {w w' : World} {lo hi m : Nat} {v : Value} {cs : List Value}
theorem RowC.keep (h : RowC s w hi v m cs) (hs : w.heap.size ≤ w'.heap.size) (hb : ∀ k, k < hi → k < w.heap.size → w'.heap[k]? = w.heap[k]?) : RowC s w' hi v m cs := by
  obtain ⟨hl, a, c, rfl, h1, h2, h0, h3⟩ := h
  refine ⟨hl, a, c, rfl, h1, h2, h0, fun hp => ?_⟩
  obtain ⟨b, off, rfl, g1, g2, g3⟩ := h3 hp
  exact ⟨b, off, rfl, g1, by omega, fun j u hu => (World.cell?_of_block (w := w) (hb b g1 g2)).trans (g3 j u hu)⟩
theorem RowC.below {B : Nat} (h : RowC s w hi v m cs) (hb : Below B w w') (hB : hi ≤ B) : RowC s w' hi v m cs :=
  h.keep hb.size fun k hk _ => hb.block k (by omega)
theorem RowC.more {hi' : Nat} (h : RowC s w hi v m cs) (hB : hi ≤ hi') : RowC s w hi' v m cs := by
  obtain ⟨hl, a, c, rfl, h1, h2, h0, h3⟩ := h
  refine ⟨hl, a, c, rfl, h1, h2, h0, fun hp => ?_⟩
  obtain ⟨b, off, rfl, g1, g2, g3⟩ := h3 hp
  exact ⟨b, off, rfl, by omega, g2, g3⟩
theorem RowC.drewN (h : RowC s w hi v m cs) (n : Nat) : RowC s (w.drewN n) hi v m cs := ⟨h.len, h.form⟩
theorem OwnC.lt (h : OwnC E s w lo hi v m cs) : ∀ k, v.ownBlock = some k → lo ≤ k ∧ k < hi ∧ k < w.heap.size := fun k hk => ⟨(h.row.lt k hk).1, h.hi k hk, (h.row.lt k hk).2⟩
theorem OwnC.keep (h : OwnC E s w lo hi v m cs) (hb : ∀ k, lo ≤ k → k < hi → k < w.heap.size → w'.heap[k]? = w.heap[k]?) : OwnC E s w' lo hi v m cs := by
  have hl := h.lt
  refine ⟨⟨h.row.1, ?_⟩, h.hi⟩
  rcases h.row.2 with hn | ⟨g, cap, cur, rfl, g1, g2, rest⟩
  · exact .inl hn
  · obtain ⟨l1, l2, l3⟩ := hl g rfl
    exact .inr ⟨g, cap, cur, rfl, g1, (hb g l1 l2 l3).trans g2, rest⟩
theorem OwnC.below {B : Nat} (h : OwnC E s w lo hi v m cs) (hb : Below B w w') (hB : hi ≤ B) : OwnC E s w' lo hi v m cs :=
  h.keep fun k _ hk _ => hb.block k (by omega)
theorem OwnC.wide {lo' hi' : Nat} (h : OwnC E s w lo hi v m cs) (h1 : lo' ≤ lo) (h2 : hi ≤ hi') : OwnC E s w lo' hi' v m cs := by
  refine ⟨⟨h.row.1, ?_⟩, fun k hk => Nat.lt_of_lt_of_le (h.hi k hk) h2⟩
  rcases h.row.2 with hn | ⟨g, cap, cur, rfl, g1, g2, rest⟩
  · exact .inl hn
  · exact .inr ⟨g, cap, cur, rfl, by omega, g2, rest⟩
theorem OwnC.drewN (h : OwnC E s w lo hi v m cs) (n : Nat) : OwnC E s (w.drewN n) lo hi v m cs := ⟨h.row, h.hi⟩
/-- What is owned can be read. -/
theorem OwnC.read (h : OwnC E s w lo hi v m cs) : RowC s w hi v m cs := by
  have hl := h.lt
  have hr := h.row
  rcases hr.2 with ⟨rfl, hn⟩ | ⟨g, cap, cur, rfl, g1, g2, g3, g4, g5, g6⟩
  · exact ⟨hr.1, none, 0, by rw [hn], by omega, by decide, fun _ => rfl, fun hp => by omega⟩
  · obtain ⟨l1, l2, l3⟩ := hl g rfl
    refine ⟨hr.1, _, cap, rfl, g3, g4, (fun e => by cases e), fun hp => ⟨g, 0, rfl, l2, l3, fun j u hu => ?_⟩⟩
    have hj : j < m * s := by have := (List.getElem?_eq_some_iff.1 hu).1; have := hr.1; omega
    rw [Nat.zero_add, hr.cellAt j hj, hu]
/-- Stores into the slice itself. -/
theorem RowC.wrote {u : Value} {ys : List Value} {l h' n : Nat} {E' : TypeId} {s' : Nat} (h : RowC s w hi v m cs) (ho : OwnC E' s' w l h' u n ys) (hw : Wrote w w' u) (hd : hi ≤ l) : RowC s w' hi v m cs :=
  h.keep hw.1.size fun k hk hs => hw.1.block k hs fun e => by have := (ho.lt k e.symm).1; omega
theorem OwnC.wrote {E' : TypeId} {s' : Nat} {u : Value} {ys : List Value} {l h' n : Nat} (h : OwnC E s w lo hi v m cs) (ho : OwnC E' s' w l h' u n ys) (hw : Wrote w w' u) (hd : hi ≤ l ∨ h' ≤ lo) : OwnC E s w' lo hi v m cs :=
  h.keep fun k h1 h2 hs => hw.1.block k hs fun e => by obtain ⟨q1, q2, _⟩ := ho.lt k e.symm; omega
theorem wroteC_below {u : Value} {ys : List Value} {l h' n B : Nat} (hw : Wrote w w' u) (ho : OwnC E s w l h' u n ys) (hB : B ≤ l) (hs : B ≤ w.heap.size) : Below B w w' :=
  ⟨hw.1.os, hw.1.tape, hw.1.output, hw.1.size, fun k hk => hw.1.block k (by omega) fun e => by have := (ho.lt k e.symm).1; omega⟩
/-- Cells in a row written, in the world. -/
def wsetMany : World → Nat → Nat → List Value → World
  | w, _, _, [] => w
  | w, g, i, u :: us => wsetMany (w.setCell ⟨g, i, none⟩ u) g (i + 1) us
theorem OwnC.setMany {g cap n : Nat} : ∀ (us : List Value) {w : World} {cs : List Value} (i : Nat), OwnC E s w lo hi (.slice (some ⟨g, 0, none⟩) n cap) n cs → OwnC E s (wsetMany w g i us) lo hi (.slice (some ⟨g, 0, none⟩) n cap) n (setMany cs i us)
  | [], w, cs, i, h => h
  | u :: us, w, cs, i, h => OwnC.setMany us (i + 1) ⟨(h.row.stored i u).1, h.hi⟩
theorem Below.setMany {B g : Nat} {w0 : World} (hB : B ≤ g) : ∀ (us : List Value) {w : World} (i : Nat), Below B w0 w → Below B w0 (wsetMany w g i us)
  | [], w, i, h => h
  | u :: us, w, i, h => Below.setMany hB us (i + 1) (h.setCell (p := ⟨g, i, none⟩) hB u)
theorem wsetMany_size {g : Nat} : ∀ (us : List Value) (w : World) (i : Nat), (wsetMany w g i us).heap.size = w.heap.size
  | [], w, i => rfl
  | u :: us, w, i => (wsetMany_size us _ (i + 1)).trans (by simp [World.setCell])
theorem OwnC.setFar {g : Nat} : ∀ (us : List Value) {w : World} (i : Nat), OwnC E s w lo hi v m cs → hi ≤ g → OwnC E s (wsetMany w g i us) lo hi v m cs
  | [], w, i, h, hg => h
  | u :: us, w, i, h, hg => OwnC.setFar us (i + 1) (h.keep fun k _ hk _ => Below.heap_setCell _ _ _ _ (by show k ≠ g; omega)) hg
theorem wrote_setMany {g n cap : Nat} {w : World} : ∀ (us : List Value) {wr : World} (i : Nat), Wrote w wr (.slice (some ⟨g, 0, none⟩) n cap) → Wrote w (wsetMany wr g i us) (.slice (some ⟨g, 0, none⟩) n cap)
  | [], wr, i, h => h
  | u :: us, wr, i, h => wrote_setMany us (i + 1) (wrote_set h u)
theorem RowC.fits {n c : Nat} {a : Option Addr} (h : RowC s w hi (.slice a n c) m cs) : n ≤ c ∧ c ≤ maxLen := by
  obtain ⟨_, _, _, e, h1, h2, _⟩ := h
  injection e with e1 e2 e3
  exact ⟨by omega, by omega⟩
/-- One element in a block just made reads as a slice of one. -/
theorem rowC_one (s : Nat) (T : TypeId) (w : World) (cs : List Value) (hl : cs.length = s) : RowC s (w.alloc (.cells cs.toArray T)) (w.heap.size + 1) (.slice (some ⟨w.heap.size, 0, none⟩) 1 1) 1 cs := by
  refine ⟨by rw [hl, Nat.one_mul], _, 1, rfl, Nat.le_refl _, by decide, (fun e => by cases e), fun _ => ⟨w.heap.size, 0, rfl, by omega, by simp, fun j u hu => ?_⟩⟩
  rw [World.cell?_alloc_new, Nat.zero_add]
  simpa using hu
/-- 'append(out, b...)': out the call's own, b any slice that can be read. -/
theorem wpList_append_OwnC {P : Program} {ops : Array Oper} {rest : List Oper} {o : Oper} {a : Act} {Q : Exit → Act → World → Prop} (hgd : o.guard = none) (sl x : Operand) (t : TypeId)
    (ho : o.op = .call { callee := .builtin .append, args := #[sl, x], argTypes := #[t, t] })
    (i : TypeInfo) (z : Value) (bytes : Nat) (ht : P.underlying t = some (.slice E)) (hi' : P.info? E = some i) (hz : i.zero = some z) (hsize : i.size = s) (hby : i.bytes = bytes) (hzs : z.cells.size = s) (hs0 : 0 < s)
    (hs : a.eval sl = v) (hown : OwnC E s w lo hi v m cs)
    (top' : Nat) (u : Value) (m2 : Nat) (ds : List Value) (hx : a.eval x = u) (hr : RowC s w top' u m2 ds) (h1 : ∀ q ∈ ds, q.oneCell' = true)
    (h63 : m + m2 ≤ 1073741824) (hb8 : bytes ≤ 1024) (hbase : lo ≤ w.heap.size)
    (h : ∀ v' w', OwnC E s w' lo w'.heap.size v' (m + m2) (cs ++ ds) → Below lo w w' → wpList P ops Q rest (a.put o.dst v') w') : wpList P ops Q (o :: rest) a w := by
  have hbytes : (m + m2) * bytes ≤ 1073741824 * 1024 := Nat.mul_le_mul h63 hb8
  obtain ⟨hl, A, c, rfl, r1, r2, r0, r3⟩ := hr
  rcases A with _ | ad
  · have hm : m2 = 0 := by
      rcases Nat.eq_zero_or_pos m2 with h0 | hp
      · exact h0
      · obtain ⟨_, _, e1, _⟩ := r3 hp
        cases e1
    subst hm
    have hd : ds = [] := List.length_eq_zero_iff.mp (by simpa using hl)
    subst hd
    obtain rfl := r0 rfl
    refine wpList_append_own_none hgd sl x t ho lo E i s ht hi' v m cs hs hown.row hx (h v w ⟨by simpa using hown.row, fun k hk => (hown.lt k hk).2.2⟩ (Below.refl _ _))
  · refine wpList_append_own w hgd sl x t ho lo E i z s bytes ht hi' hz hsize hby hzs hs0 v m cs hs hown.row ad m2 c ds hx hl (fun j q hj => ?_) h1 (by unfold maxLen; omega) (by omega) hbase
      (fun v' w' g1 g2 _ => h v' w' ⟨g1, fun k hk => (g1.lt k hk).2⟩ ⟨g2.os, g2.tape, g2.output, g2.size, fun k hk => g2.block k (by omega) fun e1 => by have := (hown.lt k e1.symm).1; omega⟩)
    have hp : 0 < m2 := by
      have := (List.getElem?_eq_some_iff.1 hj).1
      rcases Nat.eq_zero_or_pos m2 with h0 | hp
      · rw [hl, h0] at this; omega
      · exact hp
    obtain ⟨b, off, e1, _, _, r4⟩ := r3 hp
    injection e1 with e1
    subst e1
    have hadd : (⟨b, off, none⟩ : Addr).add j = ⟨b, off + j, none⟩ := by unfold Addr.add; split <;> simp_all
    rw [hadd]
    exact r4 j q hj
theorem OwnC.made (E : TypeId) {s n cap : Nat} {w w' : World} {cs : List Value} (h : w'.ownsRow w.heap.size E s (.slice (some ⟨w.heap.size, 0, none⟩) n cap) n cs) : OwnC E s w' w.heap.size (w.heap.size + 1) (.slice (some ⟨w.heap.size, 0, none⟩) n cap) n cs :=
  ⟨h, fun k hk => by
    have : w.heap.size = k := by simpa [Value.ownBlock] using hk
    omega⟩
theorem OwnC.empty (E : TypeId) (s : Nat) (w : World) : OwnC E s (w.alloc (.cells #[] E)) w.heap.size (w.heap.size + 1) (.slice (some ⟨w.heap.size, 0, none⟩) 0 0) 0 [] :=
  ⟨World.ownsRow_lit w #[] 0 (Nat.le_refl _) (by decide) (by simp), fun k hk => by
    have : w.heap.size = k := by simpa [Value.ownBlock] using hk
    omega⟩
end
theorem OwnC.joined {X : Type} {f : X → List Value} {E : TypeId} {s : Nat} {w : World} {lo hi : Nat} {v : Value} {xs ys : List X} (h : OwnC E s w lo hi v (xs.length + ys.length) (xs.flatMap f ++ ys.flatMap f)) : OwnC E s w lo hi v (xs ++ ys).length ((xs ++ ys).flatMap f) := by
  rw [List.length_append, List.flatMap_append]
  exact h
theorem flat_one {X : Type} {f : X → List Value} (h : ∀ x, ∀ u ∈ f x, u.oneCell' = true) (xs : List X) : ∀ u ∈ xs.flatMap f, u.oneCell' = true := fun u hu => by
  obtain ⟨x, _, hx⟩ := List.mem_flatMap.1 hu
  exact h x u hx
end Go.Proofs.YtjfmmingkciapaaGreatDoor
/- What a struct by value that came in reads as: its cells, one by one, however its fields are nested. No condition; any program. -/
namespace Go.Proofs.YtjfmmingkciapaaGreatDoor
open Go.ChangeShapes Go.WideShapes Go.ChangeAt Go.RowKit Go.Deep
set_option linter.unusedVariables false

/-- The cells of a type: where each lies, and its own type; none where one is neither a bool, an integer, a string nor a slice. -/
def flatT (P : Program) : Nat → TypeId → Option (List (Nat × TypeId))
  | 0, _ => none
  | n + 1, t => match P.underlying t with
    | some (.struct fs) => (fs.toList.mapM fun f => (flatT P n f.type).map fun l => l.map fun p => (f.offset + p.1, p.2)).map List.flatten
    | some .bool => some [(0, t)]
    | some (.int _) => some [(0, t)]
    | some .string => some [(0, t)]
    | some (.slice _) => some [(0, t)]
    | _ => none

theorem mapM_mem {α β : Type} {f : α → Option β} : ∀ {l : List α} {r : List β}, l.mapM f = some r → ∀ y ∈ r, ∃ (i : Nat) (a : α), l[i]? = some a ∧ f a = some y
  | [], r, h, y, hy => by simp at h; subst h; cases hy
  | a :: l, r, h, y, hy => by
    simp only [List.mapM_cons, Option.bind_eq_bind] at h
    cases hfa : f a with
    | none => simp [hfa] at h
    | some b =>
      rw [hfa] at h
      simp only [Option.bind_some] at h
      cases hl : l.mapM f with
      | none => simp [hl] at h
      | some bs =>
        rw [hl] at h
        simp at h
        subst h
        rcases List.mem_cons.1 hy with rfl | hy
        · exact ⟨0, a, rfl, hfa⟩
        · obtain ⟨i, x, hx, hfx⟩ := mapM_mem hl y hy
          exact ⟨i + 1, x, by simpa using hx, hfx⟩

section
variable {H : Type} {enc : TypeId × Value → H} {P : Program} {w : World} {base : Nat} {spare : Nat → Bool} {held : Bool}

theorem trod_flat : ∀ (n : Nat) {t : TypeId} {l : List (Nat × TypeId)}, flatT P n t = some l → ∀ {fuel : Nat} {cs : List Value} {x : DataW H × List MemPlace}, DataW.trod enc P w base spare held fuel t cs = some x →
    ∀ p ∈ l, ∃ (v : Value) (m : Nat) (y : DataW H × List MemPlace), cs[p.1]? = some v ∧ DataW.trod enc P w base spare held m p.2 [v] = some y
  | 0, t, l, h, _, _, _, _, _, _ => by simp [flatT] at h
  | n + 1, t, l, h, fuel, cs, x, hx, p, hp => by
    unfold flatT at h
    split at h
    · rename_i fs hs
      obtain ⟨xs, m, _, _, hl, hxl, hf⟩ := DataW.trod_struct hs hx
      cases hm : (fs.toList.mapM fun f => (flatT P n f.type).map fun l => l.map fun p => (f.offset + p.1, p.2)) with
      | none => simp [hm] at h
      | some ls =>
        rw [hm] at h
        simp only [Option.map_some, Option.some.injEq] at h
        subst h
        obtain ⟨l1, hl1, hp1⟩ := List.mem_flatten.1 hp
        obtain ⟨i, f, hi, hfl⟩ := mapM_mem hm l1 hl1
        cases hft : flatT P n f.type with
        | none => simp [hft] at hfl
        | some l2 =>
          rw [hft] at hfl
          simp only [Option.map_some, Option.some.injEq] at hfl
          subst hfl
          obtain ⟨q, hq, rfl⟩ := List.mem_map.1 hp1
          have hi2 : fs[i]? = some f := by simpa using hi
          have h1 := hf i f hi2
          have hil : i < xs.length := by rw [hxl]; exact (Array.getElem?_eq_some_iff.1 hi2).1
          rw [List.getElem?_eq_getElem hil] at h1
          obtain ⟨v, m2, y, hv, hy⟩ := trod_flat n hft h1 q hq
          refine ⟨v, m2, y, ?_, hy⟩
          rw [List.getElem?_take] at hv
          split at hv
          · rwa [List.getElem?_drop] at hv
          · cases hv
    · rename_i hs
      simp only [Option.some.injEq] at h
      subst h
      obtain rfl : p = (0, t) := by simpa using hp
      obtain ⟨b, rfl, _⟩ := DataW.trod_bool hs hx
      exact ⟨_, _, _, rfl, hx⟩
    · rename_i k hs
      simp only [Option.some.injEq] at h
      subst h
      obtain rfl : p = (0, t) := by simpa using hp
      obtain ⟨b, rfl, _⟩ := DataW.trod_int hs hx
      exact ⟨_, _, _, rfl, hx⟩
    · rename_i hs
      simp only [Option.some.injEq] at h
      subst h
      obtain rfl : p = (0, t) := by simpa using hp
      obtain ⟨b, rfl, _⟩ := DataW.trod_string hs hx
      exact ⟨_, _, _, rfl, hx⟩
    · rename_i e hs
      simp only [Option.some.injEq] at h
      subst h
      obtain rfl : p = (0, t) := by simpa using hp
      rcases DataW.trod_slice hs hx with ⟨rfl, _⟩ | ⟨a, len, cap, elems, rest, m, _, rfl, _⟩
      · exact ⟨_, _, _, rfl, hx⟩
      · exact ⟨_, _, _, rfl, hx⟩
    · cases h

/-- Each cell reads at its own type, in the order of the cells. -/
def Leaves (R : TypeId → Value → Prop) : List TypeId → List Value → Prop
  | [], [] => True
  | t :: ts, v :: vs => R t v ∧ Leaves R ts vs
  | _, _ => False
theorem leaves_of {R : TypeId → Value → Prop} : ∀ {ts : List TypeId} {vs : List Value}, vs.length = ts.length → (∀ (j : Nat) (t : TypeId), ts[j]? = some t → ∃ v, vs[j]? = some v ∧ R t v) → Leaves R ts vs
  | [], [], _, _ => trivial
  | t :: ts, [], h, _ => by simp at h
  | [], v :: vs, h, _ => by simp at h
  | t :: ts, v :: vs, h, hr => by
    refine ⟨?_, leaves_of (by simpa using h) (fun j u hj => by simpa using hr (j + 1) u (by simpa using hj))⟩
    obtain ⟨v', h1, h2⟩ := hr 0 t rfl
    simp at h1
    subst h1
    exact h2
/-- What is known of one cell of what came in. -/
def Leaf (enc : TypeId × Value → H) (P : Program) (w : World) (base : Nat) (spare : Nat → Bool) (held : Bool) (t : TypeId) (v : Value) : Prop := ∃ (m : Nat) (y : DataW H × List MemPlace), DataW.trod enc P w base spare held m t [v] = some y
theorem leaves_trod (n : Nat) {t : TypeId} {ts : List TypeId} (hf : flatT P n t = some (ts.mapIdx fun i u => (i, u))) (hC : P.cellsOf t = ts.length)
    {fuel : Nat} {cs : List Value} {x : DataW H × List MemPlace} (hl : cs.length = P.cellsOf t) (h : DataW.trod enc P w base spare held fuel t cs = some x) : Leaves (Leaf enc P w base spare held) ts cs := by
  refine leaves_of (hl.trans hC) (fun j u hj => ?_)
  have hm : (j, u) ∈ ts.mapIdx fun i u => (i, u) := by
    rw [List.mem_iff_getElem?]
    exact ⟨j, by rw [List.getElem?_mapIdx, hj]; rfl⟩
  obtain ⟨v, m, y, hv, hy⟩ := trod_flat n hf h (j, u) hm
  exact ⟨v, hv, m, y, hy⟩
theorem open_flat (n : Nat) {r : Reach} {b0 : Nat} {t : TypeId} {ts : List TypeId} {fs : Array Field} {v : Value} {d : DataW H} {p : List MemPlace} (hs : P.underlying t = some (.struct fs))
    (hf : flatT P n t = some (ts.mapIdx fun i u => (i, u))) (hC : P.cellsOf t = ts.length) (hv : Value.okWide P w r b0 t v) (h : DataW.Trod enc P w base spare held t v d p) :
    ∃ vs : List Value, v = .agg vs.toArray ∧ Leaves (Leaf enc P w base spare held) ts vs := by
  obtain ⟨cs, rfl, hsz⟩ := okWide_struct hs hv
  obtain ⟨fuel, hf2⟩ := h
  have hf3 : DataW.trod enc P w base spare held fuel t cs.toList = some (d, p) := hf2
  exact ⟨cs.toList, by simp, leaves_trod n hf hC (by simpa using hsz) hf3⟩
theorem Leaf.int {t : TypeId} {k : IntKind} {v : Value} (ht : P.underlying t = some (.int k)) (h : Leaf enc P w base spare held t v) : ∃ n, v = .int k n ∧ (Lit.int k n).wf = true := by
  obtain ⟨m, y, hy⟩ := h
  obtain ⟨n, h1, _, h3⟩ := DataW.trod_int ht hy
  exact ⟨n, by simpa using h1, h3⟩
theorem Leaf.bool {t : TypeId} {v : Value} (ht : P.underlying t = some .bool) (h : Leaf enc P w base spare held t v) : ∃ b, v = .bool b := by
  obtain ⟨m, y, hy⟩ := h
  obtain ⟨n, h1, _⟩ := DataW.trod_bool ht hy
  exact ⟨n, by simpa using h1⟩
end
end Go.Proofs.YtjfmmingkciapaaGreatDoor
/- Values that reach into memory (structs with slices inside, slices of them): how a value's cells hold a datum, read and owned; what keeps them. No condition; any program. -/
namespace Go.Proofs.YtjfmmingkciapaaGreatDoor
open Go.ChangeShapes Go.WideShapes Go.ChangeAt Go.RowKit
set_option linter.unusedVariables false

/-- A kind of data: how many cells it takes; what it is to read it (all that it reaches lies below a number), and to own it (all that it reaches lies in the blocks of a list). -/
structure Rep (X : Type) where
  n : Nat
  read : World → Nat → List Value → X → Prop
  own : World → List Nat → List Value → X → Prop
structure Rep.Fine {X : Type} (R : Rep X) : Prop where
  len : ∀ {w : World} {hi : Nat} {cs : List Value} {x : X}, R.read w hi cs x → cs.length = R.n
  one : ∀ {w : World} {hi : Nat} {cs : List Value} {x : X}, R.read w hi cs x → ∀ u ∈ cs, u.oneCell' = true
  keep : ∀ {w w' : World} {hi : Nat} {cs : List Value} {x : X}, R.read w hi cs x → w.heap.size ≤ w'.heap.size → (∀ k, k < hi → k < w.heap.size → w'.heap[k]? = w.heap[k]?) → R.read w' hi cs x
  more : ∀ {w : World} {hi hi' : Nat} {cs : List Value} {x : X}, R.read w hi cs x → hi ≤ hi' → R.read w hi' cs x
  okeep : ∀ {w w' : World} {fp : List Nat} {cs : List Value} {x : X}, R.own w fp cs x → (∀ k ∈ fp, k < w.heap.size → w'.heap[k]? = w.heap[k]?) → R.own w' fp cs x
  olt : ∀ {w : World} {fp : List Nat} {cs : List Value} {x : X}, R.own w fp cs x → ∀ k ∈ fp, k < w.heap.size
  oread : ∀ {w : World} {fp : List Nat} {hi : Nat} {cs : List Value} {x : X}, R.own w fp cs x → (∀ k ∈ fp, k < hi) → R.read w hi cs x
section
variable {X Y : Type}
theorem Rep.Fine.below {R : Rep X} (F : R.Fine) {w w' : World} {hi B : Nat} {cs : List Value} {x : X} (h : R.read w hi cs x) (hb : Below B w w') (hB : hi ≤ B) : R.read w' hi cs x :=
  F.keep h hb.size fun k hk _ => hb.block k (by omega)
theorem Rep.Fine.obelow {R : Rep X} (F : R.Fine) {w w' : World} {fp : List Nat} {B : Nat} {cs : List Value} {x : X} (h : R.own w fp cs x) (hb : Below B w w') (hB : ∀ k ∈ fp, k < B) : R.own w' fp cs x :=
  F.okeep h fun k hk _ => hb.block k (hB k hk)
/-- Data without memory. -/
def Rep.flat (n : Nat) (f : X → List Value) : Rep X := ⟨n, fun _ _ cs x => cs = f x, fun _ fp cs x => fp = [] ∧ cs = f x⟩
theorem Rep.flat_fine {n : Nat} {f : X → List Value} (hl : ∀ x, (f x).length = n) (h1 : ∀ x, ∀ u ∈ f x, u.oneCell' = true) : (Rep.flat n f).Fine where
  len h := by cases h; exact hl _
  one h := by cases h; exact h1 _
  keep h _ _ := h
  more h _ := h
  okeep h _ := h
  olt h k hk := by rw [h.1] at hk; cases hk
  oread h _ := h.2
/-- Two data side by side. -/
def Rep.prod (R : Rep X) (S : Rep Y) : Rep (X × Y) :=
  ⟨R.n + S.n, fun w hi cs x => ∃ c d, cs = c ++ d ∧ R.read w hi c x.1 ∧ S.read w hi d x.2, fun w fp cs x => ∃ c d f g, cs = c ++ d ∧ fp = f ++ g ∧ R.own w f c x.1 ∧ S.own w g d x.2⟩
theorem Rep.prod_fine {R : Rep X} {S : Rep Y} (F : R.Fine) (G : S.Fine) : (R.prod S).Fine where
  len h := by
    obtain ⟨c, d, rfl, h1, h2⟩ := h
    show (c ++ d).length = R.n + S.n
    rw [List.length_append, F.len h1, G.len h2]
  one h := by
    obtain ⟨c, d, rfl, h1, h2⟩ := h
    intro u hu
    rcases List.mem_append.1 hu with hu | hu
    · exact F.one h1 u hu
    · exact G.one h2 u hu
  keep h hs hb := by
    obtain ⟨c, d, rfl, h1, h2⟩ := h
    exact ⟨c, d, rfl, F.keep h1 hs hb, G.keep h2 hs hb⟩
  more h hh := by
    obtain ⟨c, d, rfl, h1, h2⟩ := h
    exact ⟨c, d, rfl, F.more h1 hh, G.more h2 hh⟩
  okeep h hb := by
    obtain ⟨c, d, f, g, rfl, rfl, h1, h2⟩ := h
    exact ⟨c, d, f, g, rfl, rfl, F.okeep h1 fun k hk => hb k (List.mem_append_left _ hk), G.okeep h2 fun k hk => hb k (List.mem_append_right _ hk)⟩
  olt h := by
    obtain ⟨c, d, f, g, rfl, rfl, h1, h2⟩ := h
    intro k hk
    rcases List.mem_append.1 hk with hk | hk
    · exact F.olt h1 k hk
    · exact G.olt h2 k hk
  oread h hh := by
    obtain ⟨c, d, f, g, rfl, rfl, h1, h2⟩ := h
    exact ⟨c, d, rfl, F.oread h1 fun k hk => hh k (List.mem_append_left _ hk), G.oread h2 fun k hk => hh k (List.mem_append_right _ hk)⟩
/-- The same data by another name. -/
def Rep.as (R : Rep X) (e : Y → X) : Rep Y := ⟨R.n, fun w hi cs y => R.read w hi cs (e y), fun w fp cs y => R.own w fp cs (e y)⟩
theorem Rep.as_fine {R : Rep X} (F : R.Fine) (e : Y → X) : (R.as e).Fine :=
  ⟨fun h => F.len h, fun h => F.one h, fun h => F.keep h, fun h => F.more h, fun h => F.okeep h, fun h => F.olt h, fun h => F.oread h⟩
/-- A slice v that reads as the data xs. -/
def Rep.reads (R : Rep X) (w : World) (hi : Nat) (v : Value) (xs : List X) : Prop :=
  ∃ css : List (List Value), css.length = xs.length ∧ RowC R.n w hi v xs.length css.flatten ∧ ∀ (i : Nat) (c : List Value) (x : X), css[i]? = some c → xs[i]? = some x → R.read w hi c x
/-- A slice v of the call's own that reads as the data xs; all that it reaches lies in the blocks of a list. -/
def Rep.owns (R : Rep X) (E : TypeId) (w : World) (fp : List Nat) (v : Value) (xs : List X) : Prop :=
  ∃ (css : List (List Value)) (fps : List (List Nat)), css.length = xs.length ∧ fps.length = xs.length ∧ fp = v.ownBlock.toList ++ fps.flatten ∧ w.ownsRow 0 E R.n v xs.length css.flatten ∧
    ∀ (i : Nat) (c : List Value) (f : List Nat) (x : X), css[i]? = some c → fps[i]? = some f → xs[i]? = some x → R.own w f c x
theorem flatten_len {α : Type} {n : Nat} : ∀ {css : List (List α)}, (∀ c ∈ css, c.length = n) → css.flatten.length = css.length * n
  | [], _ => by simp
  | c :: css, h => by
    rw [List.flatten_cons, List.length_append, flatten_len (fun d hd => h d (List.mem_cons_of_mem _ hd)), h c (List.mem_cons_self ..), List.length_cons, Nat.add_mul]
    omega
/-- A cell of a part, in the whole. -/
theorem flatten_at {α : Type} {n : Nat} : ∀ {css : List (List α)} {i : Nat} {c : List α}, (∀ c ∈ css, c.length = n) → css[i]? = some c → ∀ {j : Nat}, j < n → css.flatten[i * n + j]? = c[j]?
  | [], i, c, _, hi, _, _ => by simp at hi
  | d :: css, 0, c, h, hi, j, hj => by
    simp only [List.getElem?_cons_zero, Option.some.injEq] at hi
    subst hi
    rw [List.flatten_cons, Nat.zero_mul, Nat.zero_add, List.getElem?_append_left (by rw [h d (List.mem_cons_self ..)]; exact hj)]
  | d :: css, i + 1, c, h, hi, j, hj => by
    simp only [List.getElem?_cons_succ] at hi
    have hd := h d (List.mem_cons_self ..)
    rw [List.flatten_cons, List.getElem?_append_right (by rw [hd, Nat.add_mul]; omega), hd, show (i + 1) * n + j - n = i * n + j by rw [Nat.add_mul]; omega]
    exact flatten_at (fun e he => h e (List.mem_cons_of_mem _ he)) hi hj
theorem Rep.reads.keep {R : Rep X} (F : R.Fine) {w w' : World} {hi : Nat} {v : Value} {xs : List X} (h : R.reads w hi v xs) (hs : w.heap.size ≤ w'.heap.size) (hb : ∀ k, k < hi → k < w.heap.size → w'.heap[k]? = w.heap[k]?) : R.reads w' hi v xs := by
  obtain ⟨css, h1, h2, h3⟩ := h
  exact ⟨css, h1, h2.keep hs hb, fun i c x hc hx => F.keep (h3 i c x hc hx) hs hb⟩
theorem Rep.reads.below {R : Rep X} (F : R.Fine) {w w' : World} {hi B : Nat} {v : Value} {xs : List X} (h : R.reads w hi v xs) (hb : Below B w w') (hB : hi ≤ B) : R.reads w' hi v xs :=
  h.keep F hb.size fun k hk _ => hb.block k (by omega)
theorem Rep.reads.more {R : Rep X} (F : R.Fine) {w : World} {hi hi' : Nat} {v : Value} {xs : List X} (h : R.reads w hi v xs) (hh : hi ≤ hi') : R.reads w hi' v xs := by
  obtain ⟨css, h1, h2, h3⟩ := h
  exact ⟨css, h1, h2.more hh, fun i c x hc hx => F.more (h3 i c x hc hx) hh⟩
theorem mem_block {b : Option Nat} {k : Nat} : k ∈ b.toList ↔ b = some k := by cases b <;> simp [eq_comm]
theorem mem_part {fps : List (List Nat)} {i : Nat} {f : List Nat} {k : Nat} (hf : fps[i]? = some f) (hk : k ∈ f) : k ∈ fps.flatten :=
  List.mem_flatten.2 ⟨f, List.mem_of_getElem? hf, hk⟩
theorem Rep.owns.lt {R : Rep X} (F : R.Fine) {E : TypeId} {w : World} {fp : List Nat} {v : Value} {xs : List X} (h : R.owns E w fp v xs) : ∀ k ∈ fp, k < w.heap.size := by
  obtain ⟨css, fps, h1, h2, rfl, h3, h4⟩ := h
  intro k hk
  rcases List.mem_append.1 hk with hk | hk
  · exact (h3.lt k (mem_block.1 hk)).2
  · obtain ⟨f, hf, hk⟩ := List.mem_flatten.1 hk
    obtain ⟨i, hi, rfl⟩ := List.getElem_of_mem hf
    exact F.olt (h4 i css[i] fps[i] xs[i] (List.getElem?_eq_getElem (by omega)) (List.getElem?_eq_getElem hi) (List.getElem?_eq_getElem (by omega))) k hk
theorem ownsRow_keep {E : TypeId} {s m base : Nat} {w w' : World} {v : Value} {cs : List Value} (h : w.ownsRow base E s v m cs) (hb : ∀ k, v.ownBlock = some k → k < w.heap.size → w'.heap[k]? = w.heap[k]?) : w'.ownsRow base E s v m cs := by
  have hl := h.lt
  refine ⟨h.1, ?_⟩
  rcases h.2 with hn | ⟨g, cap, cur, rfl, g1, g2, rest⟩
  · exact .inl hn
  · exact .inr ⟨g, cap, cur, rfl, g1, (hb g rfl (hl g rfl).2).trans g2, rest⟩
theorem Rep.owns.keep {R : Rep X} (F : R.Fine) {E : TypeId} {w w' : World} {fp : List Nat} {v : Value} {xs : List X} (h : R.owns E w fp v xs) (hb : ∀ k ∈ fp, k < w.heap.size → w'.heap[k]? = w.heap[k]?) : R.owns E w' fp v xs := by
  obtain ⟨css, fps, h1, h2, rfl, h3, h4⟩ := h
  exact ⟨css, fps, h1, h2, rfl, ownsRow_keep h3 fun k hk => hb k (List.mem_append_left _ (mem_block.2 hk)),
    fun i c f x hc hf hx => F.okeep (h4 i c f x hc hf hx) fun k hk => hb k (List.mem_append_right _ (mem_part hf hk))⟩
theorem Rep.owns.below {R : Rep X} (F : R.Fine) {E : TypeId} {w w' : World} {fp : List Nat} {v : Value} {xs : List X} {B : Nat} (h : R.owns E w fp v xs) (hb : Below B w w') (hB : ∀ k ∈ fp, k < B) : R.owns E w' fp v xs :=
  h.keep F fun k hk _ => hb.block k (hB k hk)
theorem Rep.owns.read {R : Rep X} (F : R.Fine) {E : TypeId} {w : World} {fp : List Nat} {hi : Nat} {v : Value} {xs : List X} (h : R.owns E w fp v xs) (hh : ∀ k ∈ fp, k < hi) : R.reads w hi v xs := by
  obtain ⟨css, fps, h1, h2, rfl, h3, h4⟩ := h
  refine ⟨css, h1, OwnC.read (E := E) (lo := 0) ⟨h3, fun k hk => hh k (List.mem_append_left _ (mem_block.2 hk))⟩, fun i c x hc hx => ?_⟩
  have hi' : i < fps.length := by have := (List.getElem?_eq_some_iff.1 hx).1; omega
  exact F.oread (h4 i c fps[i] x hc (List.getElem?_eq_getElem hi') hx) fun k hk => hh k (List.mem_append_right _ (mem_part (List.getElem?_eq_getElem hi') hk))
/-- Slices as data of one cell. -/
def Rep.slice (E : TypeId) (R : Rep X) : Rep (List X) := ⟨1, fun w hi cs xs => ∃ v, cs = [v] ∧ R.reads w hi v xs, fun w fp cs xs => ∃ v, cs = [v] ∧ R.owns E w fp v xs⟩
theorem RowC.one_cell {s hi m : Nat} {w : World} {v : Value} {cs : List Value} (h : RowC s w hi v m cs) : v.oneCell' = true := by
  obtain ⟨_, a, c, rfl, _⟩ := h
  rfl
theorem Rep.slice_fine {R : Rep X} (F : R.Fine) (E : TypeId) : (Rep.slice E R).Fine where
  len h := by
    obtain ⟨v, rfl, _⟩ := h
    rfl
  one h := by
    obtain ⟨v, rfl, _, _, h2, _⟩ := h
    intro u hu
    rw [List.mem_singleton.1 hu]
    exact h2.one_cell
  keep h hs hb := by
    obtain ⟨v, rfl, h⟩ := h
    exact ⟨v, rfl, h.keep F hs hb⟩
  more h hh := by
    obtain ⟨v, rfl, h⟩ := h
    exact ⟨v, rfl, h.more F hh⟩
  okeep h hb := by
    obtain ⟨v, rfl, h⟩ := h
    exact ⟨v, rfl, h.keep F hb⟩
  olt h := by
    obtain ⟨v, rfl, h⟩ := h
    exact h.lt F
  oread h hh := by
    obtain ⟨v, rfl, h⟩ := h
    exact ⟨v, rfl, h.read F hh⟩
/-- One element of a slice that is read: its cells, as long as what is below a number above its block is kept; and what it reads as. -/
theorem Rep.reads.at {R : Rep X} (F : R.Fine) {w : World} {hi c k : Nat} {a : Option Addr} {xs : List X} {x : X} (h : R.reads w hi (.slice a xs.length c) xs) (hx : xs[k]? = some x) :
    ∃ cs b off, R.read w hi cs x ∧ a = some ⟨b, off, none⟩ ∧ b < hi ∧ b < w.heap.size ∧ ∀ (j : Nat) (u : Value), cs[j]? = some u → ∀ (B : Nat) (w' : World), b < B → Below B w w' → w'.cell? ⟨b, off + k * R.n + j, none⟩ = some u := by
  obtain ⟨css, h1, h2, h3⟩ := h
  have hk : k < xs.length := (List.getElem?_eq_some_iff.1 hx).1
  have hck : css[k]? = some css[k] := List.getElem?_eq_getElem (by omega)
  have hall : ∀ c ∈ css, c.length = R.n := by
    intro c hc
    obtain ⟨i, hi, rfl⟩ := List.getElem_of_mem hc
    exact F.len (h3 i css[i] xs[i] (List.getElem?_eq_getElem hi) (List.getElem?_eq_getElem (by omega)))
  obtain ⟨_, a', c', e, _, _, _, h5⟩ := h2
  injection e with e1 e2 e3
  subst e1
  obtain ⟨b, off, rfl, g1, g2, g3⟩ := h5 (by omega)
  refine ⟨css[k], b, off, h3 k _ x hck hx, rfl, g1, g2, fun j u hu B w' hB hb => (hb.cell (p := ⟨b, _, none⟩) hB).trans ?_⟩
  have hj : j < R.n := by
    rw [← hall _ (List.getElem_mem (show k < css.length by omega))]
    exact (List.getElem?_eq_some_iff.1 hu).1
  have := g3 (k * R.n + j) u ((flatten_at hall hck hj).trans hu)
  rwa [← Nat.add_assoc] at this
end
/-- A slice of integers of the call's own, by the list of its blocks. -/
def ownsI (E : TypeId) (w : World) (fp : List Nat) (v : Value) (xs : List Int) : Prop := fp = v.ownBlock.toList ∧ w.ownsRow 0 E 1 v xs.length (xs.map (Value.int .i64)) ∧ ∀ x ∈ xs, (Lit.int .i64 x).wf = true
section
variable {E : TypeId} {w w' : World} {fp : List Nat} {v : Value} {xs : List Int}
theorem ownsI.keep (h : ownsI E w fp v xs) (hb : ∀ k ∈ fp, k < w.heap.size → w'.heap[k]? = w.heap[k]?) : ownsI E w' fp v xs :=
  ⟨h.1, ownsRow_keep h.2.1 fun k hk => hb k (by rw [h.1]; exact mem_block.2 hk), h.2.2⟩
theorem ownsI.lt (h : ownsI E w fp v xs) : ∀ k ∈ fp, k < w.heap.size := fun k hk => by
  rw [h.1] at hk
  exact (h.2.1.lt k (mem_block.1 hk)).2
theorem ownsI.own {lo hi : Nat} (h : ownsI E w fp v xs) (hh : ∀ k ∈ fp, lo ≤ k ∧ k < hi) : Own E .i64 w lo hi v xs := by
  obtain ⟨rfl, h2, h3⟩ := h
  refine ⟨⟨h2.1, ?_⟩, fun k hk => (hh k (mem_block.2 hk)).2, h3⟩
  rcases h2.2 with hn | ⟨g, cap, cur, rfl, g1, rest⟩
  · exact .inl hn
  · exact .inr ⟨g, cap, cur, rfl, (hh g (mem_block.2 rfl)).1, rest⟩
theorem ownsI.read {hi : Nat} (h : ownsI E w fp v xs) (hh : ∀ k ∈ fp, k < hi) : Row .i64 w hi v xs := (h.own (lo := 0) fun k hk => ⟨Nat.zero_le _, hh k hk⟩).read
theorem Own.ownsI {lo hi : Nat} (h : Own E .i64 w lo hi v xs) : ownsI E w v.ownBlock.toList v xs ∧ ∀ k ∈ v.ownBlock.toList, lo ≤ k ∧ k < hi ∧ k < w.heap.size :=
  ⟨⟨rfl, (Own.wide h (Nat.zero_le lo) (Nat.le_refl hi)).row, h.wf⟩, fun k hk => h.lt k (mem_block.1 hk)⟩
end
end Go.Proofs.YtjfmmingkciapaaGreatDoor
