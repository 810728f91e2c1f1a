/- Some texts in one: Shared, Blk. -/
import Derived.Test.YtmgigjpkpeamjaaGreatRows
import Derived.WalkKit
import Derived.ProofKit
import Derived.OpenShut
import Derived.ShutString
import Derived.ChangeOld
import Derived.Below
/- What a walk is told of a slice of integers that came in, and how a reading tells it. -/
namespace Go.Proofs.YtmgigjpkpeamjaaGreat
open Go.ChangeShapes Go.WideShapes Go.ChangeAt Go.RowKit

theorem ret_i {k : IntKind} {a b : Int} (h : a = b) : Ending.returned (.int k a) = .returned (.int k b) := by rw [h]
theorem ret_b {a b : Bool} (h : a = b) : Ending.returned (.bool a) = .returned (.bool b) := by rw [h]
theorem wf_u8 {x : Int} (h0 : 0 ≤ x) (h1 : x ≤ 255) : (Lit.int .u8 x).wf = true := by
  have e1 : IntKind.u8.min = 0 := rfl
  have e2 : IntKind.u8.max = 255 := rfl
  simp [Lit.wf, e1, e2]
  omega
theorem wf_i64 {x : Int} (h0 : -9223372036854775808 ≤ x) (h1 : x ≤ 9223372036854775807) : (Lit.int .i64 x).wf = true := by
  have e1 : IntKind.i64.min = -9223372036854775808 := rfl
  have e2 : IntKind.i64.max = 9223372036854775807 := rfl
  simp [Lit.wf, e1, e2]
  omega
/-- A slice of integers that came in: nil; or a row of 'cap' cells, the numbers 'zs' (the first 'len' are its elements, the rest its spare room), each fitting its kind. -/
def IsRow (k : IntKind) (w : World) (a : Option Addr) (len cap : Nat) (zs : List Int) : Prop :=
  (a = none ∧ len = 0 ∧ cap = 0 ∧ zs = []) ∨
  ∃ x, a = some x ∧ len ≤ cap ∧ cap ≤ maxLen ∧ zs.length = cap ∧ (∀ i, i < zs.length → w.cell? (x.add i) = some (.int k (zs.getD i 0))) ∧ ∀ n ∈ zs, (Lit.int k n).wf = true
theorem isRow_of {H : Type} {enc : TypeId × Value → H} {P : Program} {w : World} {base : Nat} {fuel : Nat} {t e : TypeId} {k : IntKind} {a : Option Addr} {l c : Nat} {x : DataW H × List MemPlace}
    (ht : P.underlying t = some (.slice e)) (he : P.underlying e = some (.int k)) (hc : P.cellsOf e = 1) (hf : DataW.trod enc P w base (fun _ => true) true fuel t (Value.cells (.slice a l c)).toList = some x) : ∃ zs, IsRow k w a l c zs := by
  rcases open_ints ht he hc hf with ⟨hcs, _⟩ | ⟨x, l, c, zs, hcs, _, hl, hm, hz, _, hcell, hwz⟩
  · simp [Value.cells] at hcs
    obtain ⟨rfl, rfl, rfl⟩ := hcs
    exact ⟨[], .inl ⟨rfl, rfl, rfl, rfl⟩⟩
  · simp [Value.cells] at hcs
    obtain ⟨rfl, rfl, rfl⟩ := hcs
    exact ⟨zs, .inr ⟨_, rfl, hl, hm, by simpa using hz, hcell, hwz⟩⟩
theorem IsRow.lt {w : World} {k : IntKind} {a : Option Addr} {len cap : Nat} {z : List Int} (h : IsRow k w a len cap z) (x : Addr) (hx : a = some x) (hp : 0 < cap) : x.block < w.heap.size := by
  rcases h with ⟨rfl, _⟩ | ⟨y, rfl, _, _, h3, h4, _⟩
  · cases hx
  · injection hx with hx
    subst hx
    have h0 := h4 0 (by omega)
    have hb : (y.add 0).block = y.block := by unfold Addr.add; split <;> rfl
    rw [← hb]
    rcases Nat.lt_or_ge (y.add 0).block w.heap.size with h' | h'
    · exact h'
    · unfold World.cell? at h0
      rw [Array.getElem?_eq_none h'] at h0
      simp at h0
/-- What was there when a walk began stays a row. -/
theorem IsRow.below {w w' : World} {k : IntKind} {a : Option Addr} {len cap : Nat} {z : List Int} (h : IsRow k w a len cap z) (hb : Below w.heap.size w w') : IsRow k w' a len cap z := by
  have hl := h.lt
  rcases h with h | ⟨x, rfl, h1, h2, h3, h4, h5⟩
  · exact .inl h
  · refine .inr ⟨x, rfl, h1, h2, h3, fun i hi => ?_, h5⟩
    have hx : (x.add i).block = x.block := by unfold Addr.add; split <;> rfl
    rw [hb.cell (by rw [hx]; exact hl x rfl (by omega))]
    exact h4 i hi
end Go.Proofs.YtmgigjpkpeamjaaGreat
/- Blocks: one just made, one that is kept, its cells. No condition; any program. -/
namespace Go.Proofs.YtmgigjpkpeamjaaGreat
open Go.ChangeShapes Go.WideShapes Go.ChangeAt Go.RowKit
theorem blk_new (w : World) (T : TypeId) (cs : Array Value) : (w.alloc (.cells cs T)).heap[w.heap.size]? = some (.cells cs T) := by show (w.heap.push _)[w.heap.size]? = _; simp
theorem blk_keep {C f : Nat} {w w' : World} {o : Obj} (h : w.heap[f]? = some o) (hb : Below C w w') (hf : f < C) : w'.heap[f]? = some o := (hb.block f hf).trans h
theorem blk_cell {f : Nat} {w : World} {cs : Array Value} {T : TypeId} (h : w.heap[f]? = some (.cells cs T)) (i : Nat) {v : Value} (hv : cs[i]? = some v) : w.cell? ⟨f, i, none⟩ = some v := by
  simp [World.cell?, h, hv]
theorem blk_frozen {f : Nat} {w : World} {cs : Array Value} {T : TypeId} (h : w.heap[f]? = some (.cells cs T)) (i : Nat) : w.frozen? ⟨f, i, none⟩ = false := by
  simp [World.frozen?, h]
theorem blk_new_at {w : World} {n : Nat} (T : TypeId) (cs : Array Value) (h : w.heap.size = n) : (w.alloc (.cells cs T)).heap[n]? = some (.cells cs T) := by
  subst h
  exact blk_new w T cs
/-- A block made in a statement whose order is open, the world named anew. -/
theorem blk_new_of {w V : World} {T : TypeId} {cs : Array Value} (h : w.alloc (.cells cs T) = V) : V.heap[w.heap.size]? = some (.cells cs T) ∧ w.heap.size < V.heap.size := by
  subst h
  exact ⟨blk_new w T cs, by simp⟩
theorem next_of {W0 w V : World} {o : Obj} (h : w.alloc o = V) (hb : Below W0.heap.size W0 w) : Below W0.heap.size W0 V ∧ W0.heap.size ≤ w.heap.size := by
  subst h
  exact ⟨hb.alloc hb.size o, hb.size⟩
theorem keepG {V U : World} {g : Nat} {o : Obj} (hG : V.heap[g]? = some o ∧ g < V.heap.size) (e : Below V.heap.size V U) : U.heap[g]? = some o := blk_keep hG.1 e hG.2
theorem blk_set {f i : Nat} {w : World} {cs : Array Value} {T : TypeId} (h : w.heap[f]? = some (.cells cs T)) (u : Value) : (w.setCell ⟨f, i, none⟩ u).heap[f]? = some (.cells (cs.setIfInBounds i u) T) := by
  simp [World.setCell, Array.getElem?_modify, h]
theorem cells7 {w : World} {f : Nat} {T : TypeId} {z0 z1 z2 z3 z4 z5 z6 : Value} (h : w.heap[f]? = some (.cells #[z0, z1, z2, z3, z4, z5, z6] T)) :
    (w.cell? ⟨f, 0, none⟩ = some z0 ∧ w.cell? ⟨f, 1, none⟩ = some z1 ∧ w.cell? ⟨f, 2, none⟩ = some z2 ∧ w.cell? ⟨f, 3, none⟩ = some z3 ∧ w.cell? ⟨f, 4, none⟩ = some z4 ∧ w.cell? ⟨f, 5, none⟩ = some z5 ∧ w.cell? ⟨f, 6, none⟩ = some z6) ∧
    (w.frozen? ⟨f, 0, none⟩ = false ∧ w.frozen? ⟨f, 1, none⟩ = false ∧ w.frozen? ⟨f, 2, none⟩ = false ∧ w.frozen? ⟨f, 3, none⟩ = false ∧ w.frozen? ⟨f, 4, none⟩ = false ∧ w.frozen? ⟨f, 5, none⟩ = false ∧ w.frozen? ⟨f, 6, none⟩ = false) :=
  ⟨⟨blk_cell h 0 rfl, blk_cell h 1 rfl, blk_cell h 2 rfl, blk_cell h 3 rfl, blk_cell h 4 rfl, blk_cell h 5 rfl, blk_cell h 6 rfl⟩, ⟨blk_frozen h 0, blk_frozen h 1, blk_frozen h 2, blk_frozen h 3, blk_frozen h 4, blk_frozen h 5, blk_frozen h 6⟩⟩
/-- A struct of seven cells stored into a block of the call's own. -/
theorem store7 {W0 w : World} {f : Nat} {T : TypeId} {z0 z1 z2 z3 z4 z5 z6 : Value} (h : w.heap[f]? = some (.cells #[z0, z1, z2, z3, z4, z5, z6] T)) (hb : Below W0.heap.size W0 w) (hf : W0.heap.size ≤ f) (r0 r1 r2 r3 r4 r5 r6 : Value) :
    (((((((w.setCell ⟨f, 0, none⟩ r0).setCell ⟨f, 1, none⟩ r1).setCell ⟨f, 2, none⟩ r2).setCell ⟨f, 3, none⟩ r3).setCell ⟨f, 4, none⟩ r4).setCell ⟨f, 5, none⟩ r5).setCell ⟨f, 6, none⟩ r6).heap[f]? = some (.cells #[r0, r1, r2, r3, r4, r5, r6] T) ∧
    Below W0.heap.size W0 (((((((w.setCell ⟨f, 0, none⟩ r0).setCell ⟨f, 1, none⟩ r1).setCell ⟨f, 2, none⟩ r2).setCell ⟨f, 3, none⟩ r3).setCell ⟨f, 4, none⟩ r4).setCell ⟨f, 5, none⟩ r5).setCell ⟨f, 6, none⟩ r6) := by
  have h0 : (w.setCell ⟨f, 0, none⟩ r0).heap[f]? = some (.cells #[r0, z1, z2, z3, z4, z5, z6] T) := blk_set h r0
  have h1 : ((w.setCell ⟨f, 0, none⟩ r0).setCell ⟨f, 1, none⟩ r1).heap[f]? = some (.cells #[r0, r1, z2, z3, z4, z5, z6] T) := blk_set h0 r1
  have h2 : (((w.setCell ⟨f, 0, none⟩ r0).setCell ⟨f, 1, none⟩ r1).setCell ⟨f, 2, none⟩ r2).heap[f]? = some (.cells #[r0, r1, r2, z3, z4, z5, z6] T) := blk_set h1 r2
  have h3 : ((((w.setCell ⟨f, 0, none⟩ r0).setCell ⟨f, 1, none⟩ r1).setCell ⟨f, 2, none⟩ r2).setCell ⟨f, 3, none⟩ r3).heap[f]? = some (.cells #[r0, r1, r2, r3, z4, z5, z6] T) := blk_set h2 r3
  have h4 : (((((w.setCell ⟨f, 0, none⟩ r0).setCell ⟨f, 1, none⟩ r1).setCell ⟨f, 2, none⟩ r2).setCell ⟨f, 3, none⟩ r3).setCell ⟨f, 4, none⟩ r4).heap[f]? = some (.cells #[r0, r1, r2, r3, r4, z5, z6] T) := blk_set h3 r4
  have h5 : ((((((w.setCell ⟨f, 0, none⟩ r0).setCell ⟨f, 1, none⟩ r1).setCell ⟨f, 2, none⟩ r2).setCell ⟨f, 3, none⟩ r3).setCell ⟨f, 4, none⟩ r4).setCell ⟨f, 5, none⟩ r5).heap[f]? = some (.cells #[r0, r1, r2, r3, r4, r5, z6] T) := blk_set h4 r5
  have h6 : (((((((w.setCell ⟨f, 0, none⟩ r0).setCell ⟨f, 1, none⟩ r1).setCell ⟨f, 2, none⟩ r2).setCell ⟨f, 3, none⟩ r3).setCell ⟨f, 4, none⟩ r4).setCell ⟨f, 5, none⟩ r5).setCell ⟨f, 6, none⟩ r6).heap[f]? = some (.cells #[r0, r1, r2, r3, r4, r5, r6] T) := blk_set h5 r6
  exact ⟨h6, ((((((hb.setCell (p := ⟨f, 0, none⟩) hf r0).setCell (p := ⟨f, 1, none⟩) hf r1).setCell (p := ⟨f, 2, none⟩) hf r2).setCell (p := ⟨f, 3, none⟩) hf r3).setCell (p := ⟨f, 4, none⟩) hf r4).setCell (p := ⟨f, 5, none⟩) hf r5).setCell (p := ⟨f, 6, none⟩) hf r6⟩
theorem size_alloc (w : World) (o : Obj) : (w.alloc o).heap.size = w.heap.size + 1 := by simp
theorem blk_lt {w : World} {f : Nat} {o : Obj} (h : w.heap[f]? = some o) : f < w.heap.size := by
  rcases Nat.lt_or_ge f w.heap.size with hl | hg
  · exact hl
  · rw [Array.getElem?_eq_none hg] at h
    cases h
end Go.Proofs.YtmgigjpkpeamjaaGreat
