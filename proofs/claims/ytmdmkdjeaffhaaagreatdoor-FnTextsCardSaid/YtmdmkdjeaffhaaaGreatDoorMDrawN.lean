/- Some texts in one: Loc, DrawN. -/
import Derived.Test.YtmdmkdjeaffhaaaGreatDoorMZCond
import Derived.Test.YtmdmkdjeaffhaaaGreatDoorDraw
import Derived.Handy
/- A struct of the call's own in a block of its own, while draws go on beside it: what it holds, what is kept. No condition; any program. -/
namespace Go.Proofs.YtmdmkdjeaffhaaaGreatDoor
open Go.ChangeShapes Go.WideShapes Go.ChangeAt Go.RowKit
set_option linter.unusedVariables false

/-- Block f, new since w0, holds the cells cs; all else that was there in w0 is as it was, but for block B. -/
structure Loc (w0 : World) (B f : Nat) (T : TypeId) (cs : Array Value) (w : World) : Prop where
  only : Only B w0 w
  new : w0.heap.size ≤ f
  ne : f ≠ B
  blk : w.heap[f]? = some (.cells cs T)
section
variable {w0 w w' : World} {B f : Nat} {T : TypeId} {cs : Array Value}
theorem Loc.lt (h : Loc w0 B f T cs w) : f < w.heap.size := by
  rcases Nat.lt_or_ge f w.heap.size with hl | hg
  · exact hl
  · have hb := h.blk
    rw [Array.getElem?_eq_none hg] at hb
    cases hb
theorem Loc.cell (h : Loc w0 B f T cs w) (i : Nat) {v : Value} (hv : cs[i]? = some v) : w.cell? ⟨f, i, none⟩ = some v := by
  have hb := h.blk
  simp [World.cell?, hb, hv]
theorem Loc.frozen (h : Loc w0 B f T cs w) (i : Nat) : w.frozen? ⟨f, i, none⟩ = false := by
  have hb := h.blk
  simp [World.frozen?, hb]
theorem Loc.call (h : Loc w0 B f T cs w) (ho : Only B w w') : Loc w0 B f T cs w' :=
  ⟨h.only.trans ho, h.new, h.ne, (ho.block f h.lt h.ne).trans h.blk⟩
theorem Loc.drew (h : Loc w0 B f T cs w) : Loc w0 B f T cs w.drew := ⟨h.only.drew, h.new, h.ne, h.blk⟩
theorem Loc.alloc (h : Loc w0 B f T cs w) (o : Obj) : Loc w0 B f T cs (w.alloc o) := h.call ((Only.refl _ _).alloc o)
theorem Only.setNew (h : Only B w0 w) {p : Addr} (hp : w0.heap.size ≤ p.block) (u : Value) : Only B w0 (w.setCell p u) :=
  ⟨h.os, h.tape, h.output, by simpa [World.setCell] using h.size, fun k hk hn => (Below.heap_setCell w p u k (by omega)).trans (h.block k hk hn)⟩
theorem Loc.set (h : Loc w0 B f T cs w) (i : Nat) (u : Value) : Loc w0 B f T (cs.setIfInBounds i u) (w.setCell ⟨f, i, none⟩ u) := by
  refine ⟨h.only.setNew h.new u, h.new, h.ne, ?_⟩
  have hb := h.blk
  simp [World.setCell, Array.getElem?_modify, hb]
/-- A store into another block of the call's own. -/
theorem Loc.setFar (h : Loc w0 B f T cs w) {g : Nat} (hg : w0.heap.size ≤ g) (hne : f ≠ g) (i : Nat) (u : Value) : Loc w0 B f T cs (w.setCell ⟨g, i, none⟩ u) :=
  ⟨h.only.setNew hg u, h.new, h.ne, (Below.heap_setCell w ⟨g, i, none⟩ u f hne).trans h.blk⟩
theorem Loc.mk_new (h : Only B w0 w) (far : B < w.heap.size) : Loc w0 B w.heap.size T cs (w.alloc (.cells cs T)) :=
  ⟨h.alloc _, h.size, Nat.ne_of_gt far, by show (w.heap.push _)[w.heap.size]? = _; simp⟩
/-- What is below a world's size reads behind a call as before: two rules for the walk. -/
theorem bcell {W w : World} (hb : Below W.heap.size W w) : ∀ b o, b < W.heap.size → w.cell? ⟨b, o, none⟩ = W.cell? ⟨b, o, none⟩ := fun b o h => hb.cell (p := ⟨b, o, none⟩) h
/-- A result's block, laid ahead of the cursor. -/
theorem Loc.early {W : World} (hw : Below w0.heap.size w0 W) (hb : Below W.heap.size W w) (hk : W.heap[f]? = some (.cells cs T)) (hf : w0.heap.size ≤ f) (hl : f < W.heap.size) (hB : W.heap.size ≤ B) : Loc w0 B f T cs w :=
  ⟨Below.only (hw.trans (hb.mono hw.size)), hf, by omega, blk_keep hk hb hl⟩
/-- The cursor is kept by all that turns nothing below a number above it. -/
theorem Cur.keep {C : Nat} {a : Option Addr} {len cap : Nat} {z : List Int} (h : Cur w B a len cap z) (hC : B < C) (hb : Below C w w') : Cur w' B a len cap z := by
  have hc : ∀ o, w'.cell? ⟨B, o, none⟩ = w.cell? ⟨B, o, none⟩ := fun o => hb.cell (p := ⟨B, o, none⟩) hC
  obtain ⟨i, hi, hci⟩ := h.ci
  obtain ⟨g, hg⟩ := h.ch
  refine ⟨Nat.lt_of_lt_of_le h.lt hb.size, ?_, h.old, by rw [hc]; exact h.cb, ⟨i, hi, by rw [hc]; exact hci⟩, ⟨g, by rw [hc]; exact hg⟩, fun o => by rw [hb.frozen (p := ⟨B, o, none⟩) hC]; exact h.fr o⟩
  rcases h.row with h0 | ⟨x, rfl, h1, h2, h3, h4, h5⟩
  · exact .inl h0
  · refine .inr ⟨x, rfl, h1, h2, h3, fun i hi => ?_, h5⟩
    have hx : (x.add i).block = x.block := by unfold Addr.add; split <;> rfl
    rw [hb.cell (by rw [hx]; have := h.old x rfl (by omega); omega)]
    exact h4 i hi
theorem Cur.setFar {a : Option Addr} {len cap : Nat} {z : List Int} (h : Cur w B a len cap z) {g : Nat} (hg : B < g) (i : Nat) (u : Value) : Cur (w.setCell ⟨g, i, none⟩ u) B a len cap z :=
  h.keep (C := g) hg ((Below.refl _ _).setCell (p := ⟨g, i, none⟩) (Nat.le_refl _) u)
/-- A store into one of two blocks of the call's own, the world named anew. -/
theorem store_step {T' : TypeId} {cs' : Array Value} {R : Nat} {a : Option Addr} {len cap : Nat} {z : List Int} (lf : Loc w0 B f T cs w) (lr : Loc w0 B R T' cs' w) (hc : Cur w B a len cap z) (hB : B < w0.heap.size) (hne : R ≠ f) (i : Nat) (u : Value) :
    ∃ W, W = w.setCell ⟨f, i, none⟩ u ∧ Loc w0 B f T (cs.setIfInBounds i u) W ∧ Loc w0 B R T' cs' W ∧ Cur W B a len cap z :=
  ⟨_, rfl, lf.set i u, lr.setFar lf.new hne i u, hc.setFar (Nat.lt_of_lt_of_le hB lf.new) i u⟩
theorem call_step {T' : TypeId} {cs' : Array Value} {R : Nat} (lf : Loc w0 B f T cs w) (lr : Loc w0 B R T' cs' w) (ho : Only B w w') : Loc w0 B f T cs w' ∧ Loc w0 B R T' cs' w' := ⟨lf.call ho, lr.call ho⟩
theorem Loc.cells6 {v0 v1 v2 v3 v4 v5 : Value} (h : Loc w0 B f T #[v0, v1, v2, v3, v4, v5] w) : w.cell? ⟨f, 0, none⟩ = some v0 ∧ w.cell? ⟨f, 1, none⟩ = some v1 ∧ w.cell? ⟨f, 2, none⟩ = some v2 ∧ w.cell? ⟨f, 3, none⟩ = some v3 ∧ w.cell? ⟨f, 4, none⟩ = some v4 ∧ w.cell? ⟨f, 5, none⟩ = some v5 :=
  ⟨h.cell 0 rfl, h.cell 1 rfl, h.cell 2 rfl, h.cell 3 rfl, h.cell 4 rfl, h.cell 5 rfl⟩
theorem Loc.twelve {g : Nat} {T' : TypeId} {v0 v1 v2 v3 v4 v5 u0 u1 u2 u3 u4 u5 : Value} (h : Loc w0 B f T #[v0, v1, v2, v3, v4, v5] w) (k : Loc w0 B g T' #[u0, u1, u2, u3, u4, u5] w) :
    w.cell? ⟨f, 0, none⟩ = some v0 ∧ w.cell? ⟨f, 1, none⟩ = some v1 ∧ w.cell? ⟨f, 2, none⟩ = some v2 ∧ w.cell? ⟨f, 3, none⟩ = some v3 ∧ w.cell? ⟨f, 4, none⟩ = some v4 ∧ w.cell? ⟨f, 5, none⟩ = some v5 ∧
    w.cell? ⟨g, 0, none⟩ = some u0 ∧ w.cell? ⟨g, 1, none⟩ = some u1 ∧ w.cell? ⟨g, 2, none⟩ = some u2 ∧ w.cell? ⟨g, 3, none⟩ = some u3 ∧ w.cell? ⟨g, 4, none⟩ = some u4 ∧ w.cell? ⟨g, 5, none⟩ = some u5 :=
  ⟨h.cell 0 rfl, h.cell 1 rfl, h.cell 2 rfl, h.cell 3 rfl, h.cell 4 rfl, h.cell 5 rfl, k.cell 0 rfl, k.cell 1 rfl, k.cell 2 rfl, k.cell 3 rfl, k.cell 4 rfl, k.cell 5 rfl⟩
end
end Go.Proofs.YtmdmkdjeaffhaaaGreatDoor
/- The draws of numbers: each returns some int, and writes into its own cursor alone. -/
namespace Go.Proofs.YtmdmkdjeaffhaaaGreatDoor
open Go.ChangeShapes Go.WideShapes Go.ChangeAt Go.RowKit
set_option linter.unusedVariables false

end Go.Proofs.YtmdmkdjeaffhaaaGreatDoor
