/- Some texts in one: Blk, IntSl, CellI. -/
import Derived.Test.YtmgigjpkpeamjaaMFlat
import Derived.WalkKit
import Derived.Test.YtmgigjpkpeamjaaRow
import Derived.ProofKit
import Derived.OpenShut
import Derived.WalkLawsBesides
import Derived.WalkSpells
import Derived.LoopTactic
import Derived.Deep.QuietTactic
import Derived.BigQuiet
import Derived.Outline
import Derived.Test.YtmgigjpkpeamjaaCell2
import Derived.Test.YtmgigjpkpeamjaaInts
/- Blocks: one just made, one that is kept, its cells. No condition; any program. -/
namespace Go.Proofs.Ytmgigjpkpeamjaa
open Go.ChangeShapes Go.WideShapes Go.ChangeAt Go.RowKit
theorem blk_new (w : World) (T : TypeId) (cs : Array Value) : (w.alloc (.cells cs T)).heap[w.heap.size]? = some (.cells cs T) := by show (w.heap.push _)[w.heap.size]? = _; simp
theorem blk_keep {C f : Nat} {w w' : World} {o : Obj} (h : w.heap[f]? = some o) (hb : Below C w w') (hf : f < C) : w'.heap[f]? = some o := (hb.block f hf).trans h
theorem blk_cell {f : Nat} {w : World} {cs : Array Value} {T : TypeId} (h : w.heap[f]? = some (.cells cs T)) (i : Nat) {v : Value} (hv : cs[i]? = some v) : w.cell? ⟨f, i, none⟩ = some v := by
  simp [World.cell?, h, hv]
theorem blk_frozen {f : Nat} {w : World} {cs : Array Value} {T : TypeId} (h : w.heap[f]? = some (.cells cs T)) (i : Nat) : w.frozen? ⟨f, i, none⟩ = false := by
  simp [World.frozen?, h]
theorem blk_new_at {w : World} {n : Nat} (T : TypeId) (cs : Array Value) (h : w.heap.size = n) : (w.alloc (.cells cs T)).heap[n]? = some (.cells cs T) := by
  subst h
  exact blk_new w T cs
/-- A block made in a statement whose order is open, the world named anew. -/
theorem blk_new_of {w V : World} {T : TypeId} {cs : Array Value} (h : w.alloc (.cells cs T) = V) : V.heap[w.heap.size]? = some (.cells cs T) ∧ w.heap.size < V.heap.size := by
  subst h
  exact ⟨blk_new w T cs, by simp⟩
theorem next_of {W0 w V : World} {o : Obj} (h : w.alloc o = V) (hb : Below W0.heap.size W0 w) : Below W0.heap.size W0 V ∧ W0.heap.size ≤ w.heap.size := by
  subst h
  exact ⟨hb.alloc hb.size o, hb.size⟩
theorem keepG {V U : World} {g : Nat} {o : Obj} (hG : V.heap[g]? = some o ∧ g < V.heap.size) (e : Below V.heap.size V U) : U.heap[g]? = some o := blk_keep hG.1 e hG.2
theorem blk_set {f i : Nat} {w : World} {cs : Array Value} {T : TypeId} (h : w.heap[f]? = some (.cells cs T)) (u : Value) : (w.setCell ⟨f, i, none⟩ u).heap[f]? = some (.cells (cs.setIfInBounds i u) T) := by
  simp [World.setCell, Array.getElem?_modify, h]
theorem cells7 {w : World} {f : Nat} {T : TypeId} {z0 z1 z2 z3 z4 z5 z6 : Value} (h : w.heap[f]? = some (.cells #[z0, z1, z2, z3, z4, z5, z6] T)) :
    (w.cell? ⟨f, 0, none⟩ = some z0 ∧ w.cell? ⟨f, 1, none⟩ = some z1 ∧ w.cell? ⟨f, 2, none⟩ = some z2 ∧ w.cell? ⟨f, 3, none⟩ = some z3 ∧ w.cell? ⟨f, 4, none⟩ = some z4 ∧ w.cell? ⟨f, 5, none⟩ = some z5 ∧ w.cell? ⟨f, 6, none⟩ = some z6) ∧
    (w.frozen? ⟨f, 0, none⟩ = false ∧ w.frozen? ⟨f, 1, none⟩ = false ∧ w.frozen? ⟨f, 2, none⟩ = false ∧ w.frozen? ⟨f, 3, none⟩ = false ∧ w.frozen? ⟨f, 4, none⟩ = false ∧ w.frozen? ⟨f, 5, none⟩ = false ∧ w.frozen? ⟨f, 6, none⟩ = false) :=
  ⟨⟨blk_cell h 0 rfl, blk_cell h 1 rfl, blk_cell h 2 rfl, blk_cell h 3 rfl, blk_cell h 4 rfl, blk_cell h 5 rfl, blk_cell h 6 rfl⟩, ⟨blk_frozen h 0, blk_frozen h 1, blk_frozen h 2, blk_frozen h 3, blk_frozen h 4, blk_frozen h 5, blk_frozen h 6⟩⟩
/-- A struct of seven cells stored into a block of the call's own. -/
theorem store7 {W0 w : World} {f : Nat} {T : TypeId} {z0 z1 z2 z3 z4 z5 z6 : Value} (h : w.heap[f]? = some (.cells #[z0, z1, z2, z3, z4, z5, z6] T)) (hb : Below W0.heap.size W0 w) (hf : W0.heap.size ≤ f) (r0 r1 r2 r3 r4 r5 r6 : Value) :
    (((((((w.setCell ⟨f, 0, none⟩ r0).setCell ⟨f, 1, none⟩ r1).setCell ⟨f, 2, none⟩ r2).setCell ⟨f, 3, none⟩ r3).setCell ⟨f, 4, none⟩ r4).setCell ⟨f, 5, none⟩ r5).setCell ⟨f, 6, none⟩ r6).heap[f]? = some (.cells #[r0, r1, r2, r3, r4, r5, r6] T) ∧
    Below W0.heap.size W0 (((((((w.setCell ⟨f, 0, none⟩ r0).setCell ⟨f, 1, none⟩ r1).setCell ⟨f, 2, none⟩ r2).setCell ⟨f, 3, none⟩ r3).setCell ⟨f, 4, none⟩ r4).setCell ⟨f, 5, none⟩ r5).setCell ⟨f, 6, none⟩ r6) := by
  have h0 : (w.setCell ⟨f, 0, none⟩ r0).heap[f]? = some (.cells #[r0, z1, z2, z3, z4, z5, z6] T) := blk_set h r0
  have h1 : ((w.setCell ⟨f, 0, none⟩ r0).setCell ⟨f, 1, none⟩ r1).heap[f]? = some (.cells #[r0, r1, z2, z3, z4, z5, z6] T) := blk_set h0 r1
  have h2 : (((w.setCell ⟨f, 0, none⟩ r0).setCell ⟨f, 1, none⟩ r1).setCell ⟨f, 2, none⟩ r2).heap[f]? = some (.cells #[r0, r1, r2, z3, z4, z5, z6] T) := blk_set h1 r2
  have h3 : ((((w.setCell ⟨f, 0, none⟩ r0).setCell ⟨f, 1, none⟩ r1).setCell ⟨f, 2, none⟩ r2).setCell ⟨f, 3, none⟩ r3).heap[f]? = some (.cells #[r0, r1, r2, r3, z4, z5, z6] T) := blk_set h2 r3
  have h4 : (((((w.setCell ⟨f, 0, none⟩ r0).setCell ⟨f, 1, none⟩ r1).setCell ⟨f, 2, none⟩ r2).setCell ⟨f, 3, none⟩ r3).setCell ⟨f, 4, none⟩ r4).heap[f]? = some (.cells #[r0, r1, r2, r3, r4, z5, z6] T) := blk_set h3 r4
  have h5 : ((((((w.setCell ⟨f, 0, none⟩ r0).setCell ⟨f, 1, none⟩ r1).setCell ⟨f, 2, none⟩ r2).setCell ⟨f, 3, none⟩ r3).setCell ⟨f, 4, none⟩ r4).setCell ⟨f, 5, none⟩ r5).heap[f]? = some (.cells #[r0, r1, r2, r3, r4, r5, z6] T) := blk_set h4 r5
  have h6 : (((((((w.setCell ⟨f, 0, none⟩ r0).setCell ⟨f, 1, none⟩ r1).setCell ⟨f, 2, none⟩ r2).setCell ⟨f, 3, none⟩ r3).setCell ⟨f, 4, none⟩ r4).setCell ⟨f, 5, none⟩ r5).setCell ⟨f, 6, none⟩ r6).heap[f]? = some (.cells #[r0, r1, r2, r3, r4, r5, r6] T) := blk_set h5 r6
  exact ⟨h6, ((((((hb.setCell (p := ⟨f, 0, none⟩) hf r0).setCell (p := ⟨f, 1, none⟩) hf r1).setCell (p := ⟨f, 2, none⟩) hf r2).setCell (p := ⟨f, 3, none⟩) hf r3).setCell (p := ⟨f, 4, none⟩) hf r4).setCell (p := ⟨f, 5, none⟩) hf r5).setCell (p := ⟨f, 6, none⟩) hf r6⟩
theorem size_alloc (w : World) (o : Obj) : (w.alloc o).heap.size = w.heap.size + 1 := by simp
theorem blk_lt {w : World} {f : Nat} {o : Obj} (h : w.heap[f]? = some o) : f < w.heap.size := by
  rcases Nat.lt_or_ge f w.heap.size with hl | hg
  · exact hl
  · rw [Array.getElem?_eq_none hg] at h
    cases h
end Go.Proofs.Ytmgigjpkpeamjaa
/- The helpers of the exact statements over slices of ints: a copy, a comparison, marks, and whether the marks are still there. -/
namespace Go.Proofs.Ytmgigjpkpeamjaa
open Go.ChangeShapes Go.WideShapes Go.ChangeAt Go.RowKit
set_option linter.unusedVariables false

theorem infoIntS : (Try.prog.info? 3).map (fun i => (i.zero, i.size, i.bytes)) = some (some (.int .i64 0), 1, 8) := by kernel_rfl

/-- What the helper that marks writes. -/
def marksIntS (k : Int) (n : Nat) : List Int := (List.range n).map fun (i : Nat) => k + (i : Int)
theorem marksIntS_length (k : Int) (n : Nat) : (marksIntS k n).length = n := by simp [marksIntS]
theorem marksIntS_at (k : Int) (n i : Nat) (h : i < (marksIntS k n).length) : (marksIntS k n)[i] = k + (i : Int) := by simp [marksIntS]
theorem marksIntS_wf (k : Int) (n : Nat) (hk0 : 0 ≤ k) (hk1 : k ≤ 1099511627776000) (hn : n ≤ 1099511627776) : ∀ x ∈ marksIntS k n, (Lit.int .i64 x).wf = true := by
  intro x hx
  simp only [marksIntS, List.mem_map] at hx
  obtain ⟨i, hi, rfl⟩ := hx
  have := List.mem_range.1 hi
  exact wf_i64 (by omega) (by omega)

end Go.Proofs.Ytmgigjpkpeamjaa
/- Slices of integers as cells: what reads so, what is owned so; the laws' own helpers over them. No condition but the bounds of what came in. -/
namespace Go.Proofs.Ytmgigjpkpeamjaa
open Go.ChangeShapes Go.WideShapes Go.ChangeAt Go.RowKit
set_option linter.unusedVariables false

def numC (x : Int) : List Cell := [.num x]
theorem numC_len (x : Int) : (numC x).length = 1 := rfl
theorem flat_num (xs : List Int) : xs.flatMap numC = xs.map Cell.num := by
  induction xs with
  | nil => rfl
  | cons x xs ih => rw [List.flatMap_cons, ih]; rfl
theorem sz_nums : ∀ xs : List Int, szE (xs.flatMap numC) = 0
  | [] => by rw [List.flatMap_nil, szE_nil]
  | x :: xs => by rw [List.flatMap_cons, szE_append, sz_nums xs]; show szE [.num x] + 0 = 0; rw [szE_cons, szE_nil, szC_num]; rfl
theorem ct_nums : ∀ xs : List Int, ctE (xs.flatMap numC) = xs.length
  | [] => by rw [List.flatMap_nil, ctE_nil]; rfl
  | x :: xs => by rw [List.flatMap_cons, ctE_append, ct_nums xs]; show ctE [.num x] + _ = _; rw [ctE_cons, ctE_nil, ctC_num, List.length_cons]; omega
theorem mk_nums : ∀ (xs : List Int) (k : Int), mkE (xs.flatMap numC) k = (marksIntS k xs.length).map Cell.num
  | [], k => by rw [List.flatMap_nil, mkE_nil]; rfl
  | x :: xs, k => by
    rw [List.flatMap_cons, mkE_append, mk_nums xs]
    show mkE [.num x] k ++ _ = _
    rw [mkE_cons, mkE_nil, mkC_num]
    show Cell.num k :: List.map Cell.num (marksIntS (k + ctE [.num x]) xs.length) = _
    rw [ctE_cons, ctE_nil, ctC_num]
    apply List.ext_getElem
    · simp [marksIntS_length]
    · intro i h1 h2
      cases i with
      | zero => simp [marksIntS_at]
      | succ i =>
        simp only [List.getElem_cons_succ, List.getElem_map, marksIntS_at, Cell.num.injEq]
        omega
theorem rd_row {w : World} {hi : Nat} {v : Value} {xs : List Int} (h : rdC w hi (.row xs.length (xs.map Cell.num)) v) : Row .i64 w hi v xs := by
  unfold rdC at h
  obtain ⟨a, c, rfl, h1, h2, h3, h4, h5⟩ := h
  refine ⟨⟨a, c, rfl, h1, h2, h3, fun hp => ?_⟩, fun x hx => ?_⟩
  · obtain ⟨b, off, rfl, g1, g2, g3⟩ := h5 hp
    refine ⟨b, off, rfl, g1, g2, fun i hi => ?_⟩
    obtain ⟨u, h6, h7⟩ := rdE_at g3 (show (xs.map Cell.num)[i]? = some (.num xs[i]) by rw [List.getElem?_map, List.getElem?_eq_getElem hi]; rfl)
    rw [h6, (rdC_num.1 h7).1]
    simp [List.getD, hi]
  · obtain ⟨i, hi, rfl⟩ := List.getElem_of_mem hx
    obtain ⟨b, off, rfl, g1, g2, g3⟩ := h5 (by omega)
    obtain ⟨u, h6, h7⟩ := rdE_at g3 (show (xs.map Cell.num)[i]? = some (.num xs[i]) by rw [List.getElem?_map, List.getElem?_eq_getElem hi]; rfl)
    exact (rdC_num.1 h7).2
theorem row_rd {w : World} {hi : Nat} {v : Value} {xs : List Int} (h : Row .i64 w hi v xs) : rdC w hi (.row xs.length (xs.map Cell.num)) v := by
  obtain ⟨⟨a, c, rfl, h1, h2, h3, h4⟩, h5⟩ := h
  unfold rdC
  refine ⟨a, c, rfl, h1, h2, h3, fun e => by rw [List.length_eq_zero_iff.mp e]; rfl, fun hp => ?_⟩
  obtain ⟨b, off, rfl, g1, g2, g3⟩ := h4 hp
  refine ⟨b, off, rfl, g1, g2, rdE_of fun j c hj => ?_⟩
  rw [List.getElem?_map] at hj
  cases hx : xs[j]? with
  | none => rw [hx] at hj; cases hj
  | some x =>
    rw [hx] at hj
    obtain rfl := Option.some.inj hj
    obtain ⟨hl, e⟩ := List.getElem?_eq_some_iff.1 hx
    refine ⟨_, g3 j hl, rdC_num.2 ⟨?_, h5 x (List.mem_of_getElem? hx)⟩⟩
    simp [List.getD, hx]
theorem ints_row {w : World} {hi : Nat} {v : Value} {xs : List Int} : rdC w hi (rowF numC xs) v ↔ Row .i64 w hi v xs := by
  show rdC w hi (.row xs.length (xs.flatMap numC)) v ↔ _
  rw [flat_num]
  exact ⟨rd_row, row_rd⟩
theorem owE_nums {w : World} : ∀ {xs : List Int}, (∀ x ∈ xs, (Lit.int .i64 x).wf = true) → owE w (xs.map Cell.num) (xs.map (Value.int .i64)) []
  | [], _ => owE_nil.2 ⟨rfl, rfl⟩
  | x :: xs, h => owE_cons.2 ⟨_, _, [], [], rfl, rfl, owC_num.2 ⟨rfl, h x List.mem_cons_self, rfl⟩, owE_nums fun y hy => h y (List.mem_cons_of_mem _ hy)⟩
/-- A slice of integers of the call's own, as cells. -/
theorem own_ints {E : TypeId} {w : World} {lo hi : Nat} {v : Value} {xs : List Int} (h : Own E .i64 w lo hi v xs) : ∃ fp, owC w (rowF numC xs) v fp ∧ fp.Nodup ∧ ∀ k ∈ fp, lo ≤ k ∧ k < hi := by
  have hl := h.lt
  show ∃ fp, owC w (.row xs.length (xs.flatMap numC)) v fp ∧ _
  rw [flat_num]
  rcases h.row.2 with ⟨rfl, h0⟩ | ⟨g, cap, cur, rfl, g1, g2, g3, g4, g5, g6⟩
  · have hx : xs = [] := List.length_eq_zero_iff.mp h0
    subst hx
    refine ⟨[], ?_, List.nodup_nil, fun k hk => by cases hk⟩
    unfold owC
    exact .inl ⟨rfl, rfl, rfl, rfl⟩
  · refine ⟨[g], ?_, by simp, fun k hk => ?_⟩
    · unfold owC
      refine .inr ⟨g, cap, cur, E, [], rfl, g3, g4, g2, rfl, fun e => by rw [List.length_eq_zero_iff.mp e]; rfl, ?_⟩
      rw [List.length_map, ← Nat.mul_one xs.length, g6]
      exact owE_nums h.wf
    · obtain rfl := List.mem_singleton.1 hk
      have h9 := hl k rfl
      exact ⟨h9.1, h9.2.1⟩
theorem nums_thin (xs : List Int) : ctE (xs.flatMap numC) ≤ 64 * szC (rowF numC xs) := by
  rw [szC_row, ct_nums, sz_nums]
  omega
end Go.Proofs.Ytmgigjpkpeamjaa
