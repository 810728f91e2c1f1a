/- Some texts in one: Blk, Ints, ZCond. -/
import Derived.Test.YtmdmkdjeaffhaaaGreatDoorShared
import Derived.WalkKit
import Derived.Test.YtmdmkdjeaffhaaaGreatDoorRows
import Derived.ProofKit
import Derived.OpenShut
import Derived.WalkLawsBesides
import Derived.WalkSpells
import Derived.LoopTactic
import Derived.Lib.Hide
import Derived.Test.YtmdmkdjeaffhaaaGreatDoorCell2
import Derived.Deep.RegionHeld3
import Derived.BigQuiet
import Derived.Deep.QuietTactic
import Derived.Deep.DeepCutAuto
import Derived.Outline
import Derived.Handy
import Derived.Below
import Derived.Deep.Cut
/- Blocks: one just made, one that is kept, its cells. No condition; any program. -/
namespace Go.Proofs.YtmdmkdjeaffhaaaGreatDoor
open Go.ChangeShapes Go.WideShapes Go.ChangeAt Go.RowKit
theorem blk_new (w : World) (T : TypeId) (cs : Array Value) : (w.alloc (.cells cs T)).heap[w.heap.size]? = some (.cells cs T) := by show (w.heap.push _)[w.heap.size]? = _; simp
theorem blk_keep {C f : Nat} {w w' : World} {o : Obj} (h : w.heap[f]? = some o) (hb : Below C w w') (hf : f < C) : w'.heap[f]? = some o := (hb.block f hf).trans h
theorem blk_cell {f : Nat} {w : World} {cs : Array Value} {T : TypeId} (h : w.heap[f]? = some (.cells cs T)) (i : Nat) {v : Value} (hv : cs[i]? = some v) : w.cell? ⟨f, i, none⟩ = some v := by
  simp [World.cell?, h, hv]
theorem blk_frozen {f : Nat} {w : World} {cs : Array Value} {T : TypeId} (h : w.heap[f]? = some (.cells cs T)) (i : Nat) : w.frozen? ⟨f, i, none⟩ = false := by
  simp [World.frozen?, h]
theorem blk_new_at {w : World} {n : Nat} (T : TypeId) (cs : Array Value) (h : w.heap.size = n) : (w.alloc (.cells cs T)).heap[n]? = some (.cells cs T) := by
  subst h
  exact blk_new w T cs
/-- A block made in a statement whose order is open, the world named anew. -/
theorem blk_new_of {w V : World} {T : TypeId} {cs : Array Value} (h : w.alloc (.cells cs T) = V) : V.heap[w.heap.size]? = some (.cells cs T) ∧ w.heap.size < V.heap.size := by
  subst h
  exact ⟨blk_new w T cs, by simp⟩
theorem next_of {W0 w V : World} {o : Obj} (h : w.alloc o = V) (hb : Below W0.heap.size W0 w) : Below W0.heap.size W0 V ∧ W0.heap.size ≤ w.heap.size := by
  subst h
  exact ⟨hb.alloc hb.size o, hb.size⟩
theorem keepG {V U : World} {g : Nat} {o : Obj} (hG : V.heap[g]? = some o ∧ g < V.heap.size) (e : Below V.heap.size V U) : U.heap[g]? = some o := blk_keep hG.1 e hG.2
theorem blk_set {f i : Nat} {w : World} {cs : Array Value} {T : TypeId} (h : w.heap[f]? = some (.cells cs T)) (u : Value) : (w.setCell ⟨f, i, none⟩ u).heap[f]? = some (.cells (cs.setIfInBounds i u) T) := by
  simp [World.setCell, Array.getElem?_modify, h]
theorem cells7 {w : World} {f : Nat} {T : TypeId} {z0 z1 z2 z3 z4 z5 z6 : Value} (h : w.heap[f]? = some (.cells #[z0, z1, z2, z3, z4, z5, z6] T)) :
    (w.cell? ⟨f, 0, none⟩ = some z0 ∧ w.cell? ⟨f, 1, none⟩ = some z1 ∧ w.cell? ⟨f, 2, none⟩ = some z2 ∧ w.cell? ⟨f, 3, none⟩ = some z3 ∧ w.cell? ⟨f, 4, none⟩ = some z4 ∧ w.cell? ⟨f, 5, none⟩ = some z5 ∧ w.cell? ⟨f, 6, none⟩ = some z6) ∧
    (w.frozen? ⟨f, 0, none⟩ = false ∧ w.frozen? ⟨f, 1, none⟩ = false ∧ w.frozen? ⟨f, 2, none⟩ = false ∧ w.frozen? ⟨f, 3, none⟩ = false ∧ w.frozen? ⟨f, 4, none⟩ = false ∧ w.frozen? ⟨f, 5, none⟩ = false ∧ w.frozen? ⟨f, 6, none⟩ = false) :=
  ⟨⟨blk_cell h 0 rfl, blk_cell h 1 rfl, blk_cell h 2 rfl, blk_cell h 3 rfl, blk_cell h 4 rfl, blk_cell h 5 rfl, blk_cell h 6 rfl⟩, ⟨blk_frozen h 0, blk_frozen h 1, blk_frozen h 2, blk_frozen h 3, blk_frozen h 4, blk_frozen h 5, blk_frozen h 6⟩⟩
/-- A struct of seven cells stored into a block of the call's own. -/
theorem store7 {W0 w : World} {f : Nat} {T : TypeId} {z0 z1 z2 z3 z4 z5 z6 : Value} (h : w.heap[f]? = some (.cells #[z0, z1, z2, z3, z4, z5, z6] T)) (hb : Below W0.heap.size W0 w) (hf : W0.heap.size ≤ f) (r0 r1 r2 r3 r4 r5 r6 : Value) :
    (((((((w.setCell ⟨f, 0, none⟩ r0).setCell ⟨f, 1, none⟩ r1).setCell ⟨f, 2, none⟩ r2).setCell ⟨f, 3, none⟩ r3).setCell ⟨f, 4, none⟩ r4).setCell ⟨f, 5, none⟩ r5).setCell ⟨f, 6, none⟩ r6).heap[f]? = some (.cells #[r0, r1, r2, r3, r4, r5, r6] T) ∧
    Below W0.heap.size W0 (((((((w.setCell ⟨f, 0, none⟩ r0).setCell ⟨f, 1, none⟩ r1).setCell ⟨f, 2, none⟩ r2).setCell ⟨f, 3, none⟩ r3).setCell ⟨f, 4, none⟩ r4).setCell ⟨f, 5, none⟩ r5).setCell ⟨f, 6, none⟩ r6) := by
  have h0 : (w.setCell ⟨f, 0, none⟩ r0).heap[f]? = some (.cells #[r0, z1, z2, z3, z4, z5, z6] T) := blk_set h r0
  have h1 : ((w.setCell ⟨f, 0, none⟩ r0).setCell ⟨f, 1, none⟩ r1).heap[f]? = some (.cells #[r0, r1, z2, z3, z4, z5, z6] T) := blk_set h0 r1
  have h2 : (((w.setCell ⟨f, 0, none⟩ r0).setCell ⟨f, 1, none⟩ r1).setCell ⟨f, 2, none⟩ r2).heap[f]? = some (.cells #[r0, r1, r2, z3, z4, z5, z6] T) := blk_set h1 r2
  have h3 : ((((w.setCell ⟨f, 0, none⟩ r0).setCell ⟨f, 1, none⟩ r1).setCell ⟨f, 2, none⟩ r2).setCell ⟨f, 3, none⟩ r3).heap[f]? = some (.cells #[r0, r1, r2, r3, z4, z5, z6] T) := blk_set h2 r3
  have h4 : (((((w.setCell ⟨f, 0, none⟩ r0).setCell ⟨f, 1, none⟩ r1).setCell ⟨f, 2, none⟩ r2).setCell ⟨f, 3, none⟩ r3).setCell ⟨f, 4, none⟩ r4).heap[f]? = some (.cells #[r0, r1, r2, r3, r4, z5, z6] T) := blk_set h3 r4
  have h5 : ((((((w.setCell ⟨f, 0, none⟩ r0).setCell ⟨f, 1, none⟩ r1).setCell ⟨f, 2, none⟩ r2).setCell ⟨f, 3, none⟩ r3).setCell ⟨f, 4, none⟩ r4).setCell ⟨f, 5, none⟩ r5).heap[f]? = some (.cells #[r0, r1, r2, r3, r4, r5, z6] T) := blk_set h4 r5
  have h6 : (((((((w.setCell ⟨f, 0, none⟩ r0).setCell ⟨f, 1, none⟩ r1).setCell ⟨f, 2, none⟩ r2).setCell ⟨f, 3, none⟩ r3).setCell ⟨f, 4, none⟩ r4).setCell ⟨f, 5, none⟩ r5).setCell ⟨f, 6, none⟩ r6).heap[f]? = some (.cells #[r0, r1, r2, r3, r4, r5, r6] T) := blk_set h5 r6
  exact ⟨h6, ((((((hb.setCell (p := ⟨f, 0, none⟩) hf r0).setCell (p := ⟨f, 1, none⟩) hf r1).setCell (p := ⟨f, 2, none⟩) hf r2).setCell (p := ⟨f, 3, none⟩) hf r3).setCell (p := ⟨f, 4, none⟩) hf r4).setCell (p := ⟨f, 5, none⟩) hf r5).setCell (p := ⟨f, 6, none⟩) hf r6⟩
theorem size_alloc (w : World) (o : Obj) : (w.alloc o).heap.size = w.heap.size + 1 := by simp
theorem blk_lt {w : World} {f : Nat} {o : Obj} (h : w.heap[f]? = some o) : f < w.heap.size := by
  rcases Nat.lt_or_ge f w.heap.size with hl | hg
  · exact hl
  · rw [Array.getElem?_eq_none hg] at h
    cases h
end Go.Proofs.YtmdmkdjeaffhaaaGreatDoor
/- Contracts of the walks of chapter 1 (integers): what each function of the program and of its model returns, and what becomes of the world. No condition of our own. -/
namespace Go.Proofs.YtmdmkdjeaffhaaaGreatDoor
open Go.ChangeShapes Go.WideShapes Go.ChangeAt Go.RowKit
set_option linter.unusedVariables false

theorem ret_int {k : IntKind} {a b : Int} (h : a = b) : Ending.returned (.int k a) = .returned (.int k b) := by rw [h]
def mn (a b : Int) : Int := if b < a then b else a
def mx (a b : Int) : Int := if a < b then b else a
def ceilOf (a b : Int) : Int := if 0 ≤ a ∧ a ≤ 1000000000000 ∧ 1 ≤ b ∧ b ≤ 1000000000000 then (a + b - 1) / b else 0
def modOf (a b : Int) : Int := if 1 ≤ b ∧ b ≤ 1000000000000 then a % b else 0
theorem impl_range (n l h : Int) (w : World) :
    Calls Tryz.prog 43 #[.int .i64 n, .int .i64 l, .int .i64 h] w fun e w' => e = .returned (.bool (decide (l ≤ n ∧ n ≤ h))) ∧ w = w' := by
  by_cases h1 : l ≤ n <;> by_cases h2 : n ≤ h
  all_goals
    go_enter Tryz.func43, Tryz.ntmps43
    go_wp2
    go_ret
    exact ⟨by simp [h1, h2], rfl⟩
theorem spec_l1In (n l h : Int) (w : World) :
    Calls Tryz.prog 58 #[.int .i64 n, .int .i64 l, .int .i64 h] w fun e w' => e = .returned (.bool (decide (l ≤ n ∧ n ≤ h))) ∧ w = w' := by
  by_cases h1 : l ≤ n <;> by_cases h2 : n ≤ h
  all_goals
    go_enter Tryz.func58, Tryz.ntmps58
    go_wp2
    go_ret
    exact ⟨by simp [h1, h2], rfl⟩
theorem tmod_bd (a b : Int) (h : 1 ≤ b) : -b < a.tmod b ∧ a.tmod b < b := by
  constructor
  · by_cases ha : 0 ≤ a
    · have := Int.tmod_nonneg b ha; omega
    · have h1 : (-a).tmod b < b := Int.tmod_lt_of_pos _ (by omega)
      rw [Int.neg_tmod] at h1; omega
  · exact Int.tmod_lt_of_pos _ (by omega)
theorem tmod_emod (a b : Int) : (a.tmod b) % b = a % b := by
  have h := Int.mul_tdiv_add_tmod a b
  conv => rhs; rw [← h]
  rw [Int.add_comm, Int.add_mul_emod_self_left]
theorem tmod_neg (a b : Int) (h : 1 ≤ b) (hr : a.tmod b < 0) : a.tmod b + b = a % b := by
  have h1 := tmod_bd a b h
  rw [← tmod_emod a b, ← Int.add_emod_right, Int.emod_eq_of_lt (by omega) (by omega)]
theorem tmod_pos (a b : Int) (h : 1 ≤ b) (hr : 0 ≤ a.tmod b) : a.tmod b = a % b := by
  have h1 := tmod_bd a b h
  rw [← tmod_emod a b, Int.emod_eq_of_lt (by omega) (by omega)]
theorem spec_l1In_no (n l h : Int) (w : World) (hn : ¬ (l ≤ n ∧ n ≤ h)) :
    Calls Tryz.prog 58 #[.int .i64 n, .int .i64 l, .int .i64 h] w fun e w' => e = .returned (.bool false) ∧ w = w' :=
  (spec_l1In n l h w).mono fun e w' ⟨he, hw⟩ => ⟨by rw [he, decide_eq_false hn], hw⟩
theorem spec_l1In_yes (n l h : Int) (w : World) (hn : l ≤ n ∧ n ≤ h) :
    Calls Tryz.prog 58 #[.int .i64 n, .int .i64 l, .int .i64 h] w fun e w' => e = .returned (.bool true) ∧ w = w' :=
  (spec_l1In n l h w).mono fun e w' ⟨he, hw⟩ => ⟨by rw [he, decide_eq_true hn], hw⟩
end Go.Proofs.YtmdmkdjeaffhaaaGreatDoor
/- The type Cond as data of cells, and the laws' own helpers over it and over slices of it. No condition but the bounds of what came in. -/
namespace Go.Proofs.YtmdmkdjeaffhaaaGreatDoor
open Go.ChangeShapes Go.WideShapes Go.ChangeAt Go.RowKit
set_option linter.unusedVariables false

structure CondD where
  Op : Int
  A : Int
  B : Int
  Args : List CondD
mutual
def CondD.c : CondD → List Cell
  | ⟨p0, p1, p2, es3⟩ => [.num p0, .num p1, .num p2, .row es3.length (CondD.cs es3)]
def CondD.cs : List CondD → List Cell
  | [] => []
  | x :: xs => CondD.c x ++ CondD.cs xs
end
theorem CondD.cs_eq : ∀ xs : List CondD, CondD.cs xs = xs.flatMap CondD.c
  | [] => by unfold CondD.cs; rfl
  | x :: xs => by
    rw [CondD.cs, CondD.cs_eq xs, List.flatMap_cons]
theorem CondD.c_mk (p0 : Int) (p1 : Int) (p2 : Int) (es3 : List CondD) : CondD.c ⟨p0, p1, p2, es3⟩ = [.num p0, .num p1, .num p2, rowF CondD.c es3] := by rw [CondD.c, CondD.cs_eq]
theorem CondD.c_len (x : CondD) : (CondD.c x).length = 4 := by
  obtain ⟨p0, p1, p2, es3⟩ := x
  rw [CondD.c_mk]
  rfl
theorem CondD.rd {w : World} {hi : Nat} {p0 : Int} {p1 : Int} {p2 : Int} {es3 : List CondD} {vs : List Value} (h : rdL w hi (CondD.c ⟨p0, p1, p2, es3⟩) vs) : ∃ k3, vs = [.int .i64 p0, .int .i64 p1, .int .i64 p2, k3] ∧ (Lit.int .i64 p0).wf = true ∧ (Lit.int .i64 p1).wf = true ∧ (Lit.int .i64 p2).wf = true ∧ rdC w hi (rowF CondD.c es3) k3 := by
  rw [CondD.c_mk] at h
  obtain ⟨v0, _, rfl, h0, v1, _, rfl, h1, v2, _, rfl, h2, v3, _, rfl, h3, rfl⟩ := h
  obtain ⟨rfl, w0⟩ := rdC_num.1 h0
  obtain ⟨rfl, w1⟩ := rdC_num.1 h1
  obtain ⟨rfl, w2⟩ := rdC_num.1 h2
  exact ⟨v3, rfl, w0, w1, w2, h3⟩
theorem CondD.ow {w : World} {p0 : Int} {p1 : Int} {p2 : Int} {es3 : List CondD} {us : List Value} {f : List Nat} (h : owE w (CondD.c ⟨p0, p1, p2, es3⟩) us f) : ∃ k3 f3, us = [.int .i64 p0, .int .i64 p1, .int .i64 p2, k3] ∧ f = f3 ∧ (Lit.int .i64 p0).wf = true ∧ (Lit.int .i64 p1).wf = true ∧ (Lit.int .i64 p2).wf = true ∧ owC w (rowF CondD.c es3) k3 f3 := by
  rw [CondD.c_mk] at h
  obtain ⟨v0, u0, a0, b0, rfl, rfl, h0, g0⟩ := owE_cons.1 h
  obtain ⟨v1, u1, a1, b1, rfl, rfl, h1, g1⟩ := owE_cons.1 g0
  obtain ⟨v2, u2, a2, b2, rfl, rfl, h2, g2⟩ := owE_cons.1 g1
  obtain ⟨v3, u3, a3, b3, rfl, rfl, h3, g3⟩ := owE_cons.1 g2
  obtain ⟨rfl, rfl⟩ := owE_nil.1 g3
  obtain ⟨rfl, w0, rfl⟩ := owC_num.1 h0
  obtain ⟨rfl, w1, rfl⟩ := owC_num.1 h1
  obtain ⟨rfl, w2, rfl⟩ := owC_num.1 h2
  exact ⟨v3, a3, rfl, by simp, w0, w1, w2, h3⟩
theorem CondD.ow_mk {w : World} {p0 : Int} {p1 : Int} {p2 : Int} {es3 : List CondD} {k3 : Value} {f3 : List Nat} (h0 : (Lit.int .i64 p0).wf = true) (h1 : (Lit.int .i64 p1).wf = true) (h2 : (Lit.int .i64 p2).wf = true) (h3 : owC w (rowF CondD.c es3) k3 f3) : owE w (CondD.c ⟨p0, p1, p2, es3⟩) [.int .i64 p0, .int .i64 p1, .int .i64 p2, k3] (f3) := by
  rw [CondD.c_mk]
  have h : owE w [.num p0, .num p1, .num p2, rowF CondD.c es3] [.int .i64 p0, .int .i64 p1, .int .i64 p2, k3] (([] : List Nat) ++ (([] : List Nat) ++ (([] : List Nat) ++ (f3 ++ [])))) := owE_cons.2 ⟨_, _, [], _, rfl, rfl, owC_num.2 ⟨rfl, h0, rfl⟩, owE_cons.2 ⟨_, _, [], _, rfl, rfl, owC_num.2 ⟨rfl, h1, rfl⟩, owE_cons.2 ⟨_, _, [], _, rfl, rfl, owC_num.2 ⟨rfl, h2, rfl⟩, owE_cons.2 ⟨_, _, f3, _, rfl, rfl, h3, owE_nil.2 ⟨rfl, rfl⟩⟩⟩⟩⟩
  rw [show ([] : List Nat) ++ (([] : List Nat) ++ (([] : List Nat) ++ (f3 ++ []))) = f3 by simp] at h
  exact h
theorem CondD.sz (p0 : Int) (p1 : Int) (p2 : Int) (es3 : List CondD) : szE (CondD.c ⟨p0, p1, p2, es3⟩) = szC (rowF CondD.c es3) := by
  rw [CondD.c_mk]
  simp only [szE_cons, szE_nil, szC_num]
  omega
theorem CondD.mkd (p0 : Int) (p1 : Int) (p2 : Int) (es3 : List CondD) (q : Int) : mkE (CondD.c ⟨p0, p1, p2, es3⟩) q = [.num (q), .num (q + 1), .num (q + 1 + 1), .row es3.length (mkE (es3.flatMap CondD.c) (q + 1 + 1 + 1))] := by
  rw [CondD.c_mk]
  simp only [mkE_cons, mkE_nil, mkC_num, mkC_row, ctC_num, ctC_row]
theorem CondD.ct (p0 : Int) (p1 : Int) (p2 : Int) (es3 : List CondD) (q : Int) : q + ctE (CondD.c ⟨p0, p1, p2, es3⟩) = q + 1 + 1 + 1 + ctE (es3.flatMap CondD.c) := by
  rw [CondD.c_mk]
  simp only [ctE_cons, ctE_nil, ctC_num, ctC_row]
  omega
theorem CondD.rdm {w : World} {hi : Nat} {p0 : Int} {p1 : Int} {p2 : Int} {es3 : List CondD} {q : Int} {vs : List Value} (h : rdL w hi (mkE (CondD.c ⟨p0, p1, p2, es3⟩) q) vs) : ∃ k3, vs = [.int .i64 (q), .int .i64 (q + 1), .int .i64 (q + 1 + 1), k3] ∧ rdC w hi (.row es3.length (mkE (es3.flatMap CondD.c) (q + 1 + 1 + 1))) k3 := by
  rw [CondD.mkd] at h
  obtain ⟨v0, _, rfl, h0, v1, _, rfl, h1, v2, _, rfl, h2, v3, _, rfl, h3, rfl⟩ := h
  obtain ⟨rfl, w0⟩ := rdC_num.1 h0
  obtain ⟨rfl, w1⟩ := rdC_num.1 h1
  obtain ⟨rfl, w2⟩ := rdC_num.1 h2
  exact ⟨v3, rfl, h3⟩
theorem CondD.ctTop (p0 : Int) (p1 : Int) (p2 : Int) (es3 : List CondD) : ctT (CondD.c ⟨p0, p1, p2, es3⟩) = ctE (es3.flatMap CondD.c) := by
  rw [CondD.c_mk]
  have h : ctT [.num p0, .num p1, .num p2, rowF CondD.c es3] = ctE (es3.flatMap CondD.c) + (0) := rfl
  rw [h]
  omega
theorem CondD.mkTop (p0 : Int) (p1 : Int) (p2 : Int) (es3 : List CondD) (q : Int) : mkT (CondD.c ⟨p0, p1, p2, es3⟩) q = [.num p0, .num p1, .num p2, .row es3.length (mkE (es3.flatMap CondD.c) (q))] := by
  rw [CondD.c_mk]
  rfl
theorem CondD.rdTop {w : World} {hi : Nat} {p0 : Int} {p1 : Int} {p2 : Int} {es3 : List CondD} {q : Int} {vs : List Value} (h : rdL w hi (mkT (CondD.c ⟨p0, p1, p2, es3⟩) q) vs) : ∃ k3, vs = [.int .i64 p0, .int .i64 p1, .int .i64 p2, k3] ∧ (Lit.int .i64 p0).wf = true ∧ (Lit.int .i64 p1).wf = true ∧ (Lit.int .i64 p2).wf = true ∧ rdC w hi (.row es3.length (mkE (es3.flatMap CondD.c) (q))) k3 := by
  rw [CondD.mkTop] at h
  obtain ⟨v0, _, rfl, h0, v1, _, rfl, h1, v2, _, rfl, h2, v3, _, rfl, h3, rfl⟩ := h
  obtain ⟨rfl, w0⟩ := rdC_num.1 h0
  obtain ⟨rfl, w1⟩ := rdC_num.1 h1
  obtain ⟨rfl, w2⟩ := rdC_num.1 h2
  exact ⟨v3, rfl, w0, w1, w2, h3⟩
mutual
theorem CondD.thin : ∀ x : CondD, ctE (CondD.c x) ≤ 3 + 64 * szE (CondD.c x)
  | ⟨p0, p1, p2, es3⟩ => by
    have t3 := CondD.thins es3
    rw [szC_row] at t3
    have h := CondD.ct p0 p1 p2 es3 0
    rw [CondD.sz]
    simp only [szC_row]
    omega
theorem CondD.thins : ∀ xs : List CondD, ctE (xs.flatMap CondD.c) ≤ 64 * szC (rowF CondD.c xs)
  | [] => by rw [szC_row, List.flatMap_nil, ctE_nil, szE_nil]; decide
  | x :: xs => by
    have h1 := CondD.thin x
    have h2 := CondD.thins xs
    rw [szC_row] at h2 ⊢
    rw [List.flatMap_cons, ctE_append, szE_append, List.length_cons]
    omega
end
end Go.Proofs.YtmdmkdjeaffhaaaGreatDoor
