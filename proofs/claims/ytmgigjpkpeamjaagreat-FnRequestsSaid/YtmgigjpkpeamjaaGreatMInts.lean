/- Some texts in one: Loc, Draw4, Ints. -/
import Derived.Test.YtmgigjpkpeamjaaGreatMBlk
import Derived.Test.YtmgigjpkpeamjaaGreatDraw
import Derived.Handy
import Derived.Test.YtmgigjpkpeamjaaGreatRows
import Derived.WalkKit
import Derived.ProofKit
import Derived.OpenShut
import Derived.WalkLawsBesides
import Derived.WalkSpells
import Derived.LoopTactic
import Derived.Lib.Hide
/- A struct of the call's own in a block of its own, while draws go on beside it: what it holds, what is kept. No condition; any program. -/
namespace Go.Proofs.YtmgigjpkpeamjaaGreat
open Go.ChangeShapes Go.WideShapes Go.ChangeAt Go.RowKit
set_option linter.unusedVariables false

/-- Block f, new since w0, holds the cells cs; all else that was there in w0 is as it was, but for block B. -/
structure Loc (w0 : World) (B f : Nat) (T : TypeId) (cs : Array Value) (w : World) : Prop where
  only : Only B w0 w
  new : w0.heap.size ≤ f
  ne : f ≠ B
  blk : w.heap[f]? = some (.cells cs T)
section
variable {w0 w w' : World} {B f : Nat} {T : TypeId} {cs : Array Value}
theorem Loc.lt (h : Loc w0 B f T cs w) : f < w.heap.size := by
  rcases Nat.lt_or_ge f w.heap.size with hl | hg
  · exact hl
  · have hb := h.blk
    rw [Array.getElem?_eq_none hg] at hb
    cases hb
theorem Loc.cell (h : Loc w0 B f T cs w) (i : Nat) {v : Value} (hv : cs[i]? = some v) : w.cell? ⟨f, i, none⟩ = some v := by
  have hb := h.blk
  simp [World.cell?, hb, hv]
theorem Loc.frozen (h : Loc w0 B f T cs w) (i : Nat) : w.frozen? ⟨f, i, none⟩ = false := by
  have hb := h.blk
  simp [World.frozen?, hb]
theorem Loc.call (h : Loc w0 B f T cs w) (ho : Only B w w') : Loc w0 B f T cs w' :=
  ⟨h.only.trans ho, h.new, h.ne, (ho.block f h.lt h.ne).trans h.blk⟩
theorem Loc.drew (h : Loc w0 B f T cs w) : Loc w0 B f T cs w.drew := ⟨h.only.drew, h.new, h.ne, h.blk⟩
theorem Loc.alloc (h : Loc w0 B f T cs w) (o : Obj) : Loc w0 B f T cs (w.alloc o) := h.call ((Only.refl _ _).alloc o)
theorem Only.setNew (h : Only B w0 w) {p : Addr} (hp : w0.heap.size ≤ p.block) (u : Value) : Only B w0 (w.setCell p u) :=
  ⟨h.os, h.tape, h.output, by simpa [World.setCell] using h.size, fun k hk hn => (Below.heap_setCell w p u k (by omega)).trans (h.block k hk hn)⟩
theorem Loc.set (h : Loc w0 B f T cs w) (i : Nat) (u : Value) : Loc w0 B f T (cs.setIfInBounds i u) (w.setCell ⟨f, i, none⟩ u) := by
  refine ⟨h.only.setNew h.new u, h.new, h.ne, ?_⟩
  have hb := h.blk
  simp [World.setCell, Array.getElem?_modify, hb]
/-- A store into another block of the call's own. -/
theorem Loc.setFar (h : Loc w0 B f T cs w) {g : Nat} (hg : w0.heap.size ≤ g) (hne : f ≠ g) (i : Nat) (u : Value) : Loc w0 B f T cs (w.setCell ⟨g, i, none⟩ u) :=
  ⟨h.only.setNew hg u, h.new, h.ne, (Below.heap_setCell w ⟨g, i, none⟩ u f hne).trans h.blk⟩
theorem Loc.mk_new (h : Only B w0 w) (far : B < w.heap.size) : Loc w0 B w.heap.size T cs (w.alloc (.cells cs T)) :=
  ⟨h.alloc _, h.size, Nat.ne_of_gt far, by show (w.heap.push _)[w.heap.size]? = _; simp⟩
/-- What is below a world's size reads behind a call as before: two rules for the walk. -/
theorem bcell {W w : World} (hb : Below W.heap.size W w) : ∀ b o, b < W.heap.size → w.cell? ⟨b, o, none⟩ = W.cell? ⟨b, o, none⟩ := fun b o h => hb.cell (p := ⟨b, o, none⟩) h
/-- A result's block, laid ahead of the cursor. -/
theorem Loc.early {W : World} (hw : Below w0.heap.size w0 W) (hb : Below W.heap.size W w) (hk : W.heap[f]? = some (.cells cs T)) (hf : w0.heap.size ≤ f) (hl : f < W.heap.size) (hB : W.heap.size ≤ B) : Loc w0 B f T cs w :=
  ⟨Below.only (hw.trans (hb.mono hw.size)), hf, by omega, blk_keep hk hb hl⟩
/-- The cursor is kept by all that turns nothing below a number above it. -/
theorem Cur.keep {C : Nat} {a : Option Addr} {len cap : Nat} {z : List Int} (h : Cur w B a len cap z) (hC : B < C) (hb : Below C w w') : Cur w' B a len cap z := by
  have hc : ∀ o, w'.cell? ⟨B, o, none⟩ = w.cell? ⟨B, o, none⟩ := fun o => hb.cell (p := ⟨B, o, none⟩) hC
  obtain ⟨i, hi, hci⟩ := h.ci
  obtain ⟨g, hg⟩ := h.ch
  refine ⟨Nat.lt_of_lt_of_le h.lt hb.size, ?_, h.old, by rw [hc]; exact h.cb, ⟨i, hi, by rw [hc]; exact hci⟩, ⟨g, by rw [hc]; exact hg⟩, fun o => by rw [hb.frozen (p := ⟨B, o, none⟩) hC]; exact h.fr o⟩
  rcases h.row with h0 | ⟨x, rfl, h1, h2, h3, h4, h5⟩
  · exact .inl h0
  · refine .inr ⟨x, rfl, h1, h2, h3, fun i hi => ?_, h5⟩
    have hx : (x.add i).block = x.block := by unfold Addr.add; split <;> rfl
    rw [hb.cell (by rw [hx]; have := h.old x rfl (by omega); omega)]
    exact h4 i hi
theorem Cur.setFar {a : Option Addr} {len cap : Nat} {z : List Int} (h : Cur w B a len cap z) {g : Nat} (hg : B < g) (i : Nat) (u : Value) : Cur (w.setCell ⟨g, i, none⟩ u) B a len cap z :=
  h.keep (C := g) hg ((Below.refl _ _).setCell (p := ⟨g, i, none⟩) (Nat.le_refl _) u)
/-- A store into one of two blocks of the call's own, the world named anew. -/
theorem store_step {T' : TypeId} {cs' : Array Value} {R : Nat} {a : Option Addr} {len cap : Nat} {z : List Int} (lf : Loc w0 B f T cs w) (lr : Loc w0 B R T' cs' w) (hc : Cur w B a len cap z) (hB : B < w0.heap.size) (hne : R ≠ f) (i : Nat) (u : Value) :
    ∃ W, W = w.setCell ⟨f, i, none⟩ u ∧ Loc w0 B f T (cs.setIfInBounds i u) W ∧ Loc w0 B R T' cs' W ∧ Cur W B a len cap z :=
  ⟨_, rfl, lf.set i u, lr.setFar lf.new hne i u, hc.setFar (Nat.lt_of_lt_of_le hB lf.new) i u⟩
theorem call_step {T' : TypeId} {cs' : Array Value} {R : Nat} (lf : Loc w0 B f T cs w) (lr : Loc w0 B R T' cs' w) (ho : Only B w w') : Loc w0 B f T cs w' ∧ Loc w0 B R T' cs' w' := ⟨lf.call ho, lr.call ho⟩
theorem Loc.cells6 {v0 v1 v2 v3 v4 v5 : Value} (h : Loc w0 B f T #[v0, v1, v2, v3, v4, v5] w) : w.cell? ⟨f, 0, none⟩ = some v0 ∧ w.cell? ⟨f, 1, none⟩ = some v1 ∧ w.cell? ⟨f, 2, none⟩ = some v2 ∧ w.cell? ⟨f, 3, none⟩ = some v3 ∧ w.cell? ⟨f, 4, none⟩ = some v4 ∧ w.cell? ⟨f, 5, none⟩ = some v5 :=
  ⟨h.cell 0 rfl, h.cell 1 rfl, h.cell 2 rfl, h.cell 3 rfl, h.cell 4 rfl, h.cell 5 rfl⟩
theorem Loc.twelve {g : Nat} {T' : TypeId} {v0 v1 v2 v3 v4 v5 u0 u1 u2 u3 u4 u5 : Value} (h : Loc w0 B f T #[v0, v1, v2, v3, v4, v5] w) (k : Loc w0 B g T' #[u0, u1, u2, u3, u4, u5] w) :
    w.cell? ⟨f, 0, none⟩ = some v0 ∧ w.cell? ⟨f, 1, none⟩ = some v1 ∧ w.cell? ⟨f, 2, none⟩ = some v2 ∧ w.cell? ⟨f, 3, none⟩ = some v3 ∧ w.cell? ⟨f, 4, none⟩ = some v4 ∧ w.cell? ⟨f, 5, none⟩ = some v5 ∧
    w.cell? ⟨g, 0, none⟩ = some u0 ∧ w.cell? ⟨g, 1, none⟩ = some u1 ∧ w.cell? ⟨g, 2, none⟩ = some u2 ∧ w.cell? ⟨g, 3, none⟩ = some u3 ∧ w.cell? ⟨g, 4, none⟩ = some u4 ∧ w.cell? ⟨g, 5, none⟩ = some u5 :=
  ⟨h.cell 0 rfl, h.cell 1 rfl, h.cell 2 rfl, h.cell 3 rfl, h.cell 4 rfl, h.cell 5 rfl, k.cell 0 rfl, k.cell 1 rfl, k.cell 2 rfl, k.cell 3 rfl, k.cell 4 rfl, k.cell 5 rfl⟩
end
end Go.Proofs.YtmgigjpkpeamjaaGreat
/- The draws of chapter 4's inputs. -/
namespace Go.Proofs.YtmgigjpkpeamjaaGreat
open Go.ChangeShapes Go.WideShapes Go.ChangeAt Go.RowKit
set_option linter.unusedVariables false

theorem time_any (w : World) (B : Nat) (a : Option Addr) (len cap : Nat) (z : List Int) (hc : Cur w B a len cap z) :
    Calls Tryz.prog 27 #[.pointer (some ⟨B, 0, none⟩)] w fun e w' => ∃ v : Int, -9223372036854775808 ≤ v ∧ v ≤ 9223372036854775807 ∧ e = .returned (.int .i64 v) ∧ Only B w w' ∧ Cur w' B a len cap z := by
  go_enter Tryz.func27, Tryz.ntmps27
  go_wp2_with fail
  refine (once_any w B a len cap z 8 (by decide) (by decide) hc).mono ?_
  rintro e w1 ⟨x, rfl, ho1, hc1⟩
  cases x
  · go_wp2_with fail
    refine (below_any w1 B a len cap z 40 (by decide) (by decide) hc1).mono ?_
    rintro e w2 ⟨p, hp, rfl, ho2, hc2⟩
    go_wp2
    go_ret
    exact ⟨(p : Int), by omega, by omega, rfl, ho1.trans ho2, hc2⟩
  · go_wp2_with fail
    refine (int_any _ B a len cap z _ _ _ (by decide) (by decide) (ints_lit w1 B hc1.lt _ _ _ (by decide)) (hc1.alloc _)).mono ?_
    rintro e w3 ⟨v, hv0, hv1, rfl, ho3, hc3⟩
    go_wp2
    go_ret
    exact ⟨v, hv0, hv1, rfl, ho1.trans (((Only.refl _ _).alloc _).trans ho3), hc3⟩
end Go.Proofs.YtmgigjpkpeamjaaGreat
/- Contracts of the walks of chapter 1 (integers): what each function of the program and of its model returns, and what becomes of the world. No condition of our own. -/
namespace Go.Proofs.YtmgigjpkpeamjaaGreat
open Go.ChangeShapes Go.WideShapes Go.ChangeAt Go.RowKit
set_option linter.unusedVariables false

theorem ret_int {k : IntKind} {a b : Int} (h : a = b) : Ending.returned (.int k a) = .returned (.int k b) := by rw [h]
def mn (a b : Int) : Int := if b < a then b else a
def mx (a b : Int) : Int := if a < b then b else a
def ceilOf (a b : Int) : Int := if 0 ≤ a ∧ a ≤ 1000000000000 ∧ 1 ≤ b ∧ b ≤ 1000000000000 then (a + b - 1) / b else 0
def modOf (a b : Int) : Int := if 1 ≤ b ∧ b ≤ 1000000000000 then a % b else 0
theorem as_small_small (v : Value) (w : World) : (Instr.typeAssert (.iface 114 v) 112 114 true).run Tryz.prog w = .ok (.tuple #[v, .bool true]) w := by kernel_rfl
theorem as_large_small (v : Value) (w : World) : (Instr.typeAssert (.iface 104 v) 112 114 true).run Tryz.prog w = .ok (.tuple #[.agg #[], .bool false]) w := by kernel_rfl
theorem as_large_large (v : Value) (w : World) : (Instr.typeAssert (.iface 104 v) 112 104 true).run Tryz.prog w = .ok (.tuple #[v, .bool true]) w := by kernel_rfl
theorem closer_small (a b : Int) (w : World) :
    Calls Tryz.prog 96 #[.iface 114 (.agg #[]), .int .i64 a, .int .i64 b] w fun e w' => e = .returned (.bool (decide (a < b))) ∧ w = w' := by
  have h1 := as_small_small
  go_enter Tryz.func96, Tryz.ntmps96
  go_wp2
  go_ret
  exact ⟨rfl, rfl⟩
theorem closer_large (a b : Int) (w : World) :
    Calls Tryz.prog 96 #[.iface 104 (.agg #[]), .int .i64 a, .int .i64 b] w fun e w' => e = .returned (.bool (decide (b < a))) ∧ w = w' := by
  have h1 := as_large_small
  have h2 := as_large_large
  go_enter Tryz.func96, Tryz.ntmps96
  go_wp2
  go_ret
  exact ⟨rfl, rfl⟩
theorem extreme_small (a b : Int) (p : Addr) (w : World) (hc : w.cell? p = some (.int .i64 b)) :
    Calls Tryz.prog 85 #[.iface 114 (.agg #[]), .int .i64 a, .slice (some p) 1 1] w fun e w' => e = .returned (.int .i64 (mn a b)) ∧ w = w' := by
  by_cases h : b < a
  all_goals
    go_enter Tryz.func85, Tryz.ntmps85
    go_wp2
    refine wp_loop_rounds 2 ?_
    rw [rounds_succ]
    go_wp2_with (go_at_call 96; refine (closer_small _ _ _).mono ?_; rintro e w' ⟨rfl, rfl⟩)
    rw [rounds_succ]
    go_wp2
    go_ret
    exact ⟨ret_int (by first | (unfold mn; split <;> omega) | (unfold mx; split <;> omega)), rfl⟩
theorem extreme_large (a b : Int) (p : Addr) (w : World) (hc : w.cell? p = some (.int .i64 b)) :
    Calls Tryz.prog 85 #[.iface 104 (.agg #[]), .int .i64 a, .slice (some p) 1 1] w fun e w' => e = .returned (.int .i64 (mx a b)) ∧ w = w' := by
  by_cases h : a < b
  all_goals
    go_enter Tryz.func85, Tryz.ntmps85
    go_wp2
    refine wp_loop_rounds 2 ?_
    rw [rounds_succ]
    go_wp2_with (go_at_call 96; refine (closer_large _ _ _).mono ?_; rintro e w' ⟨rfl, rfl⟩)
    rw [rounds_succ]
    go_wp2
    go_ret
    exact ⟨ret_int (by first | (unfold mn; split <;> omega) | (unfold mx; split <;> omega)), rfl⟩
theorem impl_min (a b : Int) (w : World) :
    Calls Tryz.prog 89 #[.int .i64 a, .int .i64 b] w fun e w' => e = .returned (.int .i64 (mn a b)) ∧ Grown w w' := by
  go_enter Tryz.func89, Tryz.ntmps89
  go_wp2_with (go_at_call 85; refine (extreme_small _ b _ _ (by go_simp)).mono ?_; rintro e w' ⟨rfl, rfl⟩)
  go_ret
  exact ⟨rfl, by repeat (first | exact Grown.refl _ | apply Grown.drew | apply Grown.alloc)⟩
theorem impl_max (a b : Int) (w : World) :
    Calls Tryz.prog 88 #[.int .i64 a, .int .i64 b] w fun e w' => e = .returned (.int .i64 (mx a b)) ∧ Grown w w' := by
  go_enter Tryz.func88, Tryz.ntmps88
  go_wp2_with (go_at_call 85; refine (extreme_large _ b _ _ (by go_simp)).mono ?_; rintro e w' ⟨rfl, rfl⟩)
  go_ret
  exact ⟨rfl, by repeat (first | exact Grown.refl _ | apply Grown.drew | apply Grown.alloc)⟩
theorem spec_max (a b : Int) (w : World) :
    Calls Tryz.prog 35 #[.int .i64 a, .int .i64 b] w fun e w' => e = .returned (.int .i64 (mx a b)) ∧ w = w' := by
  by_cases h : a < b
  all_goals
    go_enter Tryz.func35, Tryz.ntmps35
    go_wp2
    go_ret
    exact ⟨ret_int (by first | (unfold mn; split <;> omega) | (unfold mx; split <;> omega)), rfl⟩
theorem impl_range (n l h : Int) (w : World) :
    Calls Tryz.prog 44 #[.int .i64 n, .int .i64 l, .int .i64 h] w fun e w' => e = .returned (.bool (decide (l ≤ n ∧ n ≤ h))) ∧ w = w' := by
  by_cases h1 : l ≤ n <;> by_cases h2 : n ≤ h
  all_goals
    go_enter Tryz.func44, Tryz.ntmps44
    go_wp2
    go_ret
    exact ⟨by simp [h1, h2], rfl⟩
theorem spec_l1In (n l h : Int) (w : World) :
    Calls Tryz.prog 73 #[.int .i64 n, .int .i64 l, .int .i64 h] w fun e w' => e = .returned (.bool (decide (l ≤ n ∧ n ≤ h))) ∧ w = w' := by
  by_cases h1 : l ≤ n <;> by_cases h2 : n ≤ h
  all_goals
    go_enter Tryz.func73, Tryz.ntmps73
    go_wp2
    go_ret
    exact ⟨by simp [h1, h2], rfl⟩
theorem tmod_bd (a b : Int) (h : 1 ≤ b) : -b < a.tmod b ∧ a.tmod b < b := by
  constructor
  · by_cases ha : 0 ≤ a
    · have := Int.tmod_nonneg b ha; omega
    · have h1 : (-a).tmod b < b := Int.tmod_lt_of_pos _ (by omega)
      rw [Int.neg_tmod] at h1; omega
  · exact Int.tmod_lt_of_pos _ (by omega)
theorem tmod_emod (a b : Int) : (a.tmod b) % b = a % b := by
  have h := Int.mul_tdiv_add_tmod a b
  conv => rhs; rw [← h]
  rw [Int.add_comm, Int.add_mul_emod_self_left]
theorem tmod_neg (a b : Int) (h : 1 ≤ b) (hr : a.tmod b < 0) : a.tmod b + b = a % b := by
  have h1 := tmod_bd a b h
  rw [← tmod_emod a b, ← Int.add_emod_right, Int.emod_eq_of_lt (by omega) (by omega)]
theorem tmod_pos (a b : Int) (h : 1 ≤ b) (hr : 0 ≤ a.tmod b) : a.tmod b = a % b := by
  have h1 := tmod_bd a b h
  rw [← tmod_emod a b, Int.emod_eq_of_lt (by omega) (by omega)]
theorem spec_l1In_no (n l h : Int) (w : World) (hn : ¬ (l ≤ n ∧ n ≤ h)) :
    Calls Tryz.prog 73 #[.int .i64 n, .int .i64 l, .int .i64 h] w fun e w' => e = .returned (.bool false) ∧ w = w' :=
  (spec_l1In n l h w).mono fun e w' ⟨he, hw⟩ => ⟨by rw [he, decide_eq_false hn], hw⟩
theorem spec_l1In_yes (n l h : Int) (w : World) (hn : l ≤ n ∧ n ≤ h) :
    Calls Tryz.prog 73 #[.int .i64 n, .int .i64 l, .int .i64 h] w fun e w' => e = .returned (.bool true) ∧ w = w' :=
  (spec_l1In n l h w).mono fun e w' ⟨he, hw⟩ => ⟨by rw [he, decide_eq_true hn], hw⟩
end Go.Proofs.YtmgigjpkpeamjaaGreat
