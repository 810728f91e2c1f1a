/- Some texts in one: Vals, IntSl, CellI. -/
import Derived.Test.YtmgigjpkpeamjaaGreatMStores2
import Derived.Test.YtmgigjpkpeamjaaGreatRow
import Derived.WalkKit
import Derived.ProofKit
import Derived.OpenShut
import Derived.WalkLawsBesides
import Derived.WalkSpells
import Derived.LoopTactic
import Derived.Deep.QuietTactic
import Derived.BigQuiet
import Derived.Outline
import Derived.Test.YtmgigjpkpeamjaaGreatCell2
import Derived.Test.YtmgigjpkpeamjaaGreatMInts
/- The values of the facts that hold: mathematics. No condition. -/
namespace Go.Proofs.YtmgigjpkpeamjaaGreat
open Go.ChangeShapes Go.WideShapes Go.ChangeAt Go.RowKit
set_option linter.unusedVariables false

def valsF (xs : List FactD) (k s now age : Int) : List Int := (xs.filter (keepF k s now age)).map (·.Value)
theorem valsF_zero (xs : List FactD) (k s now age : Int) : valsF (xs.take 0) k s now age = [] := rfl
theorem valsF_yes {xs : List FactD} {n : Nat} {x : FactD} {k s now age : Int} (h : xs[n]? = some x) (hk : keepF k s now age x = true) : valsF (xs.take (n + 1)) k s now age = valsF (xs.take n) k s now age ++ [x.Value] := by
  unfold valsF
  rw [List.take_add_one, h, List.filter_append, List.map_append]
  simp [hk]
theorem valsF_no {xs : List FactD} {n : Nat} {x : FactD} {k s now age : Int} (h : xs[n]? = some x) (hk : keepF k s now age x = false) : valsF (xs.take (n + 1)) k s now age = valsF (xs.take n) k s now age := by
  unfold valsF
  rw [List.take_add_one, h, List.filter_append, List.map_append]
  simp [hk]
theorem valsF_all (xs : List FactD) (k s now age : Int) : valsF (xs.take xs.length) k s now age = valsF xs k s now age := by rw [List.take_of_length_le (Nat.le_refl _)]
theorem valsF_len (xs : List FactD) (k s now age : Int) : (valsF xs k s now age).length ≤ xs.length := by
  unfold valsF
  rw [List.length_map]
  exact List.length_filter_le _ _
theorem valsF_len_take (xs : List FactD) (n : Nat) (k s now age : Int) : (valsF (xs.take n) k s now age).length ≤ xs.length := Nat.le_trans (valsF_len _ k s now age) (by rw [List.length_take]; omega)
theorem valsF_in {xs : List FactD} {k s now age : Int} (h : ∀ x ∈ xs, (Lit.int .i64 x.Value).wf = true) : ∀ y ∈ valsF xs k s now age, (Lit.int .i64 y).wf = true := fun y hy => by
  unfold valsF at hy
  obtain ⟨x, hx, rfl⟩ := List.mem_map.1 hy
  exact h x (List.mem_filter.1 hx).1
theorem best_vals_from (k s now age : Int) : ∀ (xs : List FactD) (b : Int), xs.foldl (fun b x => if keepF k s now age x then mx b x.Value else b) b = (valsF xs k s now age).foldl mx b
  | [], b => rfl
  | x :: xs, b => by
    have ih := best_vals_from k s now age xs
    unfold valsF at ih ⊢
    rw [List.foldl_cons, ih, List.filter_cons]
    cases hk : keepF k s now age x <;> simp
theorem best_vals (xs : List FactD) (k s now age : Int) : bestF xs k s now age = (valsF xs k s now age).foldl mx (-1) := best_vals_from k s now age xs (-1)
end Go.Proofs.YtmgigjpkpeamjaaGreat
/- The helpers of the exact statements over slices of ints: a copy, a comparison, marks, and whether the marks are still there. -/
namespace Go.Proofs.YtmgigjpkpeamjaaGreat
open Go.ChangeShapes Go.WideShapes Go.ChangeAt Go.RowKit
set_option linter.unusedVariables false

theorem infoIntS : (Tryz.prog.info? 3).map (fun i => (i.zero, i.size, i.bytes)) = some (some (.int .i64 0), 1, 8) := by kernel_rfl

/-- What the helper that marks writes. -/
def marksIntS (k : Int) (n : Nat) : List Int := (List.range n).map fun (i : Nat) => k + (i : Int)
theorem marksIntS_length (k : Int) (n : Nat) : (marksIntS k n).length = n := by simp [marksIntS]
theorem marksIntS_at (k : Int) (n i : Nat) (h : i < (marksIntS k n).length) : (marksIntS k n)[i] = k + (i : Int) := by simp [marksIntS]
theorem marksIntS_wf (k : Int) (n : Nat) (hk0 : 0 ≤ k) (hk1 : k ≤ 1099511627776000) (hn : n ≤ 1099511627776) : ∀ x ∈ marksIntS k n, (Lit.int .i64 x).wf = true := by
  intro x hx
  simp only [marksIntS, List.mem_map] at hx
  obtain ⟨i, hi, rfl⟩ := hx
  have := List.mem_range.1 hi
  exact wf_i64 (by omega) (by omega)

end Go.Proofs.YtmgigjpkpeamjaaGreat
/- Slices of integers as cells: what reads so, what is owned so; the laws' own helpers over them. No condition but the bounds of what came in. -/
namespace Go.Proofs.YtmgigjpkpeamjaaGreat
open Go.ChangeShapes Go.WideShapes Go.ChangeAt Go.RowKit
set_option linter.unusedVariables false

def numC (x : Int) : List Cell := [.num x]
theorem numC_len (x : Int) : (numC x).length = 1 := rfl
theorem flat_num (xs : List Int) : xs.flatMap numC = xs.map Cell.num := by
  induction xs with
  | nil => rfl
  | cons x xs ih => rw [List.flatMap_cons, ih]; rfl
theorem sz_nums : ∀ xs : List Int, szE (xs.flatMap numC) = 0
  | [] => by rw [List.flatMap_nil, szE_nil]
  | x :: xs => by rw [List.flatMap_cons, szE_append, sz_nums xs]; show szE [.num x] + 0 = 0; rw [szE_cons, szE_nil, szC_num]; rfl
theorem ct_nums : ∀ xs : List Int, ctE (xs.flatMap numC) = xs.length
  | [] => by rw [List.flatMap_nil, ctE_nil]; rfl
  | x :: xs => by rw [List.flatMap_cons, ctE_append, ct_nums xs]; show ctE [.num x] + _ = _; rw [ctE_cons, ctE_nil, ctC_num, List.length_cons]; omega
theorem mk_nums : ∀ (xs : List Int) (k : Int), mkE (xs.flatMap numC) k = (marksIntS k xs.length).map Cell.num
  | [], k => by rw [List.flatMap_nil, mkE_nil]; rfl
  | x :: xs, k => by
    rw [List.flatMap_cons, mkE_append, mk_nums xs]
    show mkE [.num x] k ++ _ = _
    rw [mkE_cons, mkE_nil, mkC_num]
    show Cell.num k :: List.map Cell.num (marksIntS (k + ctE [.num x]) xs.length) = _
    rw [ctE_cons, ctE_nil, ctC_num]
    apply List.ext_getElem
    · simp [marksIntS_length]
    · intro i h1 h2
      cases i with
      | zero => simp [marksIntS_at]
      | succ i =>
        simp only [List.getElem_cons_succ, List.getElem_map, marksIntS_at, Cell.num.injEq]
        omega
theorem rd_row {w : World} {hi : Nat} {v : Value} {xs : List Int} (h : rdC w hi (.row xs.length (xs.map Cell.num)) v) : Row .i64 w hi v xs := by
  unfold rdC at h
  obtain ⟨a, c, rfl, h1, h2, h3, h4, h5⟩ := h
  refine ⟨⟨a, c, rfl, h1, h2, h3, fun hp => ?_⟩, fun x hx => ?_⟩
  · obtain ⟨b, off, rfl, g1, g2, g3⟩ := h5 hp
    refine ⟨b, off, rfl, g1, g2, fun i hi => ?_⟩
    obtain ⟨u, h6, h7⟩ := rdE_at g3 (show (xs.map Cell.num)[i]? = some (.num xs[i]) by rw [List.getElem?_map, List.getElem?_eq_getElem hi]; rfl)
    rw [h6, (rdC_num.1 h7).1]
    simp [List.getD, hi]
  · obtain ⟨i, hi, rfl⟩ := List.getElem_of_mem hx
    obtain ⟨b, off, rfl, g1, g2, g3⟩ := h5 (by omega)
    obtain ⟨u, h6, h7⟩ := rdE_at g3 (show (xs.map Cell.num)[i]? = some (.num xs[i]) by rw [List.getElem?_map, List.getElem?_eq_getElem hi]; rfl)
    exact (rdC_num.1 h7).2
theorem row_rd {w : World} {hi : Nat} {v : Value} {xs : List Int} (h : Row .i64 w hi v xs) : rdC w hi (.row xs.length (xs.map Cell.num)) v := by
  obtain ⟨⟨a, c, rfl, h1, h2, h3, h4⟩, h5⟩ := h
  unfold rdC
  refine ⟨a, c, rfl, h1, h2, h3, fun e => by rw [List.length_eq_zero_iff.mp e]; rfl, fun hp => ?_⟩
  obtain ⟨b, off, rfl, g1, g2, g3⟩ := h4 hp
  refine ⟨b, off, rfl, g1, g2, rdE_of fun j c hj => ?_⟩
  rw [List.getElem?_map] at hj
  cases hx : xs[j]? with
  | none => rw [hx] at hj; cases hj
  | some x =>
    rw [hx] at hj
    obtain rfl := Option.some.inj hj
    obtain ⟨hl, e⟩ := List.getElem?_eq_some_iff.1 hx
    refine ⟨_, g3 j hl, rdC_num.2 ⟨?_, h5 x (List.mem_of_getElem? hx)⟩⟩
    simp [List.getD, hx]
theorem ints_row {w : World} {hi : Nat} {v : Value} {xs : List Int} : rdC w hi (rowF numC xs) v ↔ Row .i64 w hi v xs := by
  show rdC w hi (.row xs.length (xs.flatMap numC)) v ↔ _
  rw [flat_num]
  exact ⟨rd_row, row_rd⟩
theorem owE_nums {w : World} : ∀ {xs : List Int}, (∀ x ∈ xs, (Lit.int .i64 x).wf = true) → owE w (xs.map Cell.num) (xs.map (Value.int .i64)) []
  | [], _ => owE_nil.2 ⟨rfl, rfl⟩
  | x :: xs, h => owE_cons.2 ⟨_, _, [], [], rfl, rfl, owC_num.2 ⟨rfl, h x List.mem_cons_self, rfl⟩, owE_nums fun y hy => h y (List.mem_cons_of_mem _ hy)⟩
/-- A slice of integers of the call's own, as cells. -/
theorem own_ints {E : TypeId} {w : World} {lo hi : Nat} {v : Value} {xs : List Int} (h : Own E .i64 w lo hi v xs) : ∃ fp, owC w (rowF numC xs) v fp ∧ fp.Nodup ∧ ∀ k ∈ fp, lo ≤ k ∧ k < hi := by
  have hl := h.lt
  show ∃ fp, owC w (.row xs.length (xs.flatMap numC)) v fp ∧ _
  rw [flat_num]
  rcases h.row.2 with ⟨rfl, h0⟩ | ⟨g, cap, cur, rfl, g1, g2, g3, g4, g5, g6⟩
  · have hx : xs = [] := List.length_eq_zero_iff.mp h0
    subst hx
    refine ⟨[], ?_, List.nodup_nil, fun k hk => by cases hk⟩
    unfold owC
    exact .inl ⟨rfl, rfl, rfl, rfl⟩
  · refine ⟨[g], ?_, by simp, fun k hk => ?_⟩
    · unfold owC
      refine .inr ⟨g, cap, cur, E, [], rfl, g3, g4, g2, rfl, fun e => by rw [List.length_eq_zero_iff.mp e]; rfl, ?_⟩
      rw [List.length_map, ← Nat.mul_one xs.length, g6]
      exact owE_nums h.wf
    · obtain rfl := List.mem_singleton.1 hk
      have h9 := hl k rfl
      exact ⟨h9.1, h9.2.1⟩
theorem nums_thin (xs : List Int) : ctE (xs.flatMap numC) ≤ 64 * szC (rowF numC xs) := by
  rw [szC_row, ct_nums, sz_nums]
  omega
end Go.Proofs.YtmgigjpkpeamjaaGreat
