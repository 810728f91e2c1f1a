/- Some texts in one: StepA, One. -/
import Derived.Test.YtmgigjpkpeamjaaGreatStep
import Derived.Maps.AppendAt
/- An append onto a slice that the call owns, of which it is known where the new slice lies: for copies of structs with several slices. No condition. -/
namespace Go.Proofs.YtmgigjpkpeamjaaGreat
open Go.ChangeShapes Go.WideShapes Go.ChangeAt Go.RowKit
set_option linter.unusedVariables false

theorem Own.grown {E : TypeId} {K : IntKind} {w w' : World} {lo hi g : Nat} {v : Value} {xs : List Int} (h : Own E K w lo hi v xs) (hg : w.grownBy w' (some g)) (hne : g < lo ∨ hi ≤ g) : Own E K w' lo hi v xs :=
  h.keep fun k h1 h2 h3 => hg.block k h3 (fun e => by injection e with e; omega)
theorem below_grown {B : Nat} {w0 w w' : World} {g : Nat} (h : Below B w0 w) (hg : w.grownBy w' (some g)) (hB : B ≤ w0.heap.size) (hne : B ≤ g) : Below B w0 w' :=
  h.trans ⟨hg.os, hg.tape, hg.output, hg.size, fun k hk => hg.block k (by have := h.size; omega) (fun e => by injection e with e; omega)⟩
theorem blk_grown {w w' : World} {g F : Nat} {o : Obj} (h : w.heap[F]? = some o) (hg : w.grownBy w' (some g)) (hne : F ≠ g) : w'.heap[F]? = some o :=
  (hg.block F (Array.getElem?_eq_some_iff.1 h).1 (fun e => by injection e with e; exact hne e)).trans h
theorem step_append_at {P : Program} {w : World} {ops : Array Oper} {o : Oper} {a : Act} {K0 : Act → World → Prop} {Q : Exit → Act → World → Prop} {E0 : Prop} (hgd : o.guard = none) (s x : Operand) (t : TypeId)
    (ho : o.op = .call { callee := .builtin .append, args := #[s, x], argTypes := #[t, t] })
    (e : TypeId) (i : TypeInfo) (z : Value) (bytes : Nat) (ht : P.underlying t = some (.slice e)) (hi : P.info? e = some i) (hz : i.zero = some z) (hsize : i.size = 1) (hby : i.bytes = bytes) (hzs : z.cells.size = 1)
    (K : IntKind) (g : Nat) (v : Value) (xs : List Int) (hs : a.eval s = v) (hown : Own e K w g (g + 1) v xs) (hv : v.ownBlock = some g)
    (top' : Nat) (u : Value) (ys : List Int) (hx : a.eval x = u) (hr : Row K w top' u ys)
    (h63 : xs.length + ys.length ≤ 2199023255552) (hb8 : bytes ≤ 8)
    (h : ∀ v' w' g', Own e K w' g' (g' + 1) v' (xs ++ ys) → (g' = g ∨ g' = w.heap.size) → w.grownBy w' (some g) → g' < w'.heap.size → K0 (a.put o.dst v') w') : if Region.wanted o (yielded ops a.tmps) = true then Oper.wp P o a w K0 Q else E0 := by
  have hw : Region.wanted o (yielded ops a.tmps) = true := by simp [Region.wanted, hgd]
  rw [if_pos hw]
  have hg : g < w.heap.size := (hown.row.lt g hv).2
  have hbytes : (xs.length + ys.length) * bytes ≤ 2199023255552 * 8 := Nat.mul_le_mul h63 hb8
  have hwf := hr.wf
  obtain ⟨⟨A, c, rfl, r1, r2, r0, r3⟩, _⟩ := hr
  rcases A with _ | ad
  · have hl : ys.length = 0 := by
      rcases Nat.eq_zero_or_pos ys.length with h0 | hp
      · exact h0
      · obtain ⟨_, _, e1, _⟩ := r3 hp
        cases e1
    have hy : ys = [] := List.length_eq_zero_iff.mp hl
    subst hy
    obtain rfl := r0 rfl
    have hrun := run_append_owned_none (P := P) (w := w) g t o.type e i 1 ht hi v xs.length (xs.map (Value.int K)) hown.row
    have hk := h v w g ⟨by rw [List.append_nil]; exact hown.row, hown.hi, by rw [List.append_nil]; exact hown.wf⟩ (.inl rfl) ⟨rfl, rfl, rfl, Nat.le_refl _, fun _ _ _ => rfl⟩ hg
    have hx' : a.eval x = .slice none 0 0 := hx
    unfold Oper.wp
    simp [execOp, ho, resolve, invoke, builtin, hs, hx', hrun, Result.andThen]
    exact hk
  · obtain ⟨v', w', hrun, g1, g2, _, g3⟩ := run_append_own_at (P := P) w g t o.type e i z 1 bytes ht hi hz hsize hby hzs (by decide) v xs.length (xs.map (Value.int K)) hown.row ad ys.length c (ys.map (Value.int K)) (by simp) (fun j q hj => by
        have hj2 : j < ys.length := by
          have := (List.getElem?_eq_some_iff.1 hj).1
          simpa using this
        obtain ⟨b, off, e1, _, _, r4⟩ := r3 (by omega)
        injection e1 with e1
        subst e1
        have hadd : (⟨b, off, none⟩ : Addr).add j = ⟨b, off + j, none⟩ := by unfold Addr.add; split <;> simp_all
        rw [hadd, r4 j hj2]
        rw [List.getElem?_map, List.getElem?_eq_getElem hj2] at hj
        simp only [Option.map_some, Option.some.injEq] at hj
        rw [← hj]
        simp [List.getD, hj2]) (fun q hq => by
        obtain ⟨q', _, rfl⟩ := List.mem_map.1 hq
        rfl) (by unfold maxLen; omega) (by omega) (by omega)
    rw [hv] at g2 g3
    obtain ⟨g', hg', hg''⟩ : ∃ g', v'.ownBlock = some g' ∧ (g' = g ∨ g' = w.heap.size) := by
      rcases g3 with e1 | e1
      · exact ⟨_, e1, .inl rfl⟩
      · exact ⟨_, e1, .inr rfl⟩
    have hlt := (g1.lt g' hg').2
    rw [← List.map_append, ← List.length_append] at g1
    have hk := h v' w' g' ⟨⟨g1.1, ?_⟩, fun k hk => by rw [hg'] at hk; injection hk with hk; omega, fun q hq => ?_⟩ hg'' g2 hlt
    · unfold Oper.wp
      have hx' : a.eval x = .slice (some ad) ys.length c := hx
      simp [execOp, ho, resolve, invoke, builtin, hs, hx', hrun, Result.andThen]
      exact hk
    · rcases g1.2 with ⟨rfl, _⟩ | ⟨g0, cap, cur, rfl, k1, rest⟩
      · simp [Value.ownBlock] at hg'
      · have : g0 = g' := by simpa [Value.ownBlock] using hg'
        exact .inr ⟨g0, cap, cur, rfl, by omega, rest⟩
    · rcases List.mem_append.1 hq with hq | hq
      · exact hown.wf q hq
      · exact hwf q hq
end Go.Proofs.YtmgigjpkpeamjaaGreat
/- One element appended onto a slice of integers that the call owns: where the new slice lies, and what turns. No condition; any program. -/
namespace Go.Proofs.YtmgigjpkpeamjaaGreat
open Go.ChangeShapes Go.WideShapes Go.ChangeAt Go.RowKit
set_option linter.unusedVariables false

theorem Own.keepAt {E : TypeId} {K : IntKind} {w w' : World} {lo hi hi' : Nat} {v : Value} {xs : List Int} (h : Own E K w lo hi v xs) (hk : ∀ k, v.ownBlock = some k → k < w.heap.size → w'.heap[k]? = w.heap[k]?) (hh : hi ≤ hi') : Own E K w' lo hi' v xs := by
  have hl := h.lt
  refine ⟨⟨h.row.1, ?_⟩, fun k hk2 => Nat.lt_of_lt_of_le (h.hi k hk2) hh, h.wf⟩
  rcases h.row.2 with hn | ⟨g, cap, cur, rfl, g1, g2, rest⟩
  · exact .inl hn
  · exact .inr ⟨g, cap, cur, rfl, g1, (hk g rfl (hl g rfl).2.2).trans g2, rest⟩
/-- 'append(s, y)': one element onto a slice that the call owns. -/
theorem wpList_append_one {P : Program} {w : World} {ops : Array Oper} {rest : List Oper} {o : Oper} {a : Act} {Q : Exit → Act → World → Prop} (hgd : o.guard = none) (s x : Operand) (t : TypeId)
    (ho : o.op = .call { callee := .builtin .append, args := #[s, x], argTypes := #[t, t] })
    (e : TypeId) (i : TypeInfo) (z : Value) (bytes : Nat) (ht : P.underlying t = some (.slice e)) (hi : P.info? e = some i) (hz : i.zero = some z) (hsize : i.size = 1) (hby : i.bytes = bytes) (hzs : z.cells.size = 1)
    (lo hh : Nat) (v : Value) (xs : List Int) (hs : a.eval s = v) (hown : Own e .i64 w lo hh v xs) (w0 : World) (y : Int) (T : TypeId) (hw : w = w0.alloc (.cells #[.int .i64 y] T)) (hx : a.eval x = .slice (some ⟨w0.heap.size, 0, none⟩) 1 1)
    (h63 : xs.length + 1 ≤ 2199023255552) (hb8 : bytes ≤ 8) (hbase : lo ≤ w.heap.size)
    (h : ∀ v' w', w'.ownsRow lo e 1 v' (xs ++ [y]).length ((xs ++ [y]).map (Value.int .i64)) → w.grownBy w' v.ownBlock → (v'.ownBlock = v.ownBlock ∨ v'.ownBlock = some w.heap.size) → wpList P ops Q rest (a.put o.dst v') w') : wpList P ops Q (o :: rest) a w := by
  have hbytes : (xs.length + 1) * bytes ≤ 2199023255552 * 8 := Nat.mul_le_mul h63 hb8
  refine wpList_append_own_at w hgd s x t ho lo e i z 1 bytes ht hi hz hsize hby hzs (by decide) v xs.length (xs.map (Value.int .i64)) hs hown.row _ 1 1 [.int .i64 y] hx (by simp) (by rw [hw]; exact cell_one_new _ _ _) (by simp [Value.oneCell']) (by unfold maxLen; omega) (by omega) hbase (fun v' w' g1 g2 _ g3 => h v' w' ?_ g2 g3)
  rw [List.length_append, List.map_append]
  exact g1
/-- The same as one operation of a statement whose order is open. -/
theorem step_append_one {P : Program} {w : World} {ops : Array Oper} {o : Oper} {a : Act} {K0 : Act → World → Prop} {Q : Exit → Act → World → Prop} {E0 : Prop} (hgd : o.guard = none) (s x : Operand) (t : TypeId)
    (ho : o.op = .call { callee := .builtin .append, args := #[s, x], argTypes := #[t, t] })
    (e : TypeId) (i : TypeInfo) (z : Value) (bytes : Nat) (ht : P.underlying t = some (.slice e)) (hi : P.info? e = some i) (hz : i.zero = some z) (hsize : i.size = 1) (hby : i.bytes = bytes) (hzs : z.cells.size = 1)
    (lo hh : Nat) (v : Value) (xs : List Int) (hs : a.eval s = v) (hown : Own e .i64 w lo hh v xs) (b : Nat) (y : Int) (hb : w.cell? ⟨b, 0, none⟩ = some (.int .i64 y)) (hx : a.eval x = .slice (some ⟨b, 0, none⟩) 1 1)
    (h63 : xs.length + 1 ≤ 2199023255552) (hb8 : bytes ≤ 8) (hbase : lo ≤ w.heap.size)
    (h : ∀ v' w', w'.ownsRow lo e 1 v' (xs ++ [y]).length ((xs ++ [y]).map (Value.int .i64)) → w.grownBy w' v.ownBlock → (v'.ownBlock = v.ownBlock ∨ v'.ownBlock = some w.heap.size) → K0 (a.put o.dst v') w') : if Region.wanted o (yielded ops a.tmps) = true then Oper.wp P o a w K0 Q else E0 := by
  have hw : Region.wanted o (yielded ops a.tmps) = true := by simp [Region.wanted, hgd]
  rw [if_pos hw]
  have hbytes : (xs.length + 1) * bytes ≤ 2199023255552 * 8 := Nat.mul_le_mul h63 hb8
  obtain ⟨v', w', hrun, g1, g2, _, g3⟩ := run_append_own_at (P := P) w lo t o.type e i z 1 bytes ht hi hz hsize hby hzs (by decide) v xs.length (xs.map (Value.int .i64)) hown.row ⟨b, 0, none⟩ 1 1 [.int .i64 y] (by simp) (fun j u hj => by
    match j, hj with
    | 0, hj =>
      simp at hj
      rw [← hj]
      simpa [Addr.add] using hb) (by simp [Value.oneCell']) (by unfold maxLen; omega) (by omega) hbase
  have hk := h v' w' (by rw [List.length_append, List.map_append]; exact g1) g2 g3
  unfold Oper.wp
  simp [execOp, ho, resolve, invoke, builtin, hs, hx, hrun, Result.andThen]
  exact hk
end Go.Proofs.YtmgigjpkpeamjaaGreat
