/- A law for an append inside a statement whose order Go leaves open. No condition. -/
import Derived.Test.YtmgigjpkpeamjaaGreatRow
import Derived.Deep.RegionHeld3
import Derived.Deep.AppendLies
import Derived.Laws.AppendOwnNone
namespace Go.Proofs.YtmgigjpkpeamjaaGreat
open Go.ChangeShapes Go.WideShapes Go.ChangeAt Go.RowKit
set_option linter.unusedVariables false

/-- 'append(out, b...)' as one operation: out the call's own, b any slice that can be read. -/
theorem wp_append_Own {P : Program} {w : World} {o : Oper} {a : Act} {K0 : Act → World → Prop} {Q : Exit → Act → World → Prop} (s x : Operand) (t : TypeId)
    (ho : o.op = .call { callee := .builtin .append, args := #[s, x], argTypes := #[t, t] })
    (e : TypeId) (i : TypeInfo) (z : Value) (bytes : Nat) (ht : P.underlying t = some (.slice e)) (hi : P.info? e = some i) (hz : i.zero = some z) (hsize : i.size = 1) (hby : i.bytes = bytes) (hzs : z.cells.size = 1)
    (K : IntKind) (lo top : Nat) (v : Value) (xs : List Int) (hs : a.eval s = v) (hown : Own e K w lo top v xs)
    (top' : Nat) (u : Value) (ys : List Int) (hx : a.eval x = u) (hr : Row K w top' u ys)
    (h63 : xs.length + ys.length ≤ 2199023255552) (hb8 : bytes ≤ 8) (hbase : lo ≤ w.heap.size)
    (h : ∀ v' w', Own e K w' lo w'.heap.size v' (xs ++ ys) → Below lo w w' → K0 (a.put o.dst v') w') : Oper.wp P o a w K0 Q := by
  have hbytes : (xs.length + ys.length) * bytes ≤ 2199023255552 * 8 := Nat.mul_le_mul h63 hb8
  have hwf := hr.wf
  obtain ⟨⟨A, c, rfl, r1, r2, r0, r3⟩, _⟩ := hr
  rcases A with _ | ad
  · have hl : ys.length = 0 := by
      rcases Nat.eq_zero_or_pos ys.length with h0 | hp
      · exact h0
      · obtain ⟨_, _, e1, _⟩ := r3 hp
        cases e1
    have hy : ys = [] := List.length_eq_zero_iff.mp hl
    subst hy
    obtain rfl := r0 rfl
    have hrun := run_append_owned_none (P := P) (w := w) lo t o.type e i 1 ht hi v xs.length (xs.map (Value.int K)) hown.row
    have hk := h v w ⟨by rw [List.append_nil]; exact hown.row, fun k hk => (hown.lt k hk).2.2, by rw [List.append_nil]; exact hown.wf⟩ (Below.refl _ _)
    have hx' : a.eval x = .slice none 0 0 := hx
    unfold Oper.wp
    simp [execOp, ho, resolve, invoke, builtin, hs, hx', hrun, Result.andThen]
    exact hk
  · refine wp_append_own w s x t ho lo e i z 1 bytes ht hi hz hsize hby hzs (by decide) v xs.length (xs.map (Value.int K)) hs hown.row ad ys.length c (ys.map (Value.int K)) hx (by simp) (fun j q hj => ?_) (fun q hq => ?_) (by unfold maxLen; omega) (by omega) hbase (fun v' w' g1 g2 _ => h v' w' ⟨?_, fun k hk => (g1.lt k hk).2, fun q hq => ?_⟩ ⟨g2.os, g2.tape, g2.output, g2.size, fun k hk => g2.block k (by omega) fun e1 => ?_⟩)
    · have hj2 : j < ys.length := by
        have := (List.getElem?_eq_some_iff.1 hj).1
        simpa using this
      obtain ⟨b, off, e1, _, _, r4⟩ := r3 (by omega)
      injection e1 with e1
      subst e1
      have hadd : (⟨b, off, none⟩ : Addr).add j = ⟨b, off + j, none⟩ := by unfold Addr.add; split <;> simp_all
      rw [hadd, r4 j hj2]
      rw [List.getElem?_map, List.getElem?_eq_getElem hj2] at hj
      simp only [Option.map_some, Option.some.injEq] at hj
      rw [← hj]
      simp [List.getD, hj2]
    · obtain ⟨q', _, rfl⟩ := List.mem_map.1 hq
      rfl
    · rw [List.length_append, List.map_append]
      exact g1
    · rcases List.mem_append.1 hq with hq | hq
      · exact hown.wf q hq
      · exact hwf q hq
    · have := (hown.lt k e1.symm).1
      omega
/-- The same where it comes up in a statement whose order is open. -/
theorem step_append_Own {P : Program} {w : World} {ops : Array Oper} {o : Oper} {a : Act} {K0 : Act → World → Prop} {Q : Exit → Act → World → Prop} {E0 : Prop} (hgd : o.guard = none) (s x : Operand) (t : TypeId)
    (ho : o.op = .call { callee := .builtin .append, args := #[s, x], argTypes := #[t, t] })
    (e : TypeId) (i : TypeInfo) (z : Value) (bytes : Nat) (ht : P.underlying t = some (.slice e)) (hi : P.info? e = some i) (hz : i.zero = some z) (hsize : i.size = 1) (hby : i.bytes = bytes) (hzs : z.cells.size = 1)
    (K : IntKind) (lo top : Nat) (v : Value) (xs : List Int) (hs : a.eval s = v) (hown : Own e K w lo top v xs)
    (top' : Nat) (u : Value) (ys : List Int) (hx : a.eval x = u) (hr : Row K w top' u ys)
    (h63 : xs.length + ys.length ≤ 2199023255552) (hb8 : bytes ≤ 8) (hbase : lo ≤ w.heap.size)
    (h : ∀ v' w', Own e K w' lo w'.heap.size v' (xs ++ ys) → Below lo w w' → K0 (a.put o.dst v') w') : if Region.wanted o (yielded ops a.tmps) = true then Oper.wp P o a w K0 Q else E0 := by
  have hw : Region.wanted o (yielded ops a.tmps) = true := by simp [Region.wanted, hgd]
  rw [if_pos hw]
  exact wp_append_Own s x t ho e i z bytes ht hi hz hsize hby hzs K lo top v xs hs hown top' u ys hx hr h63 hb8 hbase h
/-- The same behind a guard that is open. -/
theorem wpList_append_OwnG {P : Program} {w : World} {ops : Array Oper} {rest : List Oper} {o : Oper} {a : Act} {Q : Exit → Act → World → Prop} (hw : Region.wanted o (yielded ops a.tmps) = true) (s x : Operand) (t : TypeId)
    (ho : o.op = .call { callee := .builtin .append, args := #[s, x], argTypes := #[t, t] })
    (e : TypeId) (i : TypeInfo) (z : Value) (bytes : Nat) (ht : P.underlying t = some (.slice e)) (hi : P.info? e = some i) (hz : i.zero = some z) (hsize : i.size = 1) (hby : i.bytes = bytes) (hzs : z.cells.size = 1)
    (K : IntKind) (lo top : Nat) (v : Value) (xs : List Int) (hs : a.eval s = v) (hown : Own e K w lo top v xs)
    (top' : Nat) (u : Value) (ys : List Int) (hx : a.eval x = u) (hr : Row K w top' u ys)
    (h63 : xs.length + ys.length ≤ 2199023255552) (hb8 : bytes ≤ 8) (hbase : lo ≤ w.heap.size)
    (h : ∀ v' w', Own e K w' lo w'.heap.size v' (xs ++ ys) → Below lo w w' → wpList P ops Q rest (a.put o.dst v') w') : wpList P ops Q (o :: rest) a w := by
  refine wpList_step fun K0 hK => ?_
  rw [if_pos hw]
  exact wp_append_Own s x t ho e i z bytes ht hi hz hsize hby hzs K lo top v xs hs hown top' u ys hx hr h63 hb8 hbase fun v' w' h1 h2 => hK _ _ (h v' w' h1 h2)
/-- What the append gives, ahead of the walk: for an append behind a guard. -/
theorem run_append_Own {P : Program} (w : World) (t ty : TypeId)
    (e : TypeId) (i : TypeInfo) (z : Value) (bytes : Nat) (ht : P.underlying t = some (.slice e)) (hi : P.info? e = some i) (hz : i.zero = some z) (hsize : i.size = 1) (hby : i.bytes = bytes) (hzs : z.cells.size = 1)
    (K : IntKind) (lo top : Nat) (v : Value) (xs : List Int) (hown : Own e K w lo top v xs)
    (top' : Nat) (u : Value) (ys : List Int) (hr : Row K w top' u ys)
    (h63 : xs.length + ys.length ≤ 2199023255552) (hb8 : bytes ≤ 8) (hbase : lo ≤ w.heap.size) :
    ∃ v' w', (Builtin.append_ #[t, t] ty #[v, u]).run P w = .ok v' w' ∧ Own e K w' lo w'.heap.size v' (xs ++ ys) ∧ Below lo w w' := by
  have hbytes : (xs.length + ys.length) * bytes ≤ 2199023255552 * 8 := Nat.mul_le_mul h63 hb8
  have hwf := hr.wf
  obtain ⟨⟨A, c, rfl, r1, r2, r0, r3⟩, _⟩ := hr
  rcases A with _ | ad
  · have hl : ys.length = 0 := by
      rcases Nat.eq_zero_or_pos ys.length with h0 | hp
      · exact h0
      · obtain ⟨_, _, e1, _⟩ := r3 hp
        cases e1
    have hy : ys = [] := List.length_eq_zero_iff.mp hl
    subst hy
    obtain rfl := r0 rfl
    exact ⟨v, w, run_append_owned_none (P := P) (w := w) lo t ty e i 1 ht hi v xs.length (xs.map (Value.int K)) hown.row,
      ⟨by rw [List.append_nil]; exact hown.row, fun k hk => (hown.lt k hk).2.2, by rw [List.append_nil]; exact hown.wf⟩, Below.refl _ _⟩
  · obtain ⟨v', w', hrun, g1, g2, _⟩ := run_append_own (P := P) w lo t ty e i z 1 bytes ht hi hz hsize hby hzs (by decide) v xs.length (xs.map (Value.int K)) hown.row ad ys.length c (ys.map (Value.int K)) (by simp) (fun j q hj => by
      have hj2 : j < ys.length := by
        have := (List.getElem?_eq_some_iff.1 hj).1
        simpa using this
      obtain ⟨b, off, e1, _, _, r4⟩ := r3 (by omega)
      injection e1 with e1
      subst e1
      have hadd : (⟨b, off, none⟩ : Addr).add j = ⟨b, off + j, none⟩ := by unfold Addr.add; split <;> simp_all
      rw [hadd, r4 j hj2]
      rw [List.getElem?_map, List.getElem?_eq_getElem hj2] at hj
      simp only [Option.map_some, Option.some.injEq] at hj
      rw [← hj]
      simp [List.getD, hj2]) (fun q hq => by
      obtain ⟨q', _, rfl⟩ := List.mem_map.1 hq
      rfl) (by unfold maxLen; omega) (by omega) hbase
    refine ⟨v', w', hrun, ⟨?_, fun k hk => (g1.lt k hk).2, fun q hq => ?_⟩, ⟨g2.os, g2.tape, g2.output, g2.size, fun k hk => g2.block k (by omega) fun e1 => ?_⟩⟩
    · rw [List.length_append, List.map_append]
      exact g1
    · rcases List.mem_append.1 hq with hq | hq
      · exact hown.wf q hq
      · exact hwf q hq
    · have := (hown.lt k e1.symm).1
      omega
theorem Own.form {E : TypeId} {K : IntKind} {w : World} {lo hi : Nat} {v : Value} {xs : List Int} (h : Own E K w lo hi v xs) (hp : 0 < xs.length) :
    ∃ g cap, v = .slice (some ⟨g, 0, none⟩) xs.length cap ∧ xs.length ≤ cap ∧ cap ≤ maxLen ∧ lo ≤ g ∧ g < hi ∧ g < w.heap.size := by
  have hl := h.lt
  rcases h.row.2 with ⟨_, h0⟩ | ⟨g, cap, cur, rfl, g1, _, g3, g4, _⟩
  · omega
  · obtain ⟨_, l2, l3⟩ := hl g rfl
    exact ⟨g, cap, rfl, g3, g4, g1, l2, l3⟩
/-- One place of a slice of the call's own is written. -/
theorem Own.set {E : TypeId} {K : IntKind} {w : World} {lo hi g cap n : Nat} {xs : List Int} (h : Own E K w lo hi (.slice (some ⟨g, 0, none⟩) n cap) xs) (j : Nat) (y : Int) (hy : (Lit.int K y).wf = true) :
    Own E K (w.setCell ⟨g, j, none⟩ (.int K y)) lo hi (.slice (some ⟨g, 0, none⟩) n cap) (xs.set j y) := by
  have hn : n = xs.length := by
    rcases h.row.2 with ⟨h0, _⟩ | ⟨g', cap', cur, h0, _⟩
    · cases h0
    · injection h0
  subst hn
  refine ⟨?_, h.hi, fun x hx => ?_⟩
  · rw [List.length_set, List.map_set]
    exact (h.row.stored j (.int K y)).1
  · rcases List.mem_or_eq_of_mem_set hx with hx | rfl
    · exact h.wf x hx
    · exact hy
theorem Own.drew {E : TypeId} {K : IntKind} {w : World} {lo hi : Nat} {v : Value} {xs : List Int} (h : Own E K w lo hi v xs) : Own E K w.drew lo hi v xs := ⟨h.row.drew, h.hi, h.wf⟩
end Go.Proofs.YtmgigjpkpeamjaaGreat
