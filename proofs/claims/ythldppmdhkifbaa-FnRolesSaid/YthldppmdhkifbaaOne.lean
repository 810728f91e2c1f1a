/- One element appended onto a slice of integers that the call owns: where the new slice lies, and what turns. No condition; any program. -/
import Derived.Test.YthldppmdhkifbaaStepA
namespace Go.Proofs.Ythldppmdhkifbaa
open Go.ChangeShapes Go.WideShapes Go.ChangeAt Go.RowKit
set_option linter.unusedVariables false

theorem Own.keepAt {E : TypeId} {K : IntKind} {w w' : World} {lo hi hi' : Nat} {v : Value} {xs : List Int} (h : Own E K w lo hi v xs) (hk : ∀ k, v.ownBlock = some k → k < w.heap.size → w'.heap[k]? = w.heap[k]?) (hh : hi ≤ hi') : Own E K w' lo hi' v xs := by
  have hl := h.lt
  refine ⟨⟨h.row.1, ?_⟩, fun k hk2 => Nat.lt_of_lt_of_le (h.hi k hk2) hh, h.wf⟩
  rcases h.row.2 with hn | ⟨g, cap, cur, rfl, g1, g2, rest⟩
  · exact .inl hn
  · exact .inr ⟨g, cap, cur, rfl, g1, (hk g rfl (hl g rfl).2.2).trans g2, rest⟩
/-- 'append(s, y)': one element onto a slice that the call owns. -/
theorem wpList_append_one {P : Program} {w : World} {ops : Array Oper} {rest : List Oper} {o : Oper} {a : Act} {Q : Exit → Act → World → Prop} (hgd : o.guard = none) (s x : Operand) (t : TypeId)
    (ho : o.op = .call { callee := .builtin .append, args := #[s, x], argTypes := #[t, t] })
    (e : TypeId) (i : TypeInfo) (z : Value) (bytes : Nat) (ht : P.underlying t = some (.slice e)) (hi : P.info? e = some i) (hz : i.zero = some z) (hsize : i.size = 1) (hby : i.bytes = bytes) (hzs : z.cells.size = 1)
    (lo hh : Nat) (v : Value) (xs : List Int) (hs : a.eval s = v) (hown : Own e .i64 w lo hh v xs) (w0 : World) (y : Int) (T : TypeId) (hw : w = w0.alloc (.cells #[.int .i64 y] T)) (hx : a.eval x = .slice (some ⟨w0.heap.size, 0, none⟩) 1 1)
    (h63 : xs.length + 1 ≤ 2199023255552) (hb8 : bytes ≤ 8) (hbase : lo ≤ w.heap.size)
    (h : ∀ v' w', w'.ownsRow lo e 1 v' (xs ++ [y]).length ((xs ++ [y]).map (Value.int .i64)) → w.grownBy w' v.ownBlock → (v'.ownBlock = v.ownBlock ∨ v'.ownBlock = some w.heap.size) → wpList P ops Q rest (a.put o.dst v') w') : wpList P ops Q (o :: rest) a w := by
  have hbytes : (xs.length + 1) * bytes ≤ 2199023255552 * 8 := Nat.mul_le_mul h63 hb8
  refine wpList_append_own_at w hgd s x t ho lo e i z 1 bytes ht hi hz hsize hby hzs (by decide) v xs.length (xs.map (Value.int .i64)) hs hown.row _ 1 1 [.int .i64 y] hx (by simp) (by rw [hw]; exact cell_one_new _ _ _) (by simp [Value.oneCell']) (by unfold maxLen; omega) (by omega) hbase (fun v' w' g1 g2 _ g3 => h v' w' ?_ g2 g3)
  rw [List.length_append, List.map_append]
  exact g1
/-- The same as one operation of a statement whose order is open. -/
theorem step_append_one {P : Program} {w : World} {ops : Array Oper} {o : Oper} {a : Act} {K0 : Act → World → Prop} {Q : Exit → Act → World → Prop} {E0 : Prop} (hgd : o.guard = none) (s x : Operand) (t : TypeId)
    (ho : o.op = .call { callee := .builtin .append, args := #[s, x], argTypes := #[t, t] })
    (e : TypeId) (i : TypeInfo) (z : Value) (bytes : Nat) (ht : P.underlying t = some (.slice e)) (hi : P.info? e = some i) (hz : i.zero = some z) (hsize : i.size = 1) (hby : i.bytes = bytes) (hzs : z.cells.size = 1)
    (lo hh : Nat) (v : Value) (xs : List Int) (hs : a.eval s = v) (hown : Own e .i64 w lo hh v xs) (b : Nat) (y : Int) (hb : w.cell? ⟨b, 0, none⟩ = some (.int .i64 y)) (hx : a.eval x = .slice (some ⟨b, 0, none⟩) 1 1)
    (h63 : xs.length + 1 ≤ 2199023255552) (hb8 : bytes ≤ 8) (hbase : lo ≤ w.heap.size)
    (h : ∀ v' w', w'.ownsRow lo e 1 v' (xs ++ [y]).length ((xs ++ [y]).map (Value.int .i64)) → w.grownBy w' v.ownBlock → (v'.ownBlock = v.ownBlock ∨ v'.ownBlock = some w.heap.size) → K0 (a.put o.dst v') w') : if Region.wanted o (yielded ops a.tmps) = true then Oper.wp P o a w K0 Q else E0 := by
  have hw : Region.wanted o (yielded ops a.tmps) = true := by simp [Region.wanted, hgd]
  rw [if_pos hw]
  have hbytes : (xs.length + 1) * bytes ≤ 2199023255552 * 8 := Nat.mul_le_mul h63 hb8
  obtain ⟨v', w', hrun, g1, g2, _, g3⟩ := run_append_own_at (P := P) w lo t o.type e i z 1 bytes ht hi hz hsize hby hzs (by decide) v xs.length (xs.map (Value.int .i64)) hown.row ⟨b, 0, none⟩ 1 1 [.int .i64 y] (by simp) (fun j u hj => by
    match j, hj with
    | 0, hj =>
      simp at hj
      rw [← hj]
      simpa [Addr.add] using hb) (by simp [Value.oneCell']) (by unfold maxLen; omega) (by omega) hbase
  have hk := h v' w' (by rw [List.length_append, List.map_append]; exact g1) g2 g3
  unfold Oper.wp
  simp [execOp, ho, resolve, invoke, builtin, hs, hx, hrun, Result.andThen]
  exact hk
end Go.Proofs.Ythldppmdhkifbaa
