/- Three slices of integers that the call owns, each in a block of its own, beside a struct's box: what keeps them, what an append onto one leaves. No condition. -/
import Derived.Test.YtjfmmingkciapaaDoorGround
import Derived.Test.YtjfmmingkciapaaDoorMathZ
import Derived.Test.YtjfmmingkciapaaDoorDraws
namespace Go.Proofs.YtjfmmingkciapaaDoor
open Go.ChangeShapes Go.WideShapes Go.ChangeAt Go.RowKit
set_option linter.unusedVariables false

theorem Own.keepAt {E : TypeId} {K : IntKind} {w w' : World} {lo hi hi' : Nat} {v : Value} {xs : List Int} (h : Own E K w lo hi v xs) (hk : ∀ k, v.ownBlock = some k → k < w.heap.size → w'.heap[k]? = w.heap[k]?) (hh : hi ≤ hi') : Own E K w' lo hi' v xs := by
  have hl := h.lt
  refine ⟨⟨h.row.1, ?_⟩, fun k hk2 => Nat.lt_of_lt_of_le (h.hi k hk2) hh, h.wf⟩
  rcases h.row.2 with hn | ⟨g, cap, cur, rfl, g1, g2, rest⟩
  · exact .inl hn
  · exact .inr ⟨g, cap, cur, rfl, g1, (hk g rfl (hl g rfl).2.2).trans g2, rest⟩
structure Tri (E : TypeId) (w : World) (L F : Nat) (v1 v2 v3 : Value) (g o b : List Int) : Prop where
  o1 : Own E .i64 w L w.heap.size v1 g
  o2 : Own E .i64 w L w.heap.size v2 o
  o3 : Own E .i64 w L w.heap.size v3 b
  n12 : ∀ k, v1.ownBlock = some k → v2.ownBlock = some k → False
  n13 : ∀ k, v1.ownBlock = some k → v3.ownBlock = some k → False
  n23 : ∀ k, v2.ownBlock = some k → v3.ownBlock = some k → False
  f1 : v1.ownBlock = some F → False
  f2 : v2.ownBlock = some F → False
  f3 : v3.ownBlock = some F → False
section
variable {E : TypeId} {w w' : World} {L F : Nat} {v1 v2 v3 : Value} {g o b : List Int}
theorem Tri.none (w : World) (L F : Nat) : Tri E w L F (.slice none 0 0) (.slice none 0 0) (.slice none 0 0) [] [] [] := by
  have h : Own E .i64 w L w.heap.size (.slice Option.none 0 0) [] := ⟨World.ownsRow_nil w L E 1, fun k hk => by simp [Value.ownBlock] at hk, fun x hx => by cases hx⟩
  exact ⟨h, h, h, fun k hk => by simp [Value.ownBlock] at hk, fun k hk => by simp [Value.ownBlock] at hk, fun k hk => by simp [Value.ownBlock] at hk, fun hk => by simp [Value.ownBlock] at hk, fun hk => by simp [Value.ownBlock] at hk, fun hk => by simp [Value.ownBlock] at hk⟩
theorem Tri.keep (h : Tri E w L F v1 v2 v3 g o b) (hs : w.heap.size ≤ w'.heap.size) (hb : ∀ k, L ≤ k → k < w.heap.size → k ≠ F → w'.heap[k]? = w.heap[k]?) : Tri E w' L F v1 v2 v3 g o b :=
  ⟨h.o1.keepAt (fun k hk hl => hb k (h.o1.lt k hk).1 hl (fun e => h.f1 (e ▸ hk))) hs, h.o2.keepAt (fun k hk hl => hb k (h.o2.lt k hk).1 hl (fun e => h.f2 (e ▸ hk))) hs, h.o3.keepAt (fun k hk hl => hb k (h.o3.lt k hk).1 hl (fun e => h.f3 (e ▸ hk))) hs, h.n12, h.n13, h.n23, h.f1, h.f2, h.f3⟩
theorem Tri.below (h : Tri E w L F v1 v2 v3 g o b) (hb : Below w.heap.size w w') : Tri E w' L F v1 v2 v3 g o b := h.keep hb.size fun k _ hk _ => hb.block k hk
theorem Tri.only {B : Nat} (h : Tri E w L F v1 v2 v3 g o b) (ho : Only B w w') (hB : B < L) : Tri E w' L F v1 v2 v3 g o b := h.keep ho.size fun k h1 h2 _ => ho.block k h2 (by omega)
theorem Tri.setF (h : Tri E w L F v1 v2 v3 g o b) (i : Nat) (u : Value) : Tri E (w.setCell ⟨F, i, Option.none⟩ u) L F v1 v2 v3 g o b :=
  h.keep (by simp [World.setCell]) fun k _ _ hk => Below.heap_setCell w ⟨F, i, Option.none⟩ u k hk
/-- A store into a block that is none of them. -/
theorem Tri.setFar {R : Nat} (h : Tri E w L F v1 v2 v3 g o b) (hR : R < L) (i : Nat) (u : Value) : Tri E (w.setCell ⟨R, i, Option.none⟩ u) L F v1 v2 v3 g o b :=
  h.keep (by simp [World.setCell]) fun k hk _ _ => Below.heap_setCell w ⟨R, i, Option.none⟩ u k (by show k ≠ R; omega)
/-- Beside a new box. -/
theorem Tri.box (h : Tri E w L F v1 v2 v3 g o b) (ob : Obj) : Tri E (w.alloc ob) L w.heap.size v1 v2 v3 g o b := by
  have k := h.below ((Below.refl w.heap.size w).alloc (Nat.le_refl _) ob)
  exact ⟨k.o1, k.o2, k.o3, k.n12, k.n13, k.n23, fun e => Nat.lt_irrefl _ (h.o1.lt _ e).2.2, fun e => Nat.lt_irrefl _ (h.o2.lt _ e).2.2, fun e => Nat.lt_irrefl _ (h.o3.lt _ e).2.2⟩
theorem Tri.wide {L' : Nat} (h : Tri E w L F v1 v2 v3 g o b) (hL : L' ≤ L) : Tri E w L' F v1 v2 v3 g o b :=
  ⟨h.o1.wide hL (Nat.le_refl _), h.o2.wide hL (Nat.le_refl _), h.o3.wide hL (Nat.le_refl _), h.n12, h.n13, h.n23, h.f1, h.f2, h.f3⟩
theorem Tri.swap12 (h : Tri E w L F v1 v2 v3 g o b) : Tri E w L F v2 v1 v3 o g b := ⟨h.o2, h.o1, h.o3, fun k a c => h.n12 k c a, h.n23, h.n13, h.f2, h.f1, h.f3⟩
theorem Tri.swap13 (h : Tri E w L F v1 v2 v3 g o b) : Tri E w L F v3 v2 v1 b o g := ⟨h.o3, h.o2, h.o1, fun k a c => h.n23 k c a, fun k a c => h.n13 k c a, fun k a c => h.n12 k c a, h.f3, h.f2, h.f1⟩
theorem Tri.app1 {v' : Value} {g' : List Int} (h : Tri E w L F v1 v2 v3 g o b) (hF : F < w.heap.size) (hr : w'.ownsRow L E 1 v' g'.length (g'.map (Value.int .i64))) (hw : ∀ x ∈ g', (Lit.int .i64 x).wf = true) (hg : w.grownBy w' v1.ownBlock) (ha : v'.ownBlock = v1.ownBlock ∨ v'.ownBlock = some w.heap.size) : Tri E w' L F v' v2 v3 g' o b := by
  refine ⟨⟨hr, fun k hk => (hr.lt k hk).2, hw⟩, h.o2.keepAt (fun k hk hl => hg.block k hl fun e => h.n12 k e.symm hk) hg.size, h.o3.keepAt (fun k hk hl => hg.block k hl fun e => h.n13 k e.symm hk) hg.size, ?_, ?_, h.n23, ?_, h.f2, h.f3⟩
  · intro k hk hk2
    rcases ha with ha | ha
    · exact h.n12 k (ha ▸ hk) hk2
    · have := (h.o2.lt k hk2).2.2
      rw [ha] at hk
      injection hk with hk
      omega
  · intro k hk hk2
    rcases ha with ha | ha
    · exact h.n13 k (ha ▸ hk) hk2
    · have := (h.o3.lt k hk2).2.2
      rw [ha] at hk
      injection hk with hk
      omega
  · intro hk
    rcases ha with ha | ha
    · exact h.f1 (ha ▸ hk)
    · rw [ha] at hk
      injection hk with hk
      omega
theorem Tri.app2 {v' : Value} {o' : List Int} (h : Tri E w L F v1 v2 v3 g o b) (hF : F < w.heap.size) (hr : w'.ownsRow L E 1 v' o'.length (o'.map (Value.int .i64))) (hw : ∀ x ∈ o', (Lit.int .i64 x).wf = true) (hg : w.grownBy w' v2.ownBlock) (ha : v'.ownBlock = v2.ownBlock ∨ v'.ownBlock = some w.heap.size) : Tri E w' L F v1 v' v3 g o' b :=
  (h.swap12.app1 hF hr hw hg ha).swap12
theorem Tri.app3 {v' : Value} {b' : List Int} (h : Tri E w L F v1 v2 v3 g o b) (hF : F < w.heap.size) (hr : w'.ownsRow L E 1 v' b'.length (b'.map (Value.int .i64))) (hw : ∀ x ∈ b', (Lit.int .i64 x).wf = true) (hg : w.grownBy w' v3.ownBlock) (ha : v'.ownBlock = v3.ownBlock ∨ v'.ownBlock = some w.heap.size) : Tri E w' L F v1 v2 v' g o b' :=
  (h.swap13.app1 hF hr hw hg ha).swap13
theorem Tri.read {v : Int} (h : Tri E w L F v1 v2 v3 g o b) (hv : (Lit.int .i64 v).wf = true) : rdL w w.heap.size (AllowedD.c ⟨v, g, o, b⟩) [.int .i64 v, v1, v2, v3] :=
  ⟨_, _, rfl, rdC_num.2 ⟨rfl, hv⟩, _, _, rfl, ints_row.2 h.o1.read, _, _, rfl, ints_row.2 h.o2.read, _, _, rfl, ints_row.2 h.o3.read, rfl⟩
/-- What an append of one element turns: the blocks from L on, but for the others'. -/
theorem grown_only {B : Nat} {x : Option Nat} (hg : w.grownBy w' x) (hx : ∀ k, x = some k → L ≤ k) {w0 : World} (ho : Only B w0 w) (hL : w0.heap.size ≤ L) : Only B w0 w' :=
  ⟨hg.os.trans ho.os, hg.tape.trans ho.tape, hg.output.trans ho.output, Nat.le_trans ho.size hg.size, fun k hk hB => (hg.block k (Nat.lt_of_lt_of_le hk ho.size) fun e => by have := hx k e.symm; omega).trans (ho.block k hk hB)⟩
end
/-- 'append(s, y)': one element onto a slice that the call owns. -/
theorem wpList_append_one {P : Program} {w : World} {ops : Array Oper} {rest : List Oper} {o : Oper} {a : Act} {Q : Exit → Act → World → Prop} (hgd : o.guard = none) (s x : Operand) (t : TypeId)
    (ho : o.op = .call { callee := .builtin .append, args := #[s, x], argTypes := #[t, t] })
    (e : TypeId) (i : TypeInfo) (z : Value) (bytes : Nat) (ht : P.underlying t = some (.slice e)) (hi : P.info? e = some i) (hz : i.zero = some z) (hsize : i.size = 1) (hby : i.bytes = bytes) (hzs : z.cells.size = 1)
    (lo hh : Nat) (v : Value) (xs : List Int) (hs : a.eval s = v) (hown : Own e .i64 w lo hh v xs) (w0 : World) (y : Int) (T : TypeId) (hw : w = w0.alloc (.cells #[.int .i64 y] T)) (hx : a.eval x = .slice (some ⟨w0.heap.size, 0, none⟩) 1 1)
    (h63 : xs.length + 1 ≤ 2199023255552) (hb8 : bytes ≤ 8) (hbase : lo ≤ w.heap.size)
    (h : ∀ v' w', w'.ownsRow lo e 1 v' (xs ++ [y]).length ((xs ++ [y]).map (Value.int .i64)) → w.grownBy w' v.ownBlock → (v'.ownBlock = v.ownBlock ∨ v'.ownBlock = some w.heap.size) → wpList P ops Q rest (a.put o.dst v') w') : wpList P ops Q (o :: rest) a w := by
  have hbytes : (xs.length + 1) * bytes ≤ 2199023255552 * 8 := Nat.mul_le_mul h63 hb8
  refine wpList_append_own_at w hgd s x t ho lo e i z 1 bytes ht hi hz hsize hby hzs (by decide) v xs.length (xs.map (Value.int .i64)) hs hown.row _ 1 1 [.int .i64 y] hx (by simp) (by rw [hw]; exact cell_one_new _ _ _) (by simp [Value.oneCell']) (by unfold maxLen; omega) (by omega) hbase (fun v' w' g1 g2 _ g3 => h v' w' ?_ g2 g3)
  rw [List.length_append, List.map_append]
  exact g1
/-- The same as one operation of a statement whose order is open. -/
theorem step_append_one {P : Program} {w : World} {ops : Array Oper} {o : Oper} {a : Act} {K0 : Act → World → Prop} {Q : Exit → Act → World → Prop} {E0 : Prop} (hgd : o.guard = none) (s x : Operand) (t : TypeId)
    (ho : o.op = .call { callee := .builtin .append, args := #[s, x], argTypes := #[t, t] })
    (e : TypeId) (i : TypeInfo) (z : Value) (bytes : Nat) (ht : P.underlying t = some (.slice e)) (hi : P.info? e = some i) (hz : i.zero = some z) (hsize : i.size = 1) (hby : i.bytes = bytes) (hzs : z.cells.size = 1)
    (lo hh : Nat) (v : Value) (xs : List Int) (hs : a.eval s = v) (hown : Own e .i64 w lo hh v xs) (b : Nat) (y : Int) (hb : w.cell? ⟨b, 0, none⟩ = some (.int .i64 y)) (hx : a.eval x = .slice (some ⟨b, 0, none⟩) 1 1)
    (h63 : xs.length + 1 ≤ 2199023255552) (hb8 : bytes ≤ 8) (hbase : lo ≤ w.heap.size)
    (h : ∀ v' w', w'.ownsRow lo e 1 v' (xs ++ [y]).length ((xs ++ [y]).map (Value.int .i64)) → w.grownBy w' v.ownBlock → (v'.ownBlock = v.ownBlock ∨ v'.ownBlock = some w.heap.size) → K0 (a.put o.dst v') w') : if Region.wanted o (yielded ops a.tmps) = true then Oper.wp P o a w K0 Q else E0 := by
  have hw : Region.wanted o (yielded ops a.tmps) = true := by simp [Region.wanted, hgd]
  rw [if_pos hw]
  have hbytes : (xs.length + 1) * bytes ≤ 2199023255552 * 8 := Nat.mul_le_mul h63 hb8
  obtain ⟨v', w', hrun, g1, g2, _, g3⟩ := run_append_own_at (P := P) w lo t o.type e i z 1 bytes ht hi hz hsize hby hzs (by decide) v xs.length (xs.map (Value.int .i64)) hown.row ⟨b, 0, none⟩ 1 1 [.int .i64 y] (by simp) (fun j u hj => by
    match j, hj with
    | 0, hj =>
      simp at hj
      rw [← hj]
      simpa [Addr.add] using hb) (by simp [Value.oneCell']) (by unfold maxLen; omega) (by omega) hbase
  have hk := h v' w' (by rw [List.length_append, List.map_append]; exact g1) g2 g3
  unfold Oper.wp
  simp [execOp, ho, resolve, invoke, builtin, hs, hx, hrun, Result.andThen]
  exact hk
end Go.Proofs.YtjfmmingkciapaaDoor
