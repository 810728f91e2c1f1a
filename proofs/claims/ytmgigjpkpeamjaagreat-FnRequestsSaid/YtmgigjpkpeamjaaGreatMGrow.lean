/- Some texts in one: Cond1, Grow. -/
import Derived.Test.YtmgigjpkpeamjaaGreatCondM
import Derived.Test.YtmgigjpkpeamjaaGreatCellS
import Derived.Test.YtmgigjpkpeamjaaGreatMDraw5
import Derived.Test.YtmgigjpkpeamjaaGreatMFacts
import Derived.Test.YtmgigjpkpeamjaaGreatCell2
import Derived.Test.YtmgigjpkpeamjaaGreatMBlk
import Derived.Maps.AppendAt
import Derived.Deep.RegionHeld3
/- Conditions (chapter 15): contracts of the model: arity, size, validity. No condition but the bounds of what came in. -/
namespace Go.Proofs.YtmgigjpkpeamjaaGreat
open Go.ChangeShapes Go.WideShapes Go.ChangeAt Go.RowKit
set_option linter.unusedVariables false

/-- A condition that came in: three numbers and a slice. -/
theorem cond_in {w : World} {hi : Nat} {o a b : Int} {es : List CondD} {vs : List Value} (h : rdL w hi (CondD.c ⟨o, a, b, es⟩) vs) :
    ∃ A c, vs = [.int .i64 o, .int .i64 a, .int .i64 b, .slice A es.length c] ∧ es.length ≤ c ∧ c ≤ maxLen ∧ rdC w hi (rowF CondD.c es) (.slice A es.length c) := by
  obtain ⟨k3, rfl, -, -, -, h3⟩ := CondD.rd h
  obtain ⟨A, c, rfl, f1, f2⟩ := h3.form
  exact ⟨A, c, rfl, f1, f2, h3⟩
theorem cond_wf {w : World} {hi : Nat} {o a b : Int} {es : List CondD} {vs : List Value} (h : rdL w hi (CondD.c ⟨o, a, b, es⟩) vs) : (Lit.int .i64 o).wf = true ∧ (Lit.int .i64 a).wf = true ∧ (Lit.int .i64 b).wf = true := by
  obtain ⟨k3, rfl, h1, h2, h3, -⟩ := CondD.rd h
  exact ⟨h1, h2, h3⟩
/-- One argument of those that came in. -/
theorem cond_at {w : World} {hi c k : Nat} {A : Option Addr} {es : List CondD} {o a b : Int} {fs : List CondD} (h : rdC w hi (rowF CondD.c es) (.slice A es.length c)) (hx : es[k]? = some ⟨o, a, b, fs⟩) :
    ∃ b' off A' c', A = some ⟨b', off, none⟩ ∧ b' < hi ∧ b' < w.heap.size ∧ rdL w hi (CondD.c ⟨o, a, b, fs⟩) [.int .i64 o, .int .i64 a, .int .i64 b, .slice A' fs.length c'] ∧
      ∀ (B : Nat) (w' : World), b' < B → Below B w w' → w'.cell? ⟨b', off + k * 4, none⟩ = some (.int .i64 o) ∧ w'.cell? ⟨b', off + k * 4 + 1, none⟩ = some (.int .i64 a) ∧ w'.cell? ⟨b', off + k * 4 + 2, none⟩ = some (.int .i64 b) ∧ w'.cell? ⟨b', off + k * 4 + 3, none⟩ = some (.slice A' fs.length c') := by
  obtain ⟨vs, b', off, hr, rfl, m1, m2, HC⟩ := rdC.at CondD.c_len h hx
  obtain ⟨A', c', rfl, -, -, -⟩ := cond_in hr
  exact ⟨b', off, A', c', rfl, m1, m2, hr, fun B w' hB hb => ⟨HC 0 _ rfl _ _ hB hb, HC 1 _ rfl _ _ hB hb, HC 2 _ rfl _ _ hB hb, HC 3 _ rfl _ _ hB hb⟩⟩
theorem size_lt {es : List CondD} {k : Nat} {x : CondD} (h : es[k]? = some x) (o a b : Int) : sizeD x < sizeD ⟨o, a, b, es⟩ := by
  have h1 := sizesTo_succ h
  have h2 := (sizesTo_le es (k + 1) (List.getElem?_eq_some_iff.1 h).1).2
  have h3 := (sizesTo_le es k (Nat.le_of_lt (List.getElem?_eq_some_iff.1 h).1)).1
  rw [sizesTo_all]
  omega
end Go.Proofs.YtmgigjpkpeamjaaGreat
/- A row of the call's own that grows by appends of elements which own blocks themselves. No condition; any program. -/
namespace Go.Proofs.YtmgigjpkpeamjaaGreat
open Go.ChangeShapes Go.WideShapes Go.ChangeAt Go.RowKit
set_option linter.unusedVariables false

structure Grow (E : TypeId) (s : Nat) (w : World) (L : Nat) (v : Value) (n : Nat) (cs : List Cell) (us : List Value) (f : List Nat) : Prop where
  row : w.ownsRow L E s v n us
  own : owE w cs us f
  nd : f.Nodup
  ne : ∀ g, v.ownBlock = some g → g ∉ f
  ge : ∀ x ∈ f, L ≤ x
section
variable {E : TypeId} {s n L : Nat} {w w' : World} {v : Value} {cs : List Cell} {us : List Value} {f : List Nat}
theorem Grow.nil (E : TypeId) (s : Nat) (w : World) (L : Nat) : Grow E s w L (.slice none 0 0) 0 [] [] [] :=
  ⟨World.ownsRow_nil w L E s, owE_nil.2 ⟨rfl, rfl⟩, List.nodup_nil, fun g _ h => (by cases h), fun x h => (by cases h)⟩
theorem Grow.lit (E : TypeId) (s : Nat) (w : World) : Grow E s (w.alloc (.cells #[] E)) w.heap.size (.slice (some ⟨w.heap.size, 0, none⟩) 0 0) 0 [] [] [] :=
  ⟨(OwnC.empty E s w).row, owE_nil.2 ⟨rfl, rfl⟩, List.nodup_nil, fun g _ h => (by cases h), fun x h => (by cases h)⟩
theorem Grow.litE {vs : List Value} (ho : owE w cs vs f) (nd : f.Nodup) (ge : ∀ x ∈ f, L ≤ x) (hL : L ≤ w.heap.size) (hl : vs.length = n * s) (hm : n ≤ maxLen) : Grow E s (w.alloc (.cells vs.toArray E)) L (.slice (some ⟨w.heap.size, 0, none⟩) n n) n cs vs f := by
  refine ⟨by simpa using World.ownsRow_lit (base := L) (e := E) (size := s) w vs.toArray n hL hm (by simpa using hl), ho.keep fun k hk => ((Below.refl w.heap.size w).alloc (Nat.le_refl _) _).block k (owE.lt ho k hk), nd, fun g hg hx => ?_, ge⟩
  have e : w.heap.size = g := by simpa [Value.ownBlock] using hg
  have := owE.lt ho g hx
  omega
theorem Grow.lt (h : Grow E s w L v n cs us f) : (∀ g, v.ownBlock = some g → L ≤ g ∧ g < w.heap.size) ∧ ∀ x ∈ f, L ≤ x ∧ x < w.heap.size := ⟨fun g hg => h.row.lt g hg, fun x hx => ⟨h.ge x hx, owE.lt h.own x hx⟩⟩
theorem Grow.keep (h : Grow E s w L v n cs us f) (hb : ∀ k, L ≤ k → k < w.heap.size → w'.heap[k]? = w.heap[k]?) : Grow E s w' L v n cs us f := by
  refine ⟨⟨h.row.1, ?_⟩, h.own.keep fun k hk => hb k (h.ge k hk) (owE.lt h.own k hk), h.nd, h.ne, h.ge⟩
  have hl := h.lt.1
  rcases h.row.2 with hn | ⟨g, cap, cur, rfl, g1, g2, rest⟩
  · exact .inl hn
  · exact .inr ⟨g, cap, cur, rfl, g1, (hb g g1 (hl g rfl).2).trans g2, rest⟩
theorem Grow.below (h : Grow E s w L v n cs us f) (hb : Below w.heap.size w w') : Grow E s w' L v n cs us f := h.keep fun k _ hk => hb.block k hk
theorem Grow.wide {L' : Nat} (h : Grow E s w L v n cs us f) (hL : L' ≤ L) : Grow E s w L' v n cs us f := by
  refine ⟨⟨h.row.1, ?_⟩, h.own, h.nd, h.ne, fun x hx => Nat.le_trans hL (h.ge x hx)⟩
  rcases h.row.2 with hn | ⟨g, cap, cur, rfl, g1, g2, rest⟩
  · exact .inl hn
  · exact .inr ⟨g, cap, cur, rfl, by omega, g2, rest⟩
/-- Behind an append of one element. -/
theorem Grow.app {v' : Value} {ds : List Cell} {vs : List Value} {f2 : List Nat} (h : Grow E s w L v n cs us f) (ho : owE w ds vs f2) (nd2 : f2.Nodup) (h2 : ∀ x ∈ f2, L ≤ x ∧ x ∉ f ∧ v.ownBlock ≠ some x)
    (hr : w'.ownsRow L E s v' (n + 1) (us ++ vs)) (hg : w.grownBy w' v.ownBlock) (ha : v'.ownBlock = v.ownBlock ∨ v'.ownBlock = some w.heap.size) : Grow E s w' L v' (n + 1) (cs ++ ds) (us ++ vs) (f ++ f2) := by
  have hf : ∀ x ∈ f, w'.heap[x]? = w.heap[x]? := fun x hx => hg.block x (owE.lt h.own x hx) fun e => h.ne x e.symm hx
  have hf2 : ∀ x ∈ f2, w'.heap[x]? = w.heap[x]? := fun x hx => hg.block x (owE.lt ho x hx) fun e => (h2 x hx).2.2 e.symm
  refine ⟨hr, (h.own.keep hf).append (ho.keep hf2), List.nodup_append.2 ⟨h.nd, nd2, fun x hx y hy e => (h2 y hy).2.1 (e ▸ hx)⟩, fun g hg2 hx => ?_, fun x hx => ?_⟩
  · rcases List.mem_append.1 hx with hx | hx
    · rcases ha with ha | ha
      · exact h.ne g (ha ▸ hg2) hx
      · rw [ha] at hg2
        injection hg2 with e
        have := owE.lt h.own g hx
        omega
    · rcases ha with ha | ha
      · exact (h2 g hx).2.2 (ha ▸ hg2)
      · rw [ha] at hg2
        injection hg2 with e
        have := owE.lt ho g hx
        omega
  · rcases List.mem_append.1 hx with hx | hx
    · exact h.ge x hx
    · exact (h2 x hx).1
/-- What the row owns in all. -/
theorem Grow.done (h : Grow E s w L v n cs us f) (hn : n = 0 → cs = []) : ∃ fp, owC w (.row n cs) v fp ∧ fp.Nodup ∧ ∀ k ∈ fp, L ≤ k ∧ k < w.heap.size := by
  have hl := owE.length h.own
  have hlt := h.lt
  rcases h.row.2 with ⟨rfl, h0⟩ | ⟨g, cap, cur, rfl, g1, g2, g3, g4, _, g6⟩
  · refine ⟨[], ?_, List.nodup_nil, fun k hk => by cases hk⟩
    unfold owC
    exact .inl ⟨h0, hn h0, rfl, rfl⟩
  · refine ⟨g :: f, ?_, List.nodup_cons.2 ⟨h.ne g rfl, h.nd⟩, fun k hk => ?_⟩
    · unfold owC
      refine .inr ⟨g, cap, cur, E, f, rfl, g3, g4, g2, rfl, hn, ?_⟩
      have h8 : us.length = n * s := h.row.1
      rw [← hl, h8, g6]
      exact h.own
    · rcases List.mem_cons.1 hk with rfl | hk
      · exact hlt.1 _ rfl
      · exact hlt.2 k hk
theorem grow_below {B : Nat} {w0 : World} {x : Option Nat} (hg : w.grownBy w' x) (h : Below B w0 w) (hx : ∀ k, x = some k → B ≤ k) (hB : B ≤ w.heap.size) : Below B w0 w' :=
  h.trans ⟨hg.os, hg.tape, hg.output, hg.size, fun k hk => hg.block k (by omega) fun e => by have := hx k e.symm; omega⟩
end
/-- 'append(s, x)', x a struct laid in a block of its own: ahead of a walk and in a statement whose order is open. -/
theorem wpList_append_elem {P : Program} {w : World} {ops : Array Oper} {rest : List Oper} {o : Oper} {a : Act} {Q : Exit → Act → World → Prop} (hgd : o.guard = none) (sl x : Operand) (t : TypeId)
    (ho : o.op = .call { callee := .builtin .append, args := #[sl, x], argTypes := #[t, t] })
    (e : TypeId) (i : TypeInfo) (z : Value) (size bytes : Nat) (ht : P.underlying t = some (.slice e)) (hi : P.info? e = some i) (hz : i.zero = some z) (hsize : i.size = size) (hby : i.bytes = bytes) (hzs : z.cells.size = size) (hsz : 0 < size)
    (lo : Nat) (v : Value) (n : Nat) (us : List Value) (hs : a.eval sl = v) (hown : w.ownsRow lo e size v n us) (b : Nat) (vs : List Value) (hl : vs.length = size) (hb : ∀ j u, vs[j]? = some u → w.cell? ⟨b, j, none⟩ = some u) (h1 : ∀ u ∈ vs, u.oneCell' = true)
    (hx : a.eval x = .slice (some ⟨b, 0, none⟩) 1 1) (h63 : n + 1 ≤ 2147483648) (hb8 : bytes ≤ 1024) (hbase : lo ≤ w.heap.size)
    (h : ∀ v' w', w'.ownsRow lo e size v' (n + 1) (us ++ vs) → w.grownBy w' v.ownBlock → (v'.ownBlock = v.ownBlock ∨ v'.ownBlock = some w.heap.size) → wpList P ops Q rest (a.put o.dst v') w') : wpList P ops Q (o :: rest) a w := by
  have hbytes : (n + 1) * bytes ≤ 2147483648 * 1024 := Nat.mul_le_mul h63 hb8
  exact wpList_append_own_at w hgd sl x t ho lo e i z size bytes ht hi hz hsize hby hzs hsz v n us hs hown ⟨b, 0, none⟩ 1 1 vs hx (by omega) (fun j u hj => by
    have hadd : (⟨b, 0, none⟩ : Addr).add j = ⟨b, j, none⟩ := by unfold Addr.add; split <;> simp_all
    rw [hadd]
    exact hb j u hj) h1 (by unfold maxLen; omega) (by omega) hbase (fun v' w' g1 g2 _ g3 => h v' w' g1 g2 g3)
theorem step_append_elem {P : Program} {w : World} {ops : Array Oper} {o : Oper} {a : Act} {K0 : Act → World → Prop} {Q : Exit → Act → World → Prop} {E0 : Prop} (hgd : o.guard = none) (sl x : Operand) (t : TypeId)
    (ho : o.op = .call { callee := .builtin .append, args := #[sl, x], argTypes := #[t, t] })
    (e : TypeId) (i : TypeInfo) (z : Value) (size bytes : Nat) (ht : P.underlying t = some (.slice e)) (hi : P.info? e = some i) (hz : i.zero = some z) (hsize : i.size = size) (hby : i.bytes = bytes) (hzs : z.cells.size = size) (hsz : 0 < size)
    (lo : Nat) (v : Value) (n : Nat) (us : List Value) (hs : a.eval sl = v) (hown : w.ownsRow lo e size v n us) (b : Nat) (vs : List Value) (hl : vs.length = size) (hb : ∀ j u, vs[j]? = some u → w.cell? ⟨b, j, none⟩ = some u) (h1 : ∀ u ∈ vs, u.oneCell' = true)
    (hx : a.eval x = .slice (some ⟨b, 0, none⟩) 1 1) (h63 : n + 1 ≤ 2147483648) (hb8 : bytes ≤ 1024) (hbase : lo ≤ w.heap.size)
    (h : ∀ v' w', w'.ownsRow lo e size v' (n + 1) (us ++ vs) → w.grownBy w' v.ownBlock → (v'.ownBlock = v.ownBlock ∨ v'.ownBlock = some w.heap.size) → K0 (a.put o.dst v') w') : if Region.wanted o (yielded ops a.tmps) = true then Oper.wp P o a w K0 Q else E0 := by
  have hw : Region.wanted o (yielded ops a.tmps) = true := by simp [Region.wanted, hgd]
  rw [if_pos hw]
  have hbytes : (n + 1) * bytes ≤ 2147483648 * 1024 := Nat.mul_le_mul h63 hb8
  obtain ⟨v', w', hrun, g1, g2, _, g3⟩ := run_append_own_at (P := P) w lo t o.type e i z size bytes ht hi hz hsize hby hzs hsz v n us hown ⟨b, 0, none⟩ 1 1 vs (by omega) (fun j u hj => by
    have hadd : (⟨b, 0, none⟩ : Addr).add j = ⟨b, j, none⟩ := by unfold Addr.add; split <;> simp_all
    rw [hadd]
    exact hb j u hj) h1 (by unfold maxLen; omega) (by omega) hbase
  have hk := h v' w' g1 g2 g3
  unfold Oper.wp
  simp [execOp, ho, resolve, invoke, builtin, hs, hx, hrun, Result.andThen]
  exact hk
end Go.Proofs.YtmgigjpkpeamjaaGreat
