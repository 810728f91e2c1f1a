/- Slices of integers: one that is read, and one that a call has made for itself; what keeps them. No condition. -/
import Derived.Test.YtmgigjpkpeamjaaGreatMBlk
import Derived.Laws.OwnMore
import Derived.OwnWalk
import Derived.Laws.AppendOwnNone
import Derived.Deep.Draws
import Derived.Lib.Hide
namespace Go.Proofs.YtmgigjpkpeamjaaGreat
open Go.ChangeShapes Go.WideShapes Go.ChangeAt Go.RowKit
set_option linter.unusedVariables false

/-- The slice v reads as xs; where it has elements they lie in one block below 'hi'. -/
structure Row (K : IntKind) (w : World) (hi : Nat) (v : Value) (xs : List Int) : Prop where
  form : ∃ a c, v = .slice a xs.length c ∧ xs.length ≤ c ∧ c ≤ maxLen ∧ (a = none → c = 0) ∧
    (0 < xs.length → ∃ b off, a = some ⟨b, off, none⟩ ∧ b < hi ∧ b < w.heap.size ∧ ∀ i, i < xs.length → w.cell? ⟨b, off + i, none⟩ = some (.int K (xs.getD i 0)))
  wf : ∀ x ∈ xs, (Lit.int K x).wf = true
/-- The slice v is the call's own: it reads as xs, its block lies from 'lo' on and below 'hi', and it may be written. -/
structure Own (E : TypeId) (K : IntKind) (w : World) (lo hi : Nat) (v : Value) (xs : List Int) : Prop where
  row : w.ownsRow lo E 1 v xs.length (xs.map (Value.int K))
  hi : ∀ k, v.ownBlock = some k → k < hi
  wf : ∀ x ∈ xs, (Lit.int K x).wf = true

section
variable {K : IntKind} {E : TypeId} {w w' : World} {lo hi : Nat} {v : Value} {xs : List Int}
theorem Row.keep (h : Row K w hi v xs) (hs : w.heap.size ≤ w'.heap.size) (hb : ∀ k, k < hi → k < w.heap.size → w'.heap[k]? = w.heap[k]?) : Row K w' hi v xs := by
  obtain ⟨⟨a, c, rfl, h1, h2, h0, h3⟩, h4⟩ := h
  refine ⟨⟨a, c, rfl, h1, h2, h0, fun hp => ?_⟩, h4⟩
  obtain ⟨b, off, rfl, g1, g2, g3⟩ := h3 hp
  exact ⟨b, off, rfl, g1, by omega, fun i hi => (World.cell?_of_block (w := w) (hb b g1 g2)).trans (g3 i hi)⟩
theorem Row.below {B : Nat} (h : Row K w hi v xs) (hb : Below B w w') (hB : hi ≤ B) : Row K w' hi v xs :=
  h.keep hb.size fun k hk _ => hb.block k (by omega)
theorem Row.more {hi' : Nat} (h : Row K w hi v xs) (hB : hi ≤ hi') : Row K w hi' v xs := by
  obtain ⟨⟨a, c, rfl, h1, h2, h0, h3⟩, h4⟩ := h
  refine ⟨⟨a, c, rfl, h1, h2, h0, fun hp => ?_⟩, h4⟩
  obtain ⟨b, off, rfl, g1, g2, g3⟩ := h3 hp
  exact ⟨b, off, rfl, by omega, g2, g3⟩
theorem Own.lt (h : Own E K w lo hi v xs) : ∀ k, v.ownBlock = some k → lo ≤ k ∧ k < hi ∧ k < w.heap.size := fun k hk => ⟨(h.row.lt k hk).1, h.hi k hk, (h.row.lt k hk).2⟩
theorem Own.keep (h : Own E K w lo hi v xs) (hb : ∀ k, lo ≤ k → k < hi → k < w.heap.size → w'.heap[k]? = w.heap[k]?) : Own E K w' lo hi v xs := by
  have hl := h.lt
  refine ⟨⟨h.row.1, ?_⟩, h.hi, h.wf⟩
  rcases h.row.2 with hn | ⟨g, cap, cur, rfl, g1, g2, rest⟩
  · exact .inl hn
  · obtain ⟨l1, l2, l3⟩ := hl g rfl
    exact .inr ⟨g, cap, cur, rfl, g1, (hb g l1 l2 l3).trans g2, rest⟩
theorem Own.below {B : Nat} (h : Own E K w lo hi v xs) (hb : Below B w w') (hB : hi ≤ B) : Own E K w' lo hi v xs :=
  h.keep fun k _ hk _ => hb.block k (by omega)
theorem Own.wide {lo' hi' : Nat} (h : Own E K w lo hi v xs) (h1 : lo' ≤ lo) (h2 : hi ≤ hi') : Own E K w lo' hi' v xs := by
  refine ⟨⟨h.row.1, ?_⟩, fun k hk => Nat.lt_of_lt_of_le (h.hi k hk) h2, h.wf⟩
  rcases h.row.2 with hn | ⟨g, cap, cur, rfl, g1, g2, rest⟩
  · exact .inl hn
  · exact .inr ⟨g, cap, cur, rfl, by omega, g2, rest⟩
/-- What is owned can be read. -/
theorem Own.read (h : Own E K w lo hi v xs) : Row K w hi v xs := by
  have hl := h.lt
  have hr := h.row
  rcases hr.2 with ⟨rfl, hn⟩ | ⟨g, cap, cur, rfl, g1, g2, g3, g4, g5, g6⟩
  · exact ⟨⟨none, 0, by rw [hn], by omega, by decide, fun _ => rfl, fun hp => by omega⟩, h.wf⟩
  · obtain ⟨l1, l2, l3⟩ := hl g rfl
    refine ⟨⟨_, cap, rfl, g3, g4, (fun e => by cases e), fun hp => ⟨g, 0, rfl, l2, l3, fun i hi => ?_⟩⟩, h.wf⟩
    have := hr.cellAt i (by omega)
    rw [Nat.zero_add, this, List.getElem?_map, List.getElem?_eq_getElem hi]
    simp [List.getD, hi]
/-- The world is as it was, but for the block of v. -/
def Wrote (w w' : World) (v : Value) : Prop := w.grownBy w' v.ownBlock ∧ w'.heap.size = w.heap.size
theorem Row.wrote {u : Value} {ys : List Int} {l h' : Nat} (h : Row K w hi v xs) (ho : Own E K w l h' u ys) (hw : Wrote w w' u) (hd : hi ≤ l) : Row K w' hi v xs :=
  h.keep hw.1.size fun k hk hs => hw.1.block k hs fun e => by have := (ho.lt k e.symm).1; omega
theorem Own.wrote {E' : TypeId} {K' : IntKind} {u : Value} {ys : List Int} {l h' : Nat} (h : Own E K w lo hi v xs) (ho : Own E' K' w l h' u ys) (hw : Wrote w w' u) (hd : hi ≤ l ∨ h' ≤ lo) : Own E K w' lo hi v xs :=
  h.keep fun k h1 h2 hs => hw.1.block k hs fun e => by obtain ⟨q1, q2, _⟩ := ho.lt k e.symm; omega
theorem Wrote.below {u : Value} {ys : List Int} {l h' B : Nat} (hw : Wrote w w' u) (ho : Own E K w l h' u ys) (hB : B ≤ l) (hs : B ≤ w.heap.size) : Below B w w' :=
  ⟨hw.1.os, hw.1.tape, hw.1.output, hw.1.size, fun k hk => hw.1.block k (by omega) fun e => by have := (ho.lt k e.symm).1; omega⟩
end
/-- A slice that came in reads as its first elements. -/
theorem IsRow.row {K : IntKind} {w : World} {a : Option Addr} {len cap : Nat} {z : List Int} (h : IsRow K w a len cap z) : Row K w w.heap.size (.slice a len cap) (z.take len) ∧ (z.take len).length = len := by
  have hl := h.lt
  rcases h with ⟨rfl, rfl, rfl, rfl⟩ | ⟨x, rfl, h1, h2, h3, h4, h5⟩
  · exact ⟨⟨⟨none, 0, rfl, Nat.le_refl _, by decide, (fun _ => rfl), fun hp => by simp at hp⟩, fun x hx => by simp at hx⟩, rfl⟩
  · have hlen : (z.take len).length = len := by rw [List.length_take]; omega
    refine ⟨⟨⟨some x, cap, by rw [hlen], by omega, h2, (fun e => by cases e), fun hp => ?_⟩, fun x hx => h5 x (List.mem_of_mem_take hx)⟩, hlen⟩
    obtain ⟨b, off, rfl, h6⟩ := ints_at h4 (by omega)
    refine ⟨b, off, rfl, hl _ rfl (by omega), hl _ rfl (by omega), fun i hi => ?_⟩
    rw [h6 i (by omega)]
    simp [List.getD, show i < len by omega]
/-- A list of which the first k places are filled. -/
def half (xs : List Value) (z : Value) (k : Nat) : List Value := xs.take k ++ List.replicate (xs.length - k) z
theorem half_zero (xs : List Value) (z : Value) : half xs z 0 = List.replicate xs.length z := by simp [half]
theorem half_all (xs : List Value) (z : Value) : half xs z xs.length = xs := by simp [half]
theorem half_set (xs : List Value) (z : Value) (k : Nat) (hk : k < xs.length) : (half xs z k).set k xs[k] = half xs z (k + 1) := by
  unfold half
  have hl : (xs.take k).length = k := by rw [List.length_take]; omega
  rw [List.set_append_right _ _ (by omega), hl, Nat.sub_self, List.take_succ_eq_append_getElem hk, List.append_assoc]
  congr 1
  rw [show xs.length - k = (xs.length - (k + 1)) + 1 by omega, List.replicate_succ]
  rfl
theorem half_at (xs : List Value) (z : Value) (k : Nat) (hk : k < xs.length) : (half xs z k)[k]? = some z := by
  unfold half
  have hl : (xs.take k).length = k := by rw [List.length_take]; omega
  rw [List.getElem?_append_right (by omega), hl, Nat.sub_self, List.getElem?_replicate, if_pos (by omega)]
theorem drewN_add (w : World) (m k : Nat) : (w.drewN m).drewN k = w.drewN (m + k) := by unfold World.drewN; simp [Nat.add_assoc]
/-- Of two lists: the first j places of the second, behind them the rest of the first. -/
def mix (xs ys : List Value) (j : Nat) : List Value := ys.take j ++ xs.drop j
theorem mix_zero (xs ys : List Value) : mix xs ys 0 = xs := by simp [mix]
theorem mix_all (xs ys : List Value) (h : xs.length = ys.length) : mix xs ys ys.length = ys := by simp [mix, h]
theorem mix_set (xs ys : List Value) (j : Nat) (h : xs.length = ys.length) (hj : j < ys.length) : (mix xs ys j).set j ys[j] = mix xs ys (j + 1) := by
  unfold mix
  have hl : (ys.take j).length = j := by rw [List.length_take]; omega
  rw [List.set_append_right _ _ (by omega), hl, Nat.sub_self, List.take_succ_eq_append_getElem hj, List.append_assoc]
  congr 1
  rw [List.drop_eq_getElem_cons (show j < xs.length by omega)]
  rfl
theorem mix_at (xs ys : List Value) (j : Nat) (h : xs.length = ys.length) (hj : j < ys.length) : (mix xs ys j)[j]? = some (xs[j]'(by omega)) := by
  unfold mix
  have hl : (ys.take j).length = j := by rw [List.length_take]; omega
  rw [List.getElem?_append_right (by omega), hl, Nat.sub_self, List.getElem?_drop, Nat.add_zero, List.getElem?_eq_getElem]
theorem wrote_set {w wr : World} {g n cap j : Nat} (h : Wrote w wr (.slice (some ⟨g, 0, none⟩) n cap)) (u : Value) : Wrote w (wr.setCell ⟨g, j, none⟩ u) (.slice (some ⟨g, 0, none⟩) n cap) := by
  have e : (Value.slice (some ⟨g, 0, none⟩) n cap).ownBlock = some g := rfl
  unfold Wrote at h ⊢
  rw [e] at h ⊢
  refine ⟨⟨h.1.os, h.1.tape, h.1.output, by simp [World.setCell]; exact h.1.size, fun k hk hn => ?_⟩, by simp [World.setCell]; exact h.2⟩
  rw [Below.heap_setCell _ _ _ _ (fun e => hn (by rw [e]))]
  exact h.1.block k hk hn
/-- 'append(out, b...)', out the call's own, b any slice that can be read. -/
theorem wpList_append_row {P : Program} {w : World} {ops : Array Oper} {rest : List Oper} {o : Oper} {a : Act} {Q : Exit → Act → World → Prop} (hgd : o.guard = none) (s x : Operand) (t : TypeId)
    (ho : o.op = .call { callee := .builtin .append, args := #[s, x], argTypes := #[t, t] })
    (base : Nat) (e : TypeId) (i : TypeInfo) (z : Value) (bytes : Nat) (ht : P.underlying t = some (.slice e)) (hi : P.info? e = some i) (hz : i.zero = some z) (hsize : i.size = 1) (hby : i.bytes = bytes) (hzs : z.cells.size = 1)
    (v : Value) (n : Nat) (xs : List Value) (hs : a.eval s = v) (hown : w.ownsRow base e 1 v n xs)
    (K : IntKind) (top : Nat) (u : Value) (ys : List Int) (hx : a.eval x = u) (hr : Row K w top u ys)
    (h63 : n + ys.length ≤ maxLen) (hbytes : (n + ys.length) * bytes ≤ 140737488355328) (hbase : base ≤ w.heap.size)
    (h : ∀ v' w', w'.ownsRow base e 1 v' (n + ys.length) (xs ++ ys.map (Value.int K)) → w.grownBy w' v.ownBlock → wpList P ops Q rest (a.put o.dst v') w') : wpList P ops Q (o :: rest) a w := by
  obtain ⟨⟨A, c, rfl, r1, r2, r0, r3⟩, _⟩ := hr
  rcases A with _ | ad
  · have hl : ys.length = 0 := by
      rcases Nat.eq_zero_or_pos ys.length with h0 | hp
      · exact h0
      · obtain ⟨_, _, e1, _⟩ := r3 hp
        cases e1
    have hy : ys = [] := List.length_eq_zero_iff.mp hl
    obtain rfl := r0 rfl
    refine wpList_append_own_none hgd s x t ho base e i 1 ht hi v n xs hs hown (by rw [hx, hl]) (h v w ?_ (World.grownBy.refl _ _))
    rw [hy]
    simpa using hown
  · refine wpList_append_own w hgd s x t ho base e i z 1 bytes ht hi hz hsize hby hzs (by decide) v n xs hs hown ad ys.length c (ys.map (Value.int K)) hx (by simp) (fun j q hj => ?_) (fun q hq => ?_) h63 hbytes hbase (fun v' w' g1 g2 _ => h v' w' g1 g2)
    · have hj2 : j < ys.length := by
        have := (List.getElem?_eq_some_iff.1 hj).1
        simpa using this
      obtain ⟨b, off, e1, _, _, r4⟩ := r3 (by omega)
      injection e1 with e1
      subst e1
      have hadd : (⟨b, off, none⟩ : Addr).add j = ⟨b, off + j, none⟩ := by unfold Addr.add; split <;> simp_all
      rw [hadd, r4 j hj2]
      rw [List.getElem?_map, List.getElem?_eq_getElem hj2] at hj
      simp only [Option.map_some, Option.some.injEq] at hj
      rw [← hj]
      simp [List.getD, hj2]
    · obtain ⟨q', _, rfl⟩ := List.mem_map.1 hq
      rfl
/-- The literal '[]T{}' is the call's own, and empty. -/
theorem own_empty (E : TypeId) (K : IntKind) (w : World) : (w.alloc (.cells #[] E)).ownsRow w.heap.size E 1 (.slice (some ⟨w.heap.size, 0, none⟩) 0 0) 0 (([] : List Int).map (Value.int K)) :=
  World.ownsRow_lit w #[] 0 (Nat.le_refl _) (by decide) rfl
/-- One value in a block just made reads as a slice of one. -/
theorem row_one (K : IntKind) (T : TypeId) (w : World) (x : Int) (hx : (Lit.int K x).wf = true) : Row K (w.alloc (.cells #[.int K x] T)) (w.heap.size + 1) (.slice (some ⟨w.heap.size, 0, none⟩) 1 1) [x] := by
  refine ⟨⟨_, 1, rfl, Nat.le_refl _, by decide, (fun e => by cases e), fun _ => ⟨w.heap.size, 0, rfl, by omega, by simp, fun i hi => ?_⟩⟩, fun y hy => ?_⟩
  · have : i = 0 := by simpa using hi
    subst this
    rw [World.cell?_alloc_new]
    rfl
  · have : y = x := by simpa using hy
    rw [this]
    exact hx
theorem Own.empty (E : TypeId) (K : IntKind) (w : World) : Own E K (w.alloc (.cells #[] E)) w.heap.size (w.heap.size + 1) (.slice (some ⟨w.heap.size, 0, none⟩) 0 0) [] :=
  ⟨own_empty E K w, fun k hk => by
    have : w.heap.size = k := by simpa [Value.ownBlock] using hk
    omega, fun x hx => by cases hx⟩
/-- The same, in one word: out is owned before and behind; below its first block nothing has turned. -/
theorem wpList_append_Own {P : Program} {w : World} {ops : Array Oper} {rest : List Oper} {o : Oper} {a : Act} {Q : Exit → Act → World → Prop} (hgd : o.guard = none) (s x : Operand) (t : TypeId)
    (ho : o.op = .call { callee := .builtin .append, args := #[s, x], argTypes := #[t, t] })
    (e : TypeId) (i : TypeInfo) (z : Value) (bytes : Nat) (ht : P.underlying t = some (.slice e)) (hi : P.info? e = some i) (hz : i.zero = some z) (hsize : i.size = 1) (hby : i.bytes = bytes) (hzs : z.cells.size = 1)
    (K : IntKind) (lo top : Nat) (v : Value) (xs : List Int) (hs : a.eval s = v) (hown : Own e K w lo top v xs)
    (top' : Nat) (u : Value) (ys : List Int) (hx : a.eval x = u) (hr : Row K w top' u ys)
    (h63 : xs.length + ys.length ≤ 2199023255552) (hb8 : bytes ≤ 8) (hbase : lo ≤ w.heap.size)
    (h : ∀ v' w', Own e K w' lo w'.heap.size v' (xs ++ ys) → Below lo w w' → wpList P ops Q rest (a.put o.dst v') w') : wpList P ops Q (o :: rest) a w := by
  have hbytes : (xs.length + ys.length) * bytes ≤ 2199023255552 * 8 := Nat.mul_le_mul h63 hb8
  refine wpList_append_row hgd s x t ho lo e i z bytes ht hi hz hsize hby hzs v xs.length (xs.map (Value.int K)) hs hown.row K top' u ys hx hr (by unfold maxLen; omega) (by omega) hbase (fun v' w' g1 g2 => h v' w' ⟨?_, fun k hk => (g1.lt k hk).2, fun q hq => ?_⟩ ⟨g2.os, g2.tape, g2.output, g2.size, fun k hk => g2.block k (by omega) fun e1 => ?_⟩)
  · rw [List.length_append, List.map_append]
    exact g1
  · rcases List.mem_append.1 hq with hq | hq
    · exact hown.wf q hq
    · exact hr.wf q hq
  · have := (hown.lt k e1.symm).1
    omega
/-- A slice of no elements reads as none. -/
theorem Row.zero (K : IntKind) (w : World) (top : Nat) (a : Addr) (c : Nat) (hc : c ≤ maxLen) : Row K w top (.slice (some a) 0 c) [] :=
  ⟨⟨some a, c, rfl, Nat.zero_le _, hc, (fun e => by cases e), fun hp => by simp at hp⟩, fun x hx => by cases hx⟩
/-- A piece of a slice. -/
theorem Row.sub {K : IntKind} {w : World} {hi b off n c : Nat} {xs : List Int} (h : Row K w hi (.slice (some ⟨b, off, none⟩) n c) xs) (i m : Nat) (hm : i + m ≤ n) : Row K w hi (.slice (some ⟨b, off + i, none⟩) m (c - i)) ((xs.drop i).take m) := by
  obtain ⟨⟨a, c', e, h1, h2, _, h3⟩, h4⟩ := h
  injection e with e1 e2 e3
  subst e1
  subst e2
  subst e3
  have hl : ((xs.drop i).take m).length = m := by rw [List.length_take, List.length_drop]; omega
  refine ⟨⟨_, c - i, by rw [hl], by rw [hl]; omega, by omega, (fun e => by cases e), fun hp => ?_⟩, fun x hx => h4 x (List.mem_of_mem_drop (List.mem_of_mem_take hx))⟩
  rw [hl] at hp ⊢
  obtain ⟨b', off', e, g1, g2, g3⟩ := h3 (by omega)
  injection e with e
  injection e with e1 e2 _
  subst e1
  subst e2
  refine ⟨b, off + i, rfl, g1, g2, fun j hj => ?_⟩
  rw [Nat.add_assoc, g3 (i + j) (by omega)]
  simp [List.getD, List.getElem?_drop, hj]
theorem Own.drewN {E : TypeId} {K : IntKind} {w : World} {lo hi : Nat} {v : Value} {xs : List Int} (h : Own E K w lo hi v xs) (m : Nat) : Own E K (w.drewN m) lo hi v xs := ⟨h.row, h.hi, h.wf⟩
theorem Row.drewN {K : IntKind} {w : World} {hi : Nat} {v : Value} {xs : List Int} (h : Row K w hi v xs) (m : Nat) : Row K (w.drewN m) hi v xs := ⟨h.form, h.wf⟩
theorem bOf {B m : Nat} {w w' : World} (h : Below B (w.drewN m) w') : Below B w w' := ⟨h.os, h.tape, h.output, h.size, h.block⟩
theorem bDrew {B : Nat} {a w : World} (h : Below B a w) (m : Nat) : Below B a (w.drewN m) := ⟨h.os, h.tape, h.output, h.size, h.block⟩
end Go.Proofs.YtmgigjpkpeamjaaGreat
