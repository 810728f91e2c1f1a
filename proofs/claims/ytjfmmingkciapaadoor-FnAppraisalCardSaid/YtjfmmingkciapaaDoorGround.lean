/- Some texts in one: Shared, Row, Step, StepA, RowC, Cell, Cell2, Blk, Ints, IntSl, CellI, CellS, Bytes, Lit, Flat, Str, Abs, First, Cont, AscI, RowO, CellO, Same. -/
import Derived.Test.YtjfmmingkciapaaDoorRows
import Derived.WalkKit
import Derived.ProofKit
import Derived.OpenShut
import Derived.ShutString
import Derived.ChangeOld
import Derived.Below
import Derived.Laws.OwnMore
import Derived.OwnWalk
import Derived.Laws.AppendOwnNone
import Derived.Deep.Draws
import Derived.Lib.Hide
import Derived.Deep.RegionHeld3
import Derived.Deep.AppendLies
import Derived.Maps.AppendAt
import Derived.WalkLawsBesides
import Derived.WalkSpells
import Derived.LoopTactic
import Derived.Deep.QuietTactic
import Derived.BigQuiet
import Derived.Outline
import Derived.Deep.Slices
import Derived.ChangeSame
import Derived.Laws.BytesArg
/- What a walk is told of a slice of integers that came in, and how a reading tells it. -/
namespace Go.Proofs.YtjfmmingkciapaaDoor
open Go.ChangeShapes Go.WideShapes Go.ChangeAt Go.RowKit

theorem ret_i {k : IntKind} {a b : Int} (h : a = b) : Ending.returned (.int k a) = .returned (.int k b) := by rw [h]
theorem ret_b {a b : Bool} (h : a = b) : Ending.returned (.bool a) = .returned (.bool b) := by rw [h]
theorem wf_u8 {x : Int} (h0 : 0 ≤ x) (h1 : x ≤ 255) : (Lit.int .u8 x).wf = true := by
  have e1 : IntKind.u8.min = 0 := rfl
  have e2 : IntKind.u8.max = 255 := rfl
  simp [Lit.wf, e1, e2]
  omega
theorem wf_i64 {x : Int} (h0 : -9223372036854775808 ≤ x) (h1 : x ≤ 9223372036854775807) : (Lit.int .i64 x).wf = true := by
  have e1 : IntKind.i64.min = -9223372036854775808 := rfl
  have e2 : IntKind.i64.max = 9223372036854775807 := rfl
  simp [Lit.wf, e1, e2]
  omega
/-- A slice of integers that came in: nil; or a row of 'cap' cells, the numbers 'zs' (the first 'len' are its elements, the rest its spare room), each fitting its kind. -/
def IsRow (k : IntKind) (w : World) (a : Option Addr) (len cap : Nat) (zs : List Int) : Prop :=
  (a = none ∧ len = 0 ∧ cap = 0 ∧ zs = []) ∨
  ∃ x, a = some x ∧ len ≤ cap ∧ cap ≤ maxLen ∧ zs.length = cap ∧ (∀ i, i < zs.length → w.cell? (x.add i) = some (.int k (zs.getD i 0))) ∧ ∀ n ∈ zs, (Lit.int k n).wf = true
theorem isRow_of {H : Type} {enc : TypeId × Value → H} {P : Program} {w : World} {base : Nat} {fuel : Nat} {t e : TypeId} {k : IntKind} {a : Option Addr} {l c : Nat} {x : DataW H × List MemPlace}
    (ht : P.underlying t = some (.slice e)) (he : P.underlying e = some (.int k)) (hc : P.cellsOf e = 1) (hf : DataW.trod enc P w base (fun _ => true) true fuel t (Value.cells (.slice a l c)).toList = some x) : ∃ zs, IsRow k w a l c zs := by
  rcases open_ints ht he hc hf with ⟨hcs, _⟩ | ⟨x, l, c, zs, hcs, _, hl, hm, hz, _, hcell, hwz⟩
  · simp [Value.cells] at hcs
    obtain ⟨rfl, rfl, rfl⟩ := hcs
    exact ⟨[], .inl ⟨rfl, rfl, rfl, rfl⟩⟩
  · simp [Value.cells] at hcs
    obtain ⟨rfl, rfl, rfl⟩ := hcs
    exact ⟨zs, .inr ⟨_, rfl, hl, hm, by simpa using hz, hcell, hwz⟩⟩
theorem IsRow.lt {w : World} {k : IntKind} {a : Option Addr} {len cap : Nat} {z : List Int} (h : IsRow k w a len cap z) (x : Addr) (hx : a = some x) (hp : 0 < cap) : x.block < w.heap.size := by
  rcases h with ⟨rfl, _⟩ | ⟨y, rfl, _, _, h3, h4, _⟩
  · cases hx
  · injection hx with hx
    subst hx
    have h0 := h4 0 (by omega)
    have hb : (y.add 0).block = y.block := by unfold Addr.add; split <;> rfl
    rw [← hb]
    rcases Nat.lt_or_ge (y.add 0).block w.heap.size with h' | h'
    · exact h'
    · unfold World.cell? at h0
      rw [Array.getElem?_eq_none h'] at h0
      simp at h0
/-- What was there when a walk began stays a row. -/
theorem IsRow.below {w w' : World} {k : IntKind} {a : Option Addr} {len cap : Nat} {z : List Int} (h : IsRow k w a len cap z) (hb : Below w.heap.size w w') : IsRow k w' a len cap z := by
  have hl := h.lt
  rcases h with h | ⟨x, rfl, h1, h2, h3, h4, h5⟩
  · exact .inl h
  · refine .inr ⟨x, rfl, h1, h2, h3, fun i hi => ?_, h5⟩
    have hx : (x.add i).block = x.block := by unfold Addr.add; split <;> rfl
    rw [hb.cell (by rw [hx]; exact hl x rfl (by omega))]
    exact h4 i hi
end Go.Proofs.YtjfmmingkciapaaDoor
/- Slices of integers: one that is read, and one that a call has made for itself; what keeps them. No condition. -/
namespace Go.Proofs.YtjfmmingkciapaaDoor
open Go.ChangeShapes Go.WideShapes Go.ChangeAt Go.RowKit
set_option linter.unusedVariables false

/-- The slice v reads as xs; where it has elements they lie in one block below 'hi'. -/
structure Row (K : IntKind) (w : World) (hi : Nat) (v : Value) (xs : List Int) : Prop where
  form : ∃ a c, v = .slice a xs.length c ∧ xs.length ≤ c ∧ c ≤ maxLen ∧ (a = none → c = 0) ∧
    (0 < xs.length → ∃ b off, a = some ⟨b, off, none⟩ ∧ b < hi ∧ b < w.heap.size ∧ ∀ i, i < xs.length → w.cell? ⟨b, off + i, none⟩ = some (.int K (xs.getD i 0)))
  wf : ∀ x ∈ xs, (Lit.int K x).wf = true
/-- The slice v is the call's own: it reads as xs, its block lies from 'lo' on and below 'hi', and it may be written. -/
structure Own (E : TypeId) (K : IntKind) (w : World) (lo hi : Nat) (v : Value) (xs : List Int) : Prop where
  row : w.ownsRow lo E 1 v xs.length (xs.map (Value.int K))
  hi : ∀ k, v.ownBlock = some k → k < hi
  wf : ∀ x ∈ xs, (Lit.int K x).wf = true

section
variable {K : IntKind} {E : TypeId} {w w' : World} {lo hi : Nat} {v : Value} {xs : List Int}
theorem Row.keep (h : Row K w hi v xs) (hs : w.heap.size ≤ w'.heap.size) (hb : ∀ k, k < hi → k < w.heap.size → w'.heap[k]? = w.heap[k]?) : Row K w' hi v xs := by
  obtain ⟨⟨a, c, rfl, h1, h2, h0, h3⟩, h4⟩ := h
  refine ⟨⟨a, c, rfl, h1, h2, h0, fun hp => ?_⟩, h4⟩
  obtain ⟨b, off, rfl, g1, g2, g3⟩ := h3 hp
  exact ⟨b, off, rfl, g1, by omega, fun i hi => (World.cell?_of_block (w := w) (hb b g1 g2)).trans (g3 i hi)⟩
theorem Row.below {B : Nat} (h : Row K w hi v xs) (hb : Below B w w') (hB : hi ≤ B) : Row K w' hi v xs :=
  h.keep hb.size fun k hk _ => hb.block k (by omega)
theorem Row.more {hi' : Nat} (h : Row K w hi v xs) (hB : hi ≤ hi') : Row K w hi' v xs := by
  obtain ⟨⟨a, c, rfl, h1, h2, h0, h3⟩, h4⟩ := h
  refine ⟨⟨a, c, rfl, h1, h2, h0, fun hp => ?_⟩, h4⟩
  obtain ⟨b, off, rfl, g1, g2, g3⟩ := h3 hp
  exact ⟨b, off, rfl, by omega, g2, g3⟩
theorem Own.lt (h : Own E K w lo hi v xs) : ∀ k, v.ownBlock = some k → lo ≤ k ∧ k < hi ∧ k < w.heap.size := fun k hk => ⟨(h.row.lt k hk).1, h.hi k hk, (h.row.lt k hk).2⟩
theorem Own.keep (h : Own E K w lo hi v xs) (hb : ∀ k, lo ≤ k → k < hi → k < w.heap.size → w'.heap[k]? = w.heap[k]?) : Own E K w' lo hi v xs := by
  have hl := h.lt
  refine ⟨⟨h.row.1, ?_⟩, h.hi, h.wf⟩
  rcases h.row.2 with hn | ⟨g, cap, cur, rfl, g1, g2, rest⟩
  · exact .inl hn
  · obtain ⟨l1, l2, l3⟩ := hl g rfl
    exact .inr ⟨g, cap, cur, rfl, g1, (hb g l1 l2 l3).trans g2, rest⟩
theorem Own.below {B : Nat} (h : Own E K w lo hi v xs) (hb : Below B w w') (hB : hi ≤ B) : Own E K w' lo hi v xs :=
  h.keep fun k _ hk _ => hb.block k (by omega)
theorem Own.wide {lo' hi' : Nat} (h : Own E K w lo hi v xs) (h1 : lo' ≤ lo) (h2 : hi ≤ hi') : Own E K w lo' hi' v xs := by
  refine ⟨⟨h.row.1, ?_⟩, fun k hk => Nat.lt_of_lt_of_le (h.hi k hk) h2, h.wf⟩
  rcases h.row.2 with hn | ⟨g, cap, cur, rfl, g1, g2, rest⟩
  · exact .inl hn
  · exact .inr ⟨g, cap, cur, rfl, by omega, g2, rest⟩
/-- What is owned can be read. -/
theorem Own.read (h : Own E K w lo hi v xs) : Row K w hi v xs := by
  have hl := h.lt
  have hr := h.row
  rcases hr.2 with ⟨rfl, hn⟩ | ⟨g, cap, cur, rfl, g1, g2, g3, g4, g5, g6⟩
  · exact ⟨⟨none, 0, by rw [hn], by omega, by decide, fun _ => rfl, fun hp => by omega⟩, h.wf⟩
  · obtain ⟨l1, l2, l3⟩ := hl g rfl
    refine ⟨⟨_, cap, rfl, g3, g4, (fun e => by cases e), fun hp => ⟨g, 0, rfl, l2, l3, fun i hi => ?_⟩⟩, h.wf⟩
    have := hr.cellAt i (by omega)
    rw [Nat.zero_add, this, List.getElem?_map, List.getElem?_eq_getElem hi]
    simp [List.getD, hi]
/-- The world is as it was, but for the block of v. -/
def Wrote (w w' : World) (v : Value) : Prop := w.grownBy w' v.ownBlock ∧ w'.heap.size = w.heap.size
theorem Row.wrote {u : Value} {ys : List Int} {l h' : Nat} (h : Row K w hi v xs) (ho : Own E K w l h' u ys) (hw : Wrote w w' u) (hd : hi ≤ l) : Row K w' hi v xs :=
  h.keep hw.1.size fun k hk hs => hw.1.block k hs fun e => by have := (ho.lt k e.symm).1; omega
theorem Own.wrote {E' : TypeId} {K' : IntKind} {u : Value} {ys : List Int} {l h' : Nat} (h : Own E K w lo hi v xs) (ho : Own E' K' w l h' u ys) (hw : Wrote w w' u) (hd : hi ≤ l ∨ h' ≤ lo) : Own E K w' lo hi v xs :=
  h.keep fun k h1 h2 hs => hw.1.block k hs fun e => by obtain ⟨q1, q2, _⟩ := ho.lt k e.symm; omega
theorem Wrote.below {u : Value} {ys : List Int} {l h' B : Nat} (hw : Wrote w w' u) (ho : Own E K w l h' u ys) (hB : B ≤ l) (hs : B ≤ w.heap.size) : Below B w w' :=
  ⟨hw.1.os, hw.1.tape, hw.1.output, hw.1.size, fun k hk => hw.1.block k (by omega) fun e => by have := (ho.lt k e.symm).1; omega⟩
end
/-- A slice that came in reads as its first elements. -/
theorem IsRow.row {K : IntKind} {w : World} {a : Option Addr} {len cap : Nat} {z : List Int} (h : IsRow K w a len cap z) : Row K w w.heap.size (.slice a len cap) (z.take len) ∧ (z.take len).length = len := by
  have hl := h.lt
  rcases h with ⟨rfl, rfl, rfl, rfl⟩ | ⟨x, rfl, h1, h2, h3, h4, h5⟩
  · exact ⟨⟨⟨none, 0, rfl, Nat.le_refl _, by decide, (fun _ => rfl), fun hp => by simp at hp⟩, fun x hx => by simp at hx⟩, rfl⟩
  · have hlen : (z.take len).length = len := by rw [List.length_take]; omega
    refine ⟨⟨⟨some x, cap, by rw [hlen], by omega, h2, (fun e => by cases e), fun hp => ?_⟩, fun x hx => h5 x (List.mem_of_mem_take hx)⟩, hlen⟩
    obtain ⟨b, off, rfl, h6⟩ := ints_at h4 (by omega)
    refine ⟨b, off, rfl, hl _ rfl (by omega), hl _ rfl (by omega), fun i hi => ?_⟩
    rw [h6 i (by omega)]
    simp [List.getD, show i < len by omega]
/-- A list of which the first k places are filled. -/
def half (xs : List Value) (z : Value) (k : Nat) : List Value := xs.take k ++ List.replicate (xs.length - k) z
theorem half_zero (xs : List Value) (z : Value) : half xs z 0 = List.replicate xs.length z := by simp [half]
theorem half_all (xs : List Value) (z : Value) : half xs z xs.length = xs := by simp [half]
theorem half_set (xs : List Value) (z : Value) (k : Nat) (hk : k < xs.length) : (half xs z k).set k xs[k] = half xs z (k + 1) := by
  unfold half
  have hl : (xs.take k).length = k := by rw [List.length_take]; omega
  rw [List.set_append_right _ _ (by omega), hl, Nat.sub_self, List.take_succ_eq_append_getElem hk, List.append_assoc]
  congr 1
  rw [show xs.length - k = (xs.length - (k + 1)) + 1 by omega, List.replicate_succ]
  rfl
theorem half_at (xs : List Value) (z : Value) (k : Nat) (hk : k < xs.length) : (half xs z k)[k]? = some z := by
  unfold half
  have hl : (xs.take k).length = k := by rw [List.length_take]; omega
  rw [List.getElem?_append_right (by omega), hl, Nat.sub_self, List.getElem?_replicate, if_pos (by omega)]
theorem drewN_add (w : World) (m k : Nat) : (w.drewN m).drewN k = w.drewN (m + k) := by unfold World.drewN; simp [Nat.add_assoc]
/-- Of two lists: the first j places of the second, behind them the rest of the first. -/
def mix (xs ys : List Value) (j : Nat) : List Value := ys.take j ++ xs.drop j
theorem mix_zero (xs ys : List Value) : mix xs ys 0 = xs := by simp [mix]
theorem mix_all (xs ys : List Value) (h : xs.length = ys.length) : mix xs ys ys.length = ys := by simp [mix, h]
theorem mix_set (xs ys : List Value) (j : Nat) (h : xs.length = ys.length) (hj : j < ys.length) : (mix xs ys j).set j ys[j] = mix xs ys (j + 1) := by
  unfold mix
  have hl : (ys.take j).length = j := by rw [List.length_take]; omega
  rw [List.set_append_right _ _ (by omega), hl, Nat.sub_self, List.take_succ_eq_append_getElem hj, List.append_assoc]
  congr 1
  rw [List.drop_eq_getElem_cons (show j < xs.length by omega)]
  rfl
theorem mix_at (xs ys : List Value) (j : Nat) (h : xs.length = ys.length) (hj : j < ys.length) : (mix xs ys j)[j]? = some (xs[j]'(by omega)) := by
  unfold mix
  have hl : (ys.take j).length = j := by rw [List.length_take]; omega
  rw [List.getElem?_append_right (by omega), hl, Nat.sub_self, List.getElem?_drop, Nat.add_zero, List.getElem?_eq_getElem]
theorem wrote_set {w wr : World} {g n cap j : Nat} (h : Wrote w wr (.slice (some ⟨g, 0, none⟩) n cap)) (u : Value) : Wrote w (wr.setCell ⟨g, j, none⟩ u) (.slice (some ⟨g, 0, none⟩) n cap) := by
  have e : (Value.slice (some ⟨g, 0, none⟩) n cap).ownBlock = some g := rfl
  unfold Wrote at h ⊢
  rw [e] at h ⊢
  refine ⟨⟨h.1.os, h.1.tape, h.1.output, by simp [World.setCell]; exact h.1.size, fun k hk hn => ?_⟩, by simp [World.setCell]; exact h.2⟩
  rw [Below.heap_setCell _ _ _ _ (fun e => hn (by rw [e]))]
  exact h.1.block k hk hn
/-- 'append(out, b...)', out the call's own, b any slice that can be read. -/
theorem wpList_append_row {P : Program} {w : World} {ops : Array Oper} {rest : List Oper} {o : Oper} {a : Act} {Q : Exit → Act → World → Prop} (hgd : o.guard = none) (s x : Operand) (t : TypeId)
    (ho : o.op = .call { callee := .builtin .append, args := #[s, x], argTypes := #[t, t] })
    (base : Nat) (e : TypeId) (i : TypeInfo) (z : Value) (bytes : Nat) (ht : P.underlying t = some (.slice e)) (hi : P.info? e = some i) (hz : i.zero = some z) (hsize : i.size = 1) (hby : i.bytes = bytes) (hzs : z.cells.size = 1)
    (v : Value) (n : Nat) (xs : List Value) (hs : a.eval s = v) (hown : w.ownsRow base e 1 v n xs)
    (K : IntKind) (top : Nat) (u : Value) (ys : List Int) (hx : a.eval x = u) (hr : Row K w top u ys)
    (h63 : n + ys.length ≤ maxLen) (hbytes : (n + ys.length) * bytes ≤ 140737488355328) (hbase : base ≤ w.heap.size)
    (h : ∀ v' w', w'.ownsRow base e 1 v' (n + ys.length) (xs ++ ys.map (Value.int K)) → w.grownBy w' v.ownBlock → wpList P ops Q rest (a.put o.dst v') w') : wpList P ops Q (o :: rest) a w := by
  obtain ⟨⟨A, c, rfl, r1, r2, r0, r3⟩, _⟩ := hr
  rcases A with _ | ad
  · have hl : ys.length = 0 := by
      rcases Nat.eq_zero_or_pos ys.length with h0 | hp
      · exact h0
      · obtain ⟨_, _, e1, _⟩ := r3 hp
        cases e1
    have hy : ys = [] := List.length_eq_zero_iff.mp hl
    obtain rfl := r0 rfl
    refine wpList_append_own_none hgd s x t ho base e i 1 ht hi v n xs hs hown (by rw [hx, hl]) (h v w ?_ (World.grownBy.refl _ _))
    rw [hy]
    simpa using hown
  · refine wpList_append_own w hgd s x t ho base e i z 1 bytes ht hi hz hsize hby hzs (by decide) v n xs hs hown ad ys.length c (ys.map (Value.int K)) hx (by simp) (fun j q hj => ?_) (fun q hq => ?_) h63 hbytes hbase (fun v' w' g1 g2 _ => h v' w' g1 g2)
    · have hj2 : j < ys.length := by
        have := (List.getElem?_eq_some_iff.1 hj).1
        simpa using this
      obtain ⟨b, off, e1, _, _, r4⟩ := r3 (by omega)
      injection e1 with e1
      subst e1
      have hadd : (⟨b, off, none⟩ : Addr).add j = ⟨b, off + j, none⟩ := by unfold Addr.add; split <;> simp_all
      rw [hadd, r4 j hj2]
      rw [List.getElem?_map, List.getElem?_eq_getElem hj2] at hj
      simp only [Option.map_some, Option.some.injEq] at hj
      rw [← hj]
      simp [List.getD, hj2]
    · obtain ⟨q', _, rfl⟩ := List.mem_map.1 hq
      rfl
/-- The literal '[]T{}' is the call's own, and empty. -/
theorem own_empty (E : TypeId) (K : IntKind) (w : World) : (w.alloc (.cells #[] E)).ownsRow w.heap.size E 1 (.slice (some ⟨w.heap.size, 0, none⟩) 0 0) 0 (([] : List Int).map (Value.int K)) :=
  World.ownsRow_lit w #[] 0 (Nat.le_refl _) (by decide) rfl
/-- One value in a block just made reads as a slice of one. -/
theorem row_one (K : IntKind) (T : TypeId) (w : World) (x : Int) (hx : (Lit.int K x).wf = true) : Row K (w.alloc (.cells #[.int K x] T)) (w.heap.size + 1) (.slice (some ⟨w.heap.size, 0, none⟩) 1 1) [x] := by
  refine ⟨⟨_, 1, rfl, Nat.le_refl _, by decide, (fun e => by cases e), fun _ => ⟨w.heap.size, 0, rfl, by omega, by simp, fun i hi => ?_⟩⟩, fun y hy => ?_⟩
  · have : i = 0 := by simpa using hi
    subst this
    rw [World.cell?_alloc_new]
    rfl
  · have : y = x := by simpa using hy
    rw [this]
    exact hx
theorem Own.empty (E : TypeId) (K : IntKind) (w : World) : Own E K (w.alloc (.cells #[] E)) w.heap.size (w.heap.size + 1) (.slice (some ⟨w.heap.size, 0, none⟩) 0 0) [] :=
  ⟨own_empty E K w, fun k hk => by
    have : w.heap.size = k := by simpa [Value.ownBlock] using hk
    omega, fun x hx => by cases hx⟩
/-- The same, in one word: out is owned before and behind; below its first block nothing has turned. -/
theorem wpList_append_Own {P : Program} {w : World} {ops : Array Oper} {rest : List Oper} {o : Oper} {a : Act} {Q : Exit → Act → World → Prop} (hgd : o.guard = none) (s x : Operand) (t : TypeId)
    (ho : o.op = .call { callee := .builtin .append, args := #[s, x], argTypes := #[t, t] })
    (e : TypeId) (i : TypeInfo) (z : Value) (bytes : Nat) (ht : P.underlying t = some (.slice e)) (hi : P.info? e = some i) (hz : i.zero = some z) (hsize : i.size = 1) (hby : i.bytes = bytes) (hzs : z.cells.size = 1)
    (K : IntKind) (lo top : Nat) (v : Value) (xs : List Int) (hs : a.eval s = v) (hown : Own e K w lo top v xs)
    (top' : Nat) (u : Value) (ys : List Int) (hx : a.eval x = u) (hr : Row K w top' u ys)
    (h63 : xs.length + ys.length ≤ 2199023255552) (hb8 : bytes ≤ 8) (hbase : lo ≤ w.heap.size)
    (h : ∀ v' w', Own e K w' lo w'.heap.size v' (xs ++ ys) → Below lo w w' → wpList P ops Q rest (a.put o.dst v') w') : wpList P ops Q (o :: rest) a w := by
  have hbytes : (xs.length + ys.length) * bytes ≤ 2199023255552 * 8 := Nat.mul_le_mul h63 hb8
  refine wpList_append_row hgd s x t ho lo e i z bytes ht hi hz hsize hby hzs v xs.length (xs.map (Value.int K)) hs hown.row K top' u ys hx hr (by unfold maxLen; omega) (by omega) hbase (fun v' w' g1 g2 => h v' w' ⟨?_, fun k hk => (g1.lt k hk).2, fun q hq => ?_⟩ ⟨g2.os, g2.tape, g2.output, g2.size, fun k hk => g2.block k (by omega) fun e1 => ?_⟩)
  · rw [List.length_append, List.map_append]
    exact g1
  · rcases List.mem_append.1 hq with hq | hq
    · exact hown.wf q hq
    · exact hr.wf q hq
  · have := (hown.lt k e1.symm).1
    omega
/-- A slice of no elements reads as none. -/
theorem Row.zero (K : IntKind) (w : World) (top : Nat) (a : Addr) (c : Nat) (hc : c ≤ maxLen) : Row K w top (.slice (some a) 0 c) [] :=
  ⟨⟨some a, c, rfl, Nat.zero_le _, hc, (fun e => by cases e), fun hp => by simp at hp⟩, fun x hx => by cases hx⟩
/-- A piece of a slice. -/
theorem Row.sub {K : IntKind} {w : World} {hi b off n c : Nat} {xs : List Int} (h : Row K w hi (.slice (some ⟨b, off, none⟩) n c) xs) (i m : Nat) (hm : i + m ≤ n) : Row K w hi (.slice (some ⟨b, off + i, none⟩) m (c - i)) ((xs.drop i).take m) := by
  obtain ⟨⟨a, c', e, h1, h2, _, h3⟩, h4⟩ := h
  injection e with e1 e2 e3
  subst e1
  subst e2
  subst e3
  have hl : ((xs.drop i).take m).length = m := by rw [List.length_take, List.length_drop]; omega
  refine ⟨⟨_, c - i, by rw [hl], by rw [hl]; omega, by omega, (fun e => by cases e), fun hp => ?_⟩, fun x hx => h4 x (List.mem_of_mem_drop (List.mem_of_mem_take hx))⟩
  rw [hl] at hp ⊢
  obtain ⟨b', off', e, g1, g2, g3⟩ := h3 (by omega)
  injection e with e
  injection e with e1 e2 _
  subst e1
  subst e2
  refine ⟨b, off + i, rfl, g1, g2, fun j hj => ?_⟩
  rw [Nat.add_assoc, g3 (i + j) (by omega)]
  simp [List.getD, List.getElem?_drop, hj]
theorem Own.drewN {E : TypeId} {K : IntKind} {w : World} {lo hi : Nat} {v : Value} {xs : List Int} (h : Own E K w lo hi v xs) (m : Nat) : Own E K (w.drewN m) lo hi v xs := ⟨h.row, h.hi, h.wf⟩
theorem Row.drewN {K : IntKind} {w : World} {hi : Nat} {v : Value} {xs : List Int} (h : Row K w hi v xs) (m : Nat) : Row K (w.drewN m) hi v xs := ⟨h.form, h.wf⟩
theorem bOf {B m : Nat} {w w' : World} (h : Below B (w.drewN m) w') : Below B w w' := ⟨h.os, h.tape, h.output, h.size, h.block⟩
theorem bDrew {B : Nat} {a w : World} (h : Below B a w) (m : Nat) : Below B a (w.drewN m) := ⟨h.os, h.tape, h.output, h.size, h.block⟩
end Go.Proofs.YtjfmmingkciapaaDoor
/- A law for an append inside a statement whose order Go leaves open. No condition. -/
namespace Go.Proofs.YtjfmmingkciapaaDoor
open Go.ChangeShapes Go.WideShapes Go.ChangeAt Go.RowKit
set_option linter.unusedVariables false

/-- 'append(out, b...)' as one operation: out the call's own, b any slice that can be read. -/
theorem wp_append_Own {P : Program} {w : World} {o : Oper} {a : Act} {K0 : Act → World → Prop} {Q : Exit → Act → World → Prop} (s x : Operand) (t : TypeId)
    (ho : o.op = .call { callee := .builtin .append, args := #[s, x], argTypes := #[t, t] })
    (e : TypeId) (i : TypeInfo) (z : Value) (bytes : Nat) (ht : P.underlying t = some (.slice e)) (hi : P.info? e = some i) (hz : i.zero = some z) (hsize : i.size = 1) (hby : i.bytes = bytes) (hzs : z.cells.size = 1)
    (K : IntKind) (lo top : Nat) (v : Value) (xs : List Int) (hs : a.eval s = v) (hown : Own e K w lo top v xs)
    (top' : Nat) (u : Value) (ys : List Int) (hx : a.eval x = u) (hr : Row K w top' u ys)
    (h63 : xs.length + ys.length ≤ 2199023255552) (hb8 : bytes ≤ 8) (hbase : lo ≤ w.heap.size)
    (h : ∀ v' w', Own e K w' lo w'.heap.size v' (xs ++ ys) → Below lo w w' → K0 (a.put o.dst v') w') : Oper.wp P o a w K0 Q := by
  have hbytes : (xs.length + ys.length) * bytes ≤ 2199023255552 * 8 := Nat.mul_le_mul h63 hb8
  have hwf := hr.wf
  obtain ⟨⟨A, c, rfl, r1, r2, r0, r3⟩, _⟩ := hr
  rcases A with _ | ad
  · have hl : ys.length = 0 := by
      rcases Nat.eq_zero_or_pos ys.length with h0 | hp
      · exact h0
      · obtain ⟨_, _, e1, _⟩ := r3 hp
        cases e1
    have hy : ys = [] := List.length_eq_zero_iff.mp hl
    subst hy
    obtain rfl := r0 rfl
    have hrun := run_append_owned_none (P := P) (w := w) lo t o.type e i 1 ht hi v xs.length (xs.map (Value.int K)) hown.row
    have hk := h v w ⟨by rw [List.append_nil]; exact hown.row, fun k hk => (hown.lt k hk).2.2, by rw [List.append_nil]; exact hown.wf⟩ (Below.refl _ _)
    have hx' : a.eval x = .slice none 0 0 := hx
    unfold Oper.wp
    simp [execOp, ho, resolve, invoke, builtin, hs, hx', hrun, Result.andThen]
    exact hk
  · refine wp_append_own w s x t ho lo e i z 1 bytes ht hi hz hsize hby hzs (by decide) v xs.length (xs.map (Value.int K)) hs hown.row ad ys.length c (ys.map (Value.int K)) hx (by simp) (fun j q hj => ?_) (fun q hq => ?_) (by unfold maxLen; omega) (by omega) hbase (fun v' w' g1 g2 _ => h v' w' ⟨?_, fun k hk => (g1.lt k hk).2, fun q hq => ?_⟩ ⟨g2.os, g2.tape, g2.output, g2.size, fun k hk => g2.block k (by omega) fun e1 => ?_⟩)
    · have hj2 : j < ys.length := by
        have := (List.getElem?_eq_some_iff.1 hj).1
        simpa using this
      obtain ⟨b, off, e1, _, _, r4⟩ := r3 (by omega)
      injection e1 with e1
      subst e1
      have hadd : (⟨b, off, none⟩ : Addr).add j = ⟨b, off + j, none⟩ := by unfold Addr.add; split <;> simp_all
      rw [hadd, r4 j hj2]
      rw [List.getElem?_map, List.getElem?_eq_getElem hj2] at hj
      simp only [Option.map_some, Option.some.injEq] at hj
      rw [← hj]
      simp [List.getD, hj2]
    · obtain ⟨q', _, rfl⟩ := List.mem_map.1 hq
      rfl
    · rw [List.length_append, List.map_append]
      exact g1
    · rcases List.mem_append.1 hq with hq | hq
      · exact hown.wf q hq
      · exact hwf q hq
    · have := (hown.lt k e1.symm).1
      omega
/-- The same where it comes up in a statement whose order is open. -/
theorem step_append_Own {P : Program} {w : World} {ops : Array Oper} {o : Oper} {a : Act} {K0 : Act → World → Prop} {Q : Exit → Act → World → Prop} {E0 : Prop} (hgd : o.guard = none) (s x : Operand) (t : TypeId)
    (ho : o.op = .call { callee := .builtin .append, args := #[s, x], argTypes := #[t, t] })
    (e : TypeId) (i : TypeInfo) (z : Value) (bytes : Nat) (ht : P.underlying t = some (.slice e)) (hi : P.info? e = some i) (hz : i.zero = some z) (hsize : i.size = 1) (hby : i.bytes = bytes) (hzs : z.cells.size = 1)
    (K : IntKind) (lo top : Nat) (v : Value) (xs : List Int) (hs : a.eval s = v) (hown : Own e K w lo top v xs)
    (top' : Nat) (u : Value) (ys : List Int) (hx : a.eval x = u) (hr : Row K w top' u ys)
    (h63 : xs.length + ys.length ≤ 2199023255552) (hb8 : bytes ≤ 8) (hbase : lo ≤ w.heap.size)
    (h : ∀ v' w', Own e K w' lo w'.heap.size v' (xs ++ ys) → Below lo w w' → K0 (a.put o.dst v') w') : if Region.wanted o (yielded ops a.tmps) = true then Oper.wp P o a w K0 Q else E0 := by
  have hw : Region.wanted o (yielded ops a.tmps) = true := by simp [Region.wanted, hgd]
  rw [if_pos hw]
  exact wp_append_Own s x t ho e i z bytes ht hi hz hsize hby hzs K lo top v xs hs hown top' u ys hx hr h63 hb8 hbase h
/-- The same behind a guard that is open. -/
theorem wpList_append_OwnG {P : Program} {w : World} {ops : Array Oper} {rest : List Oper} {o : Oper} {a : Act} {Q : Exit → Act → World → Prop} (hw : Region.wanted o (yielded ops a.tmps) = true) (s x : Operand) (t : TypeId)
    (ho : o.op = .call { callee := .builtin .append, args := #[s, x], argTypes := #[t, t] })
    (e : TypeId) (i : TypeInfo) (z : Value) (bytes : Nat) (ht : P.underlying t = some (.slice e)) (hi : P.info? e = some i) (hz : i.zero = some z) (hsize : i.size = 1) (hby : i.bytes = bytes) (hzs : z.cells.size = 1)
    (K : IntKind) (lo top : Nat) (v : Value) (xs : List Int) (hs : a.eval s = v) (hown : Own e K w lo top v xs)
    (top' : Nat) (u : Value) (ys : List Int) (hx : a.eval x = u) (hr : Row K w top' u ys)
    (h63 : xs.length + ys.length ≤ 2199023255552) (hb8 : bytes ≤ 8) (hbase : lo ≤ w.heap.size)
    (h : ∀ v' w', Own e K w' lo w'.heap.size v' (xs ++ ys) → Below lo w w' → wpList P ops Q rest (a.put o.dst v') w') : wpList P ops Q (o :: rest) a w := by
  refine wpList_step fun K0 hK => ?_
  rw [if_pos hw]
  exact wp_append_Own s x t ho e i z bytes ht hi hz hsize hby hzs K lo top v xs hs hown top' u ys hx hr h63 hb8 hbase fun v' w' h1 h2 => hK _ _ (h v' w' h1 h2)
/-- What the append gives, ahead of the walk: for an append behind a guard. -/
theorem run_append_Own {P : Program} (w : World) (t ty : TypeId)
    (e : TypeId) (i : TypeInfo) (z : Value) (bytes : Nat) (ht : P.underlying t = some (.slice e)) (hi : P.info? e = some i) (hz : i.zero = some z) (hsize : i.size = 1) (hby : i.bytes = bytes) (hzs : z.cells.size = 1)
    (K : IntKind) (lo top : Nat) (v : Value) (xs : List Int) (hown : Own e K w lo top v xs)
    (top' : Nat) (u : Value) (ys : List Int) (hr : Row K w top' u ys)
    (h63 : xs.length + ys.length ≤ 2199023255552) (hb8 : bytes ≤ 8) (hbase : lo ≤ w.heap.size) :
    ∃ v' w', (Builtin.append_ #[t, t] ty #[v, u]).run P w = .ok v' w' ∧ Own e K w' lo w'.heap.size v' (xs ++ ys) ∧ Below lo w w' := by
  have hbytes : (xs.length + ys.length) * bytes ≤ 2199023255552 * 8 := Nat.mul_le_mul h63 hb8
  have hwf := hr.wf
  obtain ⟨⟨A, c, rfl, r1, r2, r0, r3⟩, _⟩ := hr
  rcases A with _ | ad
  · have hl : ys.length = 0 := by
      rcases Nat.eq_zero_or_pos ys.length with h0 | hp
      · exact h0
      · obtain ⟨_, _, e1, _⟩ := r3 hp
        cases e1
    have hy : ys = [] := List.length_eq_zero_iff.mp hl
    subst hy
    obtain rfl := r0 rfl
    exact ⟨v, w, run_append_owned_none (P := P) (w := w) lo t ty e i 1 ht hi v xs.length (xs.map (Value.int K)) hown.row,
      ⟨by rw [List.append_nil]; exact hown.row, fun k hk => (hown.lt k hk).2.2, by rw [List.append_nil]; exact hown.wf⟩, Below.refl _ _⟩
  · obtain ⟨v', w', hrun, g1, g2, _⟩ := run_append_own (P := P) w lo t ty e i z 1 bytes ht hi hz hsize hby hzs (by decide) v xs.length (xs.map (Value.int K)) hown.row ad ys.length c (ys.map (Value.int K)) (by simp) (fun j q hj => by
      have hj2 : j < ys.length := by
        have := (List.getElem?_eq_some_iff.1 hj).1
        simpa using this
      obtain ⟨b, off, e1, _, _, r4⟩ := r3 (by omega)
      injection e1 with e1
      subst e1
      have hadd : (⟨b, off, none⟩ : Addr).add j = ⟨b, off + j, none⟩ := by unfold Addr.add; split <;> simp_all
      rw [hadd, r4 j hj2]
      rw [List.getElem?_map, List.getElem?_eq_getElem hj2] at hj
      simp only [Option.map_some, Option.some.injEq] at hj
      rw [← hj]
      simp [List.getD, hj2]) (fun q hq => by
      obtain ⟨q', _, rfl⟩ := List.mem_map.1 hq
      rfl) (by unfold maxLen; omega) (by omega) hbase
    refine ⟨v', w', hrun, ⟨?_, fun k hk => (g1.lt k hk).2, fun q hq => ?_⟩, ⟨g2.os, g2.tape, g2.output, g2.size, fun k hk => g2.block k (by omega) fun e1 => ?_⟩⟩
    · rw [List.length_append, List.map_append]
      exact g1
    · rcases List.mem_append.1 hq with hq | hq
      · exact hown.wf q hq
      · exact hwf q hq
    · have := (hown.lt k e1.symm).1
      omega
theorem Own.form {E : TypeId} {K : IntKind} {w : World} {lo hi : Nat} {v : Value} {xs : List Int} (h : Own E K w lo hi v xs) (hp : 0 < xs.length) :
    ∃ g cap, v = .slice (some ⟨g, 0, none⟩) xs.length cap ∧ xs.length ≤ cap ∧ cap ≤ maxLen ∧ lo ≤ g ∧ g < hi ∧ g < w.heap.size := by
  have hl := h.lt
  rcases h.row.2 with ⟨_, h0⟩ | ⟨g, cap, cur, rfl, g1, _, g3, g4, _⟩
  · omega
  · obtain ⟨_, l2, l3⟩ := hl g rfl
    exact ⟨g, cap, rfl, g3, g4, g1, l2, l3⟩
/-- One place of a slice of the call's own is written. -/
theorem Own.set {E : TypeId} {K : IntKind} {w : World} {lo hi g cap n : Nat} {xs : List Int} (h : Own E K w lo hi (.slice (some ⟨g, 0, none⟩) n cap) xs) (j : Nat) (y : Int) (hy : (Lit.int K y).wf = true) :
    Own E K (w.setCell ⟨g, j, none⟩ (.int K y)) lo hi (.slice (some ⟨g, 0, none⟩) n cap) (xs.set j y) := by
  have hn : n = xs.length := by
    rcases h.row.2 with ⟨h0, _⟩ | ⟨g', cap', cur, h0, _⟩
    · cases h0
    · injection h0
  subst hn
  refine ⟨?_, h.hi, fun x hx => ?_⟩
  · rw [List.length_set, List.map_set]
    exact (h.row.stored j (.int K y)).1
  · rcases List.mem_or_eq_of_mem_set hx with hx | rfl
    · exact h.wf x hx
    · exact hy
theorem Own.drew {E : TypeId} {K : IntKind} {w : World} {lo hi : Nat} {v : Value} {xs : List Int} (h : Own E K w lo hi v xs) : Own E K w.drew lo hi v xs := ⟨h.row.drew, h.hi, h.wf⟩
end Go.Proofs.YtjfmmingkciapaaDoor
/- An append onto a slice that the call owns, of which it is known where the new slice lies: for copies of structs with several slices. No condition. -/
namespace Go.Proofs.YtjfmmingkciapaaDoor
open Go.ChangeShapes Go.WideShapes Go.ChangeAt Go.RowKit
set_option linter.unusedVariables false

theorem Own.grown {E : TypeId} {K : IntKind} {w w' : World} {lo hi g : Nat} {v : Value} {xs : List Int} (h : Own E K w lo hi v xs) (hg : w.grownBy w' (some g)) (hne : g < lo ∨ hi ≤ g) : Own E K w' lo hi v xs :=
  h.keep fun k h1 h2 h3 => hg.block k h3 (fun e => by injection e with e; omega)
theorem below_grown {B : Nat} {w0 w w' : World} {g : Nat} (h : Below B w0 w) (hg : w.grownBy w' (some g)) (hB : B ≤ w0.heap.size) (hne : B ≤ g) : Below B w0 w' :=
  h.trans ⟨hg.os, hg.tape, hg.output, hg.size, fun k hk => hg.block k (by have := h.size; omega) (fun e => by injection e with e; omega)⟩
theorem blk_grown {w w' : World} {g F : Nat} {o : Obj} (h : w.heap[F]? = some o) (hg : w.grownBy w' (some g)) (hne : F ≠ g) : w'.heap[F]? = some o :=
  (hg.block F (Array.getElem?_eq_some_iff.1 h).1 (fun e => by injection e with e; exact hne e)).trans h
theorem step_append_at {P : Program} {w : World} {ops : Array Oper} {o : Oper} {a : Act} {K0 : Act → World → Prop} {Q : Exit → Act → World → Prop} {E0 : Prop} (hgd : o.guard = none) (s x : Operand) (t : TypeId)
    (ho : o.op = .call { callee := .builtin .append, args := #[s, x], argTypes := #[t, t] })
    (e : TypeId) (i : TypeInfo) (z : Value) (bytes : Nat) (ht : P.underlying t = some (.slice e)) (hi : P.info? e = some i) (hz : i.zero = some z) (hsize : i.size = 1) (hby : i.bytes = bytes) (hzs : z.cells.size = 1)
    (K : IntKind) (g : Nat) (v : Value) (xs : List Int) (hs : a.eval s = v) (hown : Own e K w g (g + 1) v xs) (hv : v.ownBlock = some g)
    (top' : Nat) (u : Value) (ys : List Int) (hx : a.eval x = u) (hr : Row K w top' u ys)
    (h63 : xs.length + ys.length ≤ 2199023255552) (hb8 : bytes ≤ 8)
    (h : ∀ v' w' g', Own e K w' g' (g' + 1) v' (xs ++ ys) → (g' = g ∨ g' = w.heap.size) → w.grownBy w' (some g) → g' < w'.heap.size → K0 (a.put o.dst v') w') : if Region.wanted o (yielded ops a.tmps) = true then Oper.wp P o a w K0 Q else E0 := by
  have hw : Region.wanted o (yielded ops a.tmps) = true := by simp [Region.wanted, hgd]
  rw [if_pos hw]
  have hg : g < w.heap.size := (hown.row.lt g hv).2
  have hbytes : (xs.length + ys.length) * bytes ≤ 2199023255552 * 8 := Nat.mul_le_mul h63 hb8
  have hwf := hr.wf
  obtain ⟨⟨A, c, rfl, r1, r2, r0, r3⟩, _⟩ := hr
  rcases A with _ | ad
  · have hl : ys.length = 0 := by
      rcases Nat.eq_zero_or_pos ys.length with h0 | hp
      · exact h0
      · obtain ⟨_, _, e1, _⟩ := r3 hp
        cases e1
    have hy : ys = [] := List.length_eq_zero_iff.mp hl
    subst hy
    obtain rfl := r0 rfl
    have hrun := run_append_owned_none (P := P) (w := w) g t o.type e i 1 ht hi v xs.length (xs.map (Value.int K)) hown.row
    have hk := h v w g ⟨by rw [List.append_nil]; exact hown.row, hown.hi, by rw [List.append_nil]; exact hown.wf⟩ (.inl rfl) ⟨rfl, rfl, rfl, Nat.le_refl _, fun _ _ _ => rfl⟩ hg
    have hx' : a.eval x = .slice none 0 0 := hx
    unfold Oper.wp
    simp [execOp, ho, resolve, invoke, builtin, hs, hx', hrun, Result.andThen]
    exact hk
  · obtain ⟨v', w', hrun, g1, g2, _, g3⟩ := run_append_own_at (P := P) w g t o.type e i z 1 bytes ht hi hz hsize hby hzs (by decide) v xs.length (xs.map (Value.int K)) hown.row ad ys.length c (ys.map (Value.int K)) (by simp) (fun j q hj => by
        have hj2 : j < ys.length := by
          have := (List.getElem?_eq_some_iff.1 hj).1
          simpa using this
        obtain ⟨b, off, e1, _, _, r4⟩ := r3 (by omega)
        injection e1 with e1
        subst e1
        have hadd : (⟨b, off, none⟩ : Addr).add j = ⟨b, off + j, none⟩ := by unfold Addr.add; split <;> simp_all
        rw [hadd, r4 j hj2]
        rw [List.getElem?_map, List.getElem?_eq_getElem hj2] at hj
        simp only [Option.map_some, Option.some.injEq] at hj
        rw [← hj]
        simp [List.getD, hj2]) (fun q hq => by
        obtain ⟨q', _, rfl⟩ := List.mem_map.1 hq
        rfl) (by unfold maxLen; omega) (by omega) (by omega)
    rw [hv] at g2 g3
    obtain ⟨g', hg', hg''⟩ : ∃ g', v'.ownBlock = some g' ∧ (g' = g ∨ g' = w.heap.size) := by
      rcases g3 with e1 | e1
      · exact ⟨_, e1, .inl rfl⟩
      · exact ⟨_, e1, .inr rfl⟩
    have hlt := (g1.lt g' hg').2
    rw [← List.map_append, ← List.length_append] at g1
    have hk := h v' w' g' ⟨⟨g1.1, ?_⟩, fun k hk => by rw [hg'] at hk; injection hk with hk; omega, fun q hq => ?_⟩ hg'' g2 hlt
    · unfold Oper.wp
      have hx' : a.eval x = .slice (some ad) ys.length c := hx
      simp [execOp, ho, resolve, invoke, builtin, hs, hx', hrun, Result.andThen]
      exact hk
    · rcases g1.2 with ⟨rfl, _⟩ | ⟨g0, cap, cur, rfl, k1, rest⟩
      · simp [Value.ownBlock] at hg'
      · have : g0 = g' := by simpa [Value.ownBlock] using hg'
        exact .inr ⟨g0, cap, cur, rfl, by omega, rest⟩
    · rcases List.mem_append.1 hq with hq | hq
      · exact hown.wf q hq
      · exact hwf q hq
end Go.Proofs.YtjfmmingkciapaaDoor
/- Slices whose elements are several cells each: one that is read, and one that a call has made for itself; what keeps them. No condition; any program. -/
namespace Go.Proofs.YtjfmmingkciapaaDoor
open Go.ChangeShapes Go.WideShapes Go.ChangeAt Go.RowKit
set_option linter.unusedVariables false

/-! Lists of elements, laid out in cells. -/
section
variable {X : Type} {f : X → List Value} {s : Nat}
theorem flat_len (hf : ∀ x, (f x).length = s) : ∀ xs : List X, (xs.flatMap f).length = xs.length * s
  | [] => by simp
  | x :: xs => by
    rw [List.flatMap_cons, List.length_append, hf, flat_len hf xs, List.length_cons, Nat.add_mul, Nat.one_mul]
    omega
theorem flat_at (hf : ∀ x, (f x).length = s) : ∀ {xs : List X} {i : Nat} {x : X}, xs[i]? = some x → ∀ {j : Nat}, j < s → (xs.flatMap f)[i * s + j]? = (f x)[j]?
  | [], i, x, h, _, _ => by simp at h
  | y :: ys, 0, x, h, j, hj => by
    simp only [List.getElem?_cons_zero, Option.some.injEq] at h
    subst h
    rw [List.flatMap_cons, Nat.zero_mul, Nat.zero_add, List.getElem?_append_left (by rw [hf]; exact hj)]
  | y :: ys, i + 1, x, h, j, hj => by
    rw [List.getElem?_cons_succ] at h
    rw [List.flatMap_cons, List.getElem?_append_right (by rw [hf, Nat.add_mul]; omega), hf, show (i + 1) * s + j - s = i * s + j by rw [Nat.add_mul]; omega]
    exact flat_at hf h hj
theorem flat_inj (hf : ∀ x, (f x).length = s) (hs : 0 < s) (hi : ∀ x y, f x = f y → x = y) : ∀ {xs ys : List X}, xs.flatMap f = ys.flatMap f → xs = ys
  | [], [], _ => rfl
  | [], y :: ys, h => by
    have := congrArg List.length h
    rw [List.flatMap_cons, List.length_append, hf] at this
    simp at this
    omega
  | x :: xs, [], h => by
    have := congrArg List.length h
    rw [List.flatMap_cons, List.length_append, hf] at this
    simp at this
    omega
  | x :: xs, y :: ys, h => by
    rw [List.flatMap_cons, List.flatMap_cons] at h
    obtain ⟨h1, h2⟩ := List.append_inj h (by rw [hf, hf])
    rw [hi x y h1, flat_inj hf hs hi h2]
/-- Of a list of elements the first k are laid, behind them zeros. -/
def halfC (f : X → List Value) (z : List Value) (xs : List X) (k : Nat) : List Value := (xs.take k).flatMap f ++ (List.replicate (xs.length - k) z).flatten
theorem halfC_zero (z : List Value) (xs : List X) : halfC f z xs 0 = (List.replicate xs.length z).flatten := by simp [halfC]
theorem halfC_all (z : List Value) (xs : List X) : halfC f z xs xs.length = xs.flatMap f := by simp [halfC]
theorem made_zeros (z : List Value) (s : Nat) (hs : 0 < s) (hz : z.length = s) (n : Nat) : (madeCells z.toArray (n * s)).toList = (List.replicate n z).flatten := by
  have e : (List.replicate n z).flatten = (List.replicate n ()).flatMap (fun _ => z) := by rw [List.flatMap_def, List.map_replicate]
  rw [e]
  apply List.ext_getElem?
  intro i
  by_cases hi : i < n * s
  · have h1 : i / s < n := Nat.div_lt_of_lt_mul (by rw [Nat.mul_comm]; exact hi)
    have h2 : i % s < s := Nat.mod_lt _ hs
    have h3 := flat_at (f := fun (_ : Unit) => z) (s := s) (fun _ => hz) (xs := List.replicate n ()) (i := i / s) (x := ()) (by rw [List.getElem?_replicate, if_pos h1]) h2
    rw [Nat.mul_comm, Nat.div_add_mod] at h3
    rw [h3]
    have h4 : i % s < z.length := by rw [hz]; exact h2
    simp [madeCells, hi, hz]
    rw [List.getElem?_eq_getElem h4, Option.getD_some]
  · rw [List.getElem?_eq_none (by simp [madeCells]; omega), List.getElem?_eq_none (by rw [flat_len (f := fun (_ : Unit) => z) (s := s) (fun _ => hz), List.length_replicate]; omega)]
/-- Cells written in a row. -/
def setMany : List Value → Nat → List Value → List Value
  | l, _, [] => l
  | l, i, u :: us => setMany (l.set i u) (i + 1) us
theorem setMany_mid : ∀ (us : List Value) (a b c : List Value), us.length = b.length → setMany (a ++ (b ++ c)) a.length us = a ++ (us ++ c)
  | [], a, b, c, h => by
    have : b = [] := List.length_eq_zero_iff.mp (by simpa using h.symm)
    subst this
    rfl
  | u :: us, a, [], c, h => by simp at h
  | u :: us, a, x :: b, c, h => by
    have e : (a ++ (x :: b ++ c)).set a.length u = (a ++ [u]) ++ (b ++ c) := by
      rw [List.set_append_right _ _ (Nat.le_refl _), Nat.sub_self]
      simp
    unfold setMany
    rw [e, show a.length + 1 = (a ++ [u]).length by simp, setMany_mid us (a ++ [u]) b c (by simpa using h)]
    simp
theorem halfC_set (hf : ∀ x, (f x).length = s) (z : List Value) (hz : z.length = s) {xs : List X} {k : Nat} {x : X} (hx : xs[k]? = some x) : setMany (halfC f z xs k) (k * s) (f x) = halfC f z xs (k + 1) := by
  have hk : k < xs.length := (List.getElem?_eq_some_iff.1 hx).1
  have hl : ((xs.take k).flatMap f).length = k * s := by rw [flat_len hf, List.length_take]; congr 1; omega
  unfold halfC
  rw [show xs.length - k = (xs.length - (k + 1)) + 1 by omega, List.replicate_succ, List.flatten_cons, ← hl, setMany_mid _ _ _ _ (by rw [hf, hz]), List.take_add_one, hx]
  simp
theorem halfC_at (hf : ∀ x, (f x).length = s) (z : List Value) (hz : z.length = s) {xs : List X} {k : Nat} (hk : k < xs.length) {j : Nat} (hj : j < s) : (halfC f z xs k)[k * s + j]? = z[j]? := by
  have hl : ((xs.take k).flatMap f).length = k * s := by rw [flat_len hf, List.length_take]; congr 1; omega
  unfold halfC
  rw [List.getElem?_append_right (by omega), hl, Nat.add_sub_cancel_left, show xs.length - k = (xs.length - (k + 1)) + 1 by omega, List.replicate_succ, List.flatten_cons, List.getElem?_append_left (by omega)]
/-- Of two lists of elements, laid out: the first j of the second, behind them the rest of the first. -/
def mixC (f : X → List Value) (xs ys : List X) (j : Nat) : List Value := (ys.take j).flatMap f ++ (xs.drop j).flatMap f
theorem mixC_zero (xs ys : List X) : mixC f xs ys 0 = xs.flatMap f := by simp [mixC]
theorem mixC_all {xs ys : List X} (h : ys.length = xs.length) : mixC f xs ys xs.length = ys.flatMap f := by
  unfold mixC
  rw [List.take_of_length_le (by omega), List.drop_of_length_le (Nat.le_refl _)]
  simp
theorem mixC_at (hf : ∀ x, (f x).length = s) {xs ys : List X} (h : ys.length = xs.length) {j : Nat} {x : X} (hx : xs[j]? = some x) {i : Nat} (hi : i < s) : (mixC f xs ys j)[j * s + i]? = (f x)[i]? := by
  have hj : j < xs.length := (List.getElem?_eq_some_iff.1 hx).1
  have hl : ((ys.take j).flatMap f).length = j * s := by rw [flat_len hf, List.length_take]; congr 1; omega
  have hx' : xs[j] = x := (List.getElem?_eq_some_iff.1 hx).2
  unfold mixC
  rw [List.getElem?_append_right (by omega), hl, Nat.add_sub_cancel_left, List.drop_eq_getElem_cons hj, List.flatMap_cons, hx', List.getElem?_append_left (by rw [hf]; exact hi)]
theorem mixC_set (hf : ∀ x, (f x).length = s) {xs ys : List X} (h : ys.length = xs.length) {j : Nat} {y : X} (hy : ys[j]? = some y) : setMany (mixC f xs ys j) (j * s) (f y) = mixC f xs ys (j + 1) := by
  have hj : j < ys.length := (List.getElem?_eq_some_iff.1 hy).1
  have hj2 : j < xs.length := by omega
  have hl : ((ys.take j).flatMap f).length = j * s := by rw [flat_len hf, List.length_take]; congr 1; omega
  unfold mixC
  rw [List.drop_eq_getElem_cons hj2, List.flatMap_cons, ← hl, setMany_mid _ _ _ _ (by rw [hf, hf]), List.take_add_one, hy]
  simp
end

/-- The slice v of m elements, s cells each, reads as the cells cs; where it has elements they lie in one block below 'hi'. -/
structure RowC (s : Nat) (w : World) (hi : Nat) (v : Value) (m : Nat) (cs : List Value) : Prop where
  len : cs.length = m * s
  form : ∃ a c, v = .slice a m c ∧ m ≤ c ∧ c ≤ maxLen ∧ (a = none → c = 0) ∧
    (0 < m → ∃ b off, a = some ⟨b, off, none⟩ ∧ b < hi ∧ b < w.heap.size ∧ ∀ (j : Nat) (u : Value), cs[j]? = some u → w.cell? ⟨b, off + j, none⟩ = some u)
/-- The slice v is the call's own: it reads as cs, its block lies from 'lo' on and below 'hi', and it may be written. -/
structure OwnC (E : TypeId) (s : Nat) (w : World) (lo hi : Nat) (v : Value) (m : Nat) (cs : List Value) : Prop where
  row : w.ownsRow lo E s v m cs
  hi : ∀ k, v.ownBlock = some k → k < hi
section
variable {E : TypeId} {s : Nat} {w w' : World} {lo hi m : Nat} {v : Value} {cs : List Value}
theorem RowC.keep (h : RowC s w hi v m cs) (hs : w.heap.size ≤ w'.heap.size) (hb : ∀ k, k < hi → k < w.heap.size → w'.heap[k]? = w.heap[k]?) : RowC s w' hi v m cs := by
  obtain ⟨hl, a, c, rfl, h1, h2, h0, h3⟩ := h
  refine ⟨hl, a, c, rfl, h1, h2, h0, fun hp => ?_⟩
  obtain ⟨b, off, rfl, g1, g2, g3⟩ := h3 hp
  exact ⟨b, off, rfl, g1, by omega, fun j u hu => (World.cell?_of_block (w := w) (hb b g1 g2)).trans (g3 j u hu)⟩
theorem RowC.below {B : Nat} (h : RowC s w hi v m cs) (hb : Below B w w') (hB : hi ≤ B) : RowC s w' hi v m cs :=
  h.keep hb.size fun k hk _ => hb.block k (by omega)
theorem RowC.more {hi' : Nat} (h : RowC s w hi v m cs) (hB : hi ≤ hi') : RowC s w hi' v m cs := by
  obtain ⟨hl, a, c, rfl, h1, h2, h0, h3⟩ := h
  refine ⟨hl, a, c, rfl, h1, h2, h0, fun hp => ?_⟩
  obtain ⟨b, off, rfl, g1, g2, g3⟩ := h3 hp
  exact ⟨b, off, rfl, by omega, g2, g3⟩
theorem RowC.drewN (h : RowC s w hi v m cs) (n : Nat) : RowC s (w.drewN n) hi v m cs := ⟨h.len, h.form⟩
theorem OwnC.lt (h : OwnC E s w lo hi v m cs) : ∀ k, v.ownBlock = some k → lo ≤ k ∧ k < hi ∧ k < w.heap.size := fun k hk => ⟨(h.row.lt k hk).1, h.hi k hk, (h.row.lt k hk).2⟩
theorem OwnC.keep (h : OwnC E s w lo hi v m cs) (hb : ∀ k, lo ≤ k → k < hi → k < w.heap.size → w'.heap[k]? = w.heap[k]?) : OwnC E s w' lo hi v m cs := by
  have hl := h.lt
  refine ⟨⟨h.row.1, ?_⟩, h.hi⟩
  rcases h.row.2 with hn | ⟨g, cap, cur, rfl, g1, g2, rest⟩
  · exact .inl hn
  · obtain ⟨l1, l2, l3⟩ := hl g rfl
    exact .inr ⟨g, cap, cur, rfl, g1, (hb g l1 l2 l3).trans g2, rest⟩
theorem OwnC.below {B : Nat} (h : OwnC E s w lo hi v m cs) (hb : Below B w w') (hB : hi ≤ B) : OwnC E s w' lo hi v m cs :=
  h.keep fun k _ hk _ => hb.block k (by omega)
theorem OwnC.wide {lo' hi' : Nat} (h : OwnC E s w lo hi v m cs) (h1 : lo' ≤ lo) (h2 : hi ≤ hi') : OwnC E s w lo' hi' v m cs := by
  refine ⟨⟨h.row.1, ?_⟩, fun k hk => Nat.lt_of_lt_of_le (h.hi k hk) h2⟩
  rcases h.row.2 with hn | ⟨g, cap, cur, rfl, g1, g2, rest⟩
  · exact .inl hn
  · exact .inr ⟨g, cap, cur, rfl, by omega, g2, rest⟩
theorem OwnC.drewN (h : OwnC E s w lo hi v m cs) (n : Nat) : OwnC E s (w.drewN n) lo hi v m cs := ⟨h.row, h.hi⟩
/-- What is owned can be read. -/
theorem OwnC.read (h : OwnC E s w lo hi v m cs) : RowC s w hi v m cs := by
  have hl := h.lt
  have hr := h.row
  rcases hr.2 with ⟨rfl, hn⟩ | ⟨g, cap, cur, rfl, g1, g2, g3, g4, g5, g6⟩
  · exact ⟨hr.1, none, 0, by rw [hn], by omega, by decide, fun _ => rfl, fun hp => by omega⟩
  · obtain ⟨l1, l2, l3⟩ := hl g rfl
    refine ⟨hr.1, _, cap, rfl, g3, g4, (fun e => by cases e), fun hp => ⟨g, 0, rfl, l2, l3, fun j u hu => ?_⟩⟩
    have hj : j < m * s := by have := (List.getElem?_eq_some_iff.1 hu).1; have := hr.1; omega
    rw [Nat.zero_add, hr.cellAt j hj, hu]
/-- Stores into the slice itself. -/
theorem RowC.wrote {u : Value} {ys : List Value} {l h' n : Nat} {E' : TypeId} {s' : Nat} (h : RowC s w hi v m cs) (ho : OwnC E' s' w l h' u n ys) (hw : Wrote w w' u) (hd : hi ≤ l) : RowC s w' hi v m cs :=
  h.keep hw.1.size fun k hk hs => hw.1.block k hs fun e => by have := (ho.lt k e.symm).1; omega
theorem OwnC.wrote {E' : TypeId} {s' : Nat} {u : Value} {ys : List Value} {l h' n : Nat} (h : OwnC E s w lo hi v m cs) (ho : OwnC E' s' w l h' u n ys) (hw : Wrote w w' u) (hd : hi ≤ l ∨ h' ≤ lo) : OwnC E s w' lo hi v m cs :=
  h.keep fun k h1 h2 hs => hw.1.block k hs fun e => by obtain ⟨q1, q2, _⟩ := ho.lt k e.symm; omega
theorem wroteC_below {u : Value} {ys : List Value} {l h' n B : Nat} (hw : Wrote w w' u) (ho : OwnC E s w l h' u n ys) (hB : B ≤ l) (hs : B ≤ w.heap.size) : Below B w w' :=
  ⟨hw.1.os, hw.1.tape, hw.1.output, hw.1.size, fun k hk => hw.1.block k (by omega) fun e => by have := (ho.lt k e.symm).1; omega⟩
/-- Cells in a row written, in the world. -/
def wsetMany : World → Nat → Nat → List Value → World
  | w, _, _, [] => w
  | w, g, i, u :: us => wsetMany (w.setCell ⟨g, i, none⟩ u) g (i + 1) us
theorem OwnC.setMany {g cap n : Nat} : ∀ (us : List Value) {w : World} {cs : List Value} (i : Nat), OwnC E s w lo hi (.slice (some ⟨g, 0, none⟩) n cap) n cs → OwnC E s (wsetMany w g i us) lo hi (.slice (some ⟨g, 0, none⟩) n cap) n (setMany cs i us)
  | [], w, cs, i, h => h
  | u :: us, w, cs, i, h => OwnC.setMany us (i + 1) ⟨(h.row.stored i u).1, h.hi⟩
theorem Below.setMany {B g : Nat} {w0 : World} (hB : B ≤ g) : ∀ (us : List Value) {w : World} (i : Nat), Below B w0 w → Below B w0 (wsetMany w g i us)
  | [], w, i, h => h
  | u :: us, w, i, h => Below.setMany hB us (i + 1) (h.setCell (p := ⟨g, i, none⟩) hB u)
theorem wsetMany_size {g : Nat} : ∀ (us : List Value) (w : World) (i : Nat), (wsetMany w g i us).heap.size = w.heap.size
  | [], w, i => rfl
  | u :: us, w, i => (wsetMany_size us _ (i + 1)).trans (by simp [World.setCell])
theorem OwnC.setFar {g : Nat} : ∀ (us : List Value) {w : World} (i : Nat), OwnC E s w lo hi v m cs → hi ≤ g → OwnC E s (wsetMany w g i us) lo hi v m cs
  | [], w, i, h, hg => h
  | u :: us, w, i, h, hg => OwnC.setFar us (i + 1) (h.keep fun k _ hk _ => Below.heap_setCell _ _ _ _ (by show k ≠ g; omega)) hg
theorem wrote_setMany {g n cap : Nat} {w : World} : ∀ (us : List Value) {wr : World} (i : Nat), Wrote w wr (.slice (some ⟨g, 0, none⟩) n cap) → Wrote w (wsetMany wr g i us) (.slice (some ⟨g, 0, none⟩) n cap)
  | [], wr, i, h => h
  | u :: us, wr, i, h => wrote_setMany us (i + 1) (wrote_set h u)
theorem RowC.fits {n c : Nat} {a : Option Addr} (h : RowC s w hi (.slice a n c) m cs) : n ≤ c ∧ c ≤ maxLen := by
  obtain ⟨_, _, _, e, h1, h2, _⟩ := h
  injection e with e1 e2 e3
  exact ⟨by omega, by omega⟩
/-- One element in a block just made reads as a slice of one. -/
theorem rowC_one (s : Nat) (T : TypeId) (w : World) (cs : List Value) (hl : cs.length = s) : RowC s (w.alloc (.cells cs.toArray T)) (w.heap.size + 1) (.slice (some ⟨w.heap.size, 0, none⟩) 1 1) 1 cs := by
  refine ⟨by rw [hl, Nat.one_mul], _, 1, rfl, Nat.le_refl _, by decide, (fun e => by cases e), fun _ => ⟨w.heap.size, 0, rfl, by omega, by simp, fun j u hu => ?_⟩⟩
  rw [World.cell?_alloc_new, Nat.zero_add]
  simpa using hu
/-- 'append(out, b...)': out the call's own, b any slice that can be read. -/
theorem wpList_append_OwnC {P : Program} {ops : Array Oper} {rest : List Oper} {o : Oper} {a : Act} {Q : Exit → Act → World → Prop} (hgd : o.guard = none) (sl x : Operand) (t : TypeId)
    (ho : o.op = .call { callee := .builtin .append, args := #[sl, x], argTypes := #[t, t] })
    (i : TypeInfo) (z : Value) (bytes : Nat) (ht : P.underlying t = some (.slice E)) (hi' : P.info? E = some i) (hz : i.zero = some z) (hsize : i.size = s) (hby : i.bytes = bytes) (hzs : z.cells.size = s) (hs0 : 0 < s)
    (hs : a.eval sl = v) (hown : OwnC E s w lo hi v m cs)
    (top' : Nat) (u : Value) (m2 : Nat) (ds : List Value) (hx : a.eval x = u) (hr : RowC s w top' u m2 ds) (h1 : ∀ q ∈ ds, q.oneCell' = true)
    (h63 : m + m2 ≤ 1073741824) (hb8 : bytes ≤ 1024) (hbase : lo ≤ w.heap.size)
    (h : ∀ v' w', OwnC E s w' lo w'.heap.size v' (m + m2) (cs ++ ds) → Below lo w w' → wpList P ops Q rest (a.put o.dst v') w') : wpList P ops Q (o :: rest) a w := by
  have hbytes : (m + m2) * bytes ≤ 1073741824 * 1024 := Nat.mul_le_mul h63 hb8
  obtain ⟨hl, A, c, rfl, r1, r2, r0, r3⟩ := hr
  rcases A with _ | ad
  · have hm : m2 = 0 := by
      rcases Nat.eq_zero_or_pos m2 with h0 | hp
      · exact h0
      · obtain ⟨_, _, e1, _⟩ := r3 hp
        cases e1
    subst hm
    have hd : ds = [] := List.length_eq_zero_iff.mp (by simpa using hl)
    subst hd
    obtain rfl := r0 rfl
    refine wpList_append_own_none hgd sl x t ho lo E i s ht hi' v m cs hs hown.row hx (h v w ⟨by simpa using hown.row, fun k hk => (hown.lt k hk).2.2⟩ (Below.refl _ _))
  · refine wpList_append_own w hgd sl x t ho lo E i z s bytes ht hi' hz hsize hby hzs hs0 v m cs hs hown.row ad m2 c ds hx hl (fun j q hj => ?_) h1 (by unfold maxLen; omega) (by omega) hbase
      (fun v' w' g1 g2 _ => h v' w' ⟨g1, fun k hk => (g1.lt k hk).2⟩ ⟨g2.os, g2.tape, g2.output, g2.size, fun k hk => g2.block k (by omega) fun e1 => by have := (hown.lt k e1.symm).1; omega⟩)
    have hp : 0 < m2 := by
      have := (List.getElem?_eq_some_iff.1 hj).1
      rcases Nat.eq_zero_or_pos m2 with h0 | hp
      · rw [hl, h0] at this; omega
      · exact hp
    obtain ⟨b, off, e1, _, _, r4⟩ := r3 hp
    injection e1 with e1
    subst e1
    have hadd : (⟨b, off, none⟩ : Addr).add j = ⟨b, off + j, none⟩ := by unfold Addr.add; split <;> simp_all
    rw [hadd]
    exact r4 j q hj
theorem OwnC.made (E : TypeId) {s n cap : Nat} {w w' : World} {cs : List Value} (h : w'.ownsRow w.heap.size E s (.slice (some ⟨w.heap.size, 0, none⟩) n cap) n cs) : OwnC E s w' w.heap.size (w.heap.size + 1) (.slice (some ⟨w.heap.size, 0, none⟩) n cap) n cs :=
  ⟨h, fun k hk => by
    have : w.heap.size = k := by simpa [Value.ownBlock] using hk
    omega⟩
theorem OwnC.empty (E : TypeId) (s : Nat) (w : World) : OwnC E s (w.alloc (.cells #[] E)) w.heap.size (w.heap.size + 1) (.slice (some ⟨w.heap.size, 0, none⟩) 0 0) 0 [] :=
  ⟨World.ownsRow_lit w #[] 0 (Nat.le_refl _) (by decide) (by simp), fun k hk => by
    have : w.heap.size = k := by simpa [Value.ownBlock] using hk
    omega⟩
end
theorem OwnC.joined {X : Type} {f : X → List Value} {E : TypeId} {s : Nat} {w : World} {lo hi : Nat} {v : Value} {xs ys : List X} (h : OwnC E s w lo hi v (xs.length + ys.length) (xs.flatMap f ++ ys.flatMap f)) : OwnC E s w lo hi v (xs ++ ys).length ((xs ++ ys).flatMap f) := by
  rw [List.length_append, List.flatMap_append]
  exact h
theorem flat_one {X : Type} {f : X → List Value} (h : ∀ x, ∀ u ∈ f x, u.oneCell' = true) (xs : List X) : ∀ u ∈ xs.flatMap f, u.oneCell' = true := fun u hu => by
  obtain ⟨x, _, hx⟩ := List.mem_flatMap.1 hu
  exact h x u hx
end Go.Proofs.YtjfmmingkciapaaDoor
/- Data of any depth, as cells: numbers, flags, rows of cells. How a value holds them, read and owned; what keeps them; marks. No condition; any program. -/
namespace Go.Proofs.YtjfmmingkciapaaDoor
open Go.ChangeShapes Go.WideShapes Go.ChangeAt Go.RowKit
set_option linter.unusedVariables false

/-- A cell: a number, a flag, or a slice of n elements, whose cells stand one behind another. -/
inductive Cell where
  | num (x : Int)
  | flag (b : Bool)
  | row (n : Nat) (cs : List Cell)

mutual
/-- v reads as the cell; all that it reaches lies below hi. -/
def rdC (w : World) (hi : Nat) : Cell → Value → Prop
  | .num x, v => v = .int .i64 x ∧ (Lit.int .i64 x).wf = true
  | .flag b, v => v = .bool b
  | .row n cs, v => ∃ a c, v = .slice a n c ∧ n ≤ c ∧ c ≤ maxLen ∧ (a = none → c = 0) ∧ (n = 0 → cs = []) ∧ (0 < n → ∃ b off, a = some ⟨b, off, none⟩ ∧ b < hi ∧ b < w.heap.size ∧ rdE w hi b off cs)
/-- The cells stand one behind another in block b, from off on. -/
def rdE (w : World) (hi b : Nat) : Nat → List Cell → Prop
  | _, [] => True
  | off, c :: cs => (∃ u, w.cell? ⟨b, off, none⟩ = some u ∧ rdC w hi c u) ∧ rdE w hi b (off + 1) cs
end
/-- A struct's values read as its cells. -/
def rdL (w : World) (hi : Nat) : List Cell → List Value → Prop
  | [], vs => vs = []
  | c :: cs, vs => ∃ v vs', vs = v :: vs' ∧ rdC w hi c v ∧ rdL w hi cs vs'
section
variable {w w' : World} {hi hi' : Nat}
theorem rdE_at {b : Nat} : ∀ {cs : List Cell} {off j : Nat} {c : Cell}, rdE w hi b off cs → cs[j]? = some c → ∃ u, w.cell? ⟨b, off + j, none⟩ = some u ∧ rdC w hi c u
  | [], off, j, c, _, hj => by simp at hj
  | d :: cs, off, 0, c, h, hj => by
    obtain rfl : d = c := by simpa using hj
    unfold rdE at h
    exact h.1
  | d :: cs, off, j + 1, c, h, hj => by
    unfold rdE at h
    have := rdE_at h.2 (show cs[j]? = some c by simpa using hj)
    rwa [show off + 1 + j = off + (j + 1) by omega] at this
theorem rdE_of {b : Nat} : ∀ {cs : List Cell} {off : Nat}, (∀ j c, cs[j]? = some c → ∃ u, w.cell? ⟨b, off + j, none⟩ = some u ∧ rdC w hi c u) → rdE w hi b off cs
  | [], off, _ => by unfold rdE; trivial
  | d :: cs, off, h => by
    unfold rdE
    exact ⟨h 0 d rfl, rdE_of fun j c hj => by
      have := h (j + 1) c (by simpa using hj)
      rwa [show off + (j + 1) = off + 1 + j by omega] at this⟩
mutual
theorem rdC.keep (hs : w.heap.size ≤ w'.heap.size) (hb : ∀ k, k < hi → k < w.heap.size → w'.heap[k]? = w.heap[k]?) : ∀ {c : Cell} {v : Value}, rdC w hi c v → rdC w' hi c v
  | .num x, v, h => by unfold rdC at h ⊢; exact h
  | .flag b, v, h => by unfold rdC at h ⊢; exact h
  | .row n cs, v, h => by
    unfold rdC at h ⊢
    obtain ⟨a, c, rfl, h1, h2, h3, h4, h5⟩ := h
    refine ⟨a, c, rfl, h1, h2, h3, h4, fun hp => ?_⟩
    obtain ⟨b, off, rfl, g1, g2, g3⟩ := h5 hp
    exact ⟨b, off, rfl, g1, by omega, rdE.keep hs hb (hb b g1 g2) g3⟩
theorem rdE.keep (hs : w.heap.size ≤ w'.heap.size) (hb : ∀ k, k < hi → k < w.heap.size → w'.heap[k]? = w.heap[k]?) : ∀ {cs : List Cell} {b off : Nat}, w'.heap[b]? = w.heap[b]? → rdE w hi b off cs → rdE w' hi b off cs
  | [], b, off, he, h => by unfold rdE; trivial
  | c :: cs, b, off, he, h => by
    unfold rdE at h ⊢
    obtain ⟨⟨u, h1, h2⟩, h3⟩ := h
    exact ⟨⟨u, (World.cell?_of_block (w := w) he).trans h1, rdC.keep hs hb h2⟩, rdE.keep hs hb he h3⟩
end
mutual
theorem rdC.more (hh : hi ≤ hi') : ∀ {c : Cell} {v : Value}, rdC w hi c v → rdC w hi' c v
  | .num x, v, h => by unfold rdC at h ⊢; exact h
  | .flag b, v, h => by unfold rdC at h ⊢; exact h
  | .row n cs, v, h => by
    unfold rdC at h ⊢
    obtain ⟨a, c, rfl, h1, h2, h3, h4, h5⟩ := h
    refine ⟨a, c, rfl, h1, h2, h3, h4, fun hp => ?_⟩
    obtain ⟨b, off, rfl, g1, g2, g3⟩ := h5 hp
    exact ⟨b, off, rfl, by omega, g2, rdE.more hh g3⟩
theorem rdE.more (hh : hi ≤ hi') : ∀ {cs : List Cell} {b off : Nat}, rdE w hi b off cs → rdE w hi' b off cs
  | [], b, off, h => by unfold rdE; trivial
  | c :: cs, b, off, h => by
    unfold rdE at h ⊢
    obtain ⟨⟨u, h1, h2⟩, h3⟩ := h
    exact ⟨⟨u, h1, rdC.more hh h2⟩, rdE.more hh h3⟩
end
theorem rdC.below {B : Nat} {c : Cell} {v : Value} (h : rdC w hi c v) (hb : Below B w w') (hB : hi ≤ B) : rdC w' hi c v := h.keep hb.size fun k hk _ => hb.block k (by omega)
theorem rdL.keep (hs : w.heap.size ≤ w'.heap.size) (hb : ∀ k, k < hi → k < w.heap.size → w'.heap[k]? = w.heap[k]?) : ∀ {cs : List Cell} {vs : List Value}, rdL w hi cs vs → rdL w' hi cs vs
  | [], vs, h => h
  | c :: cs, vs, h => by
    obtain ⟨v, vs', rfl, h1, h2⟩ := h
    exact ⟨v, vs', rfl, h1.keep hs hb, rdL.keep hs hb h2⟩
theorem rdL.below {B : Nat} {cs : List Cell} {vs : List Value} (h : rdL w hi cs vs) (hb : Below B w w') (hB : hi ≤ B) : rdL w' hi cs vs := h.keep hb.size fun k hk _ => hb.block k (by omega)
theorem rdL.more (hh : hi ≤ hi') : ∀ {cs : List Cell} {vs : List Value}, rdL w hi cs vs → rdL w hi' cs vs
  | [], vs, h => h
  | c :: cs, vs, h => by
    obtain ⟨v, vs', rfl, h1, h2⟩ := h
    exact ⟨v, vs', rfl, h1.more hh, rdL.more hh h2⟩
theorem rdC.one {c : Cell} {v : Value} (h : rdC w hi c v) : v.oneCell' = true := by
  cases c with
  | num x => unfold rdC at h; obtain ⟨rfl, _⟩ := h; rfl
  | flag b => unfold rdC at h; subst h; rfl
  | row n cs => unfold rdC at h; obtain ⟨a, c, rfl, _⟩ := h; rfl
theorem rdL.one : ∀ {cs : List Cell} {vs : List Value}, rdL w hi cs vs → ∀ u ∈ vs, u.oneCell' = true
  | [], vs, h, u, hu => by cases h; cases hu
  | c :: cs, vs, h, u, hu => by
    obtain ⟨v, vs', rfl, h1, h2⟩ := h
    rcases List.mem_cons.1 hu with rfl | hu
    · exact h1.one
    · exact rdL.one h2 u hu
theorem rdL.length : ∀ {cs : List Cell} {vs : List Value}, rdL w hi cs vs → vs.length = cs.length
  | [], vs, h => by cases h; rfl
  | c :: cs, vs, h => by
    obtain ⟨v, vs', rfl, h1, h2⟩ := h
    rw [List.length_cons, List.length_cons, rdL.length h2]
/-- A piece of a row's cells, as a struct's values. -/
theorem rdE.list {b : Nat} : ∀ {e rest : List Cell} {off : Nat}, rdE w hi b off (e ++ rest) → ∃ vs, rdL w hi e vs ∧ ∀ j u, vs[j]? = some u → w.cell? ⟨b, off + j, none⟩ = some u
  | [], rest, off, h => ⟨[], rfl, fun j u hj => by simp at hj⟩
  | c :: e, rest, off, h => by
    rw [List.cons_append] at h
    unfold rdE at h
    obtain ⟨⟨u, h1, h2⟩, h3⟩ := h
    obtain ⟨vs, g1, g2⟩ := rdE.list h3
    refine ⟨u :: vs, ⟨u, vs, rfl, h2, g1⟩, fun j x hj => ?_⟩
    cases j with
    | zero =>
      obtain rfl : u = x := by simpa using hj
      exact h1
    | succ j =>
      have := g2 j x (by simpa using hj)
      rwa [show off + 1 + j = off + (j + 1) by omega] at this
theorem rdE.drop {b : Nat} : ∀ {pre rest : List Cell} {off : Nat}, rdE w hi b off (pre ++ rest) → rdE w hi b (off + pre.length) rest
  | [], rest, off, h => h
  | c :: pre, rest, off, h => by
    rw [List.cons_append] at h
    unfold rdE at h
    have := rdE.drop h.2
    rwa [show off + 1 + pre.length = off + (c :: pre).length by rw [List.length_cons]; omega] at this
end

mutual
/-- v is the call's own and reads as the cell; fp: the blocks that it reaches, in their order. -/
def owC (w : World) : Cell → Value → List Nat → Prop
  | .num x, v, fp => v = .int .i64 x ∧ (Lit.int .i64 x).wf = true ∧ fp = []
  | .flag b, v, fp => v = .bool b ∧ fp = []
  | .row n cs, v, fp => (n = 0 ∧ cs = [] ∧ v = .slice none 0 0 ∧ fp = []) ∨
      ∃ g cap cur E f, v = .slice (some ⟨g, 0, none⟩) n cap ∧ n ≤ cap ∧ cap ≤ maxLen ∧ w.heap[g]? = some (.cells cur E (0, 0)) ∧ fp = g :: f ∧ (n = 0 → cs = []) ∧ owE w cs (cur.toList.take cs.length) f
def owE (w : World) : List Cell → List Value → List Nat → Prop
  | [], us, f => us = [] ∧ f = []
  | c :: cs, us, f => ∃ u us' f1 f2, us = u :: us' ∧ f = f1 ++ f2 ∧ owC w c u f1 ∧ owE w cs us' f2
end
section
variable {w w' : World} {hi hi' : Nat}
mutual
theorem owC.keep : ∀ {c : Cell} {v : Value} {fp : List Nat}, owC w c v fp → (∀ k ∈ fp, w'.heap[k]? = w.heap[k]?) → owC w' c v fp
  | .num x, v, fp, h, hb => by unfold owC at h ⊢; exact h
  | .flag b, v, fp, h, hb => by unfold owC at h ⊢; exact h
  | .row n cs, v, fp, h, hb => by
    unfold owC at h ⊢
    rcases h with h | ⟨g, cap, cur, E, f, rfl, h1, h2, h3, rfl, h4, h5⟩
    · exact .inl h
    · exact .inr ⟨g, cap, cur, E, f, rfl, h1, h2, (hb g List.mem_cons_self).trans h3, rfl, h4, owE.keep h5 fun k hk => hb k (List.mem_cons_of_mem _ hk)⟩
theorem owE.keep : ∀ {cs : List Cell} {us : List Value} {f : List Nat}, owE w cs us f → (∀ k ∈ f, w'.heap[k]? = w.heap[k]?) → owE w' cs us f
  | [], us, f, h, hb => by unfold owE at h ⊢; exact h
  | c :: cs, us, f, h, hb => by
    unfold owE at h ⊢
    obtain ⟨u, us', f1, f2, rfl, rfl, h1, h2⟩ := h
    exact ⟨u, us', f1, f2, rfl, rfl, owC.keep h1 fun k hk => hb k (List.mem_append_left _ hk), owE.keep h2 fun k hk => hb k (List.mem_append_right _ hk)⟩
end
mutual
theorem owC.lt : ∀ {c : Cell} {v : Value} {fp : List Nat}, owC w c v fp → ∀ k ∈ fp, k < w.heap.size
  | .num x, v, fp, h, k, hk => by unfold owC at h; rw [h.2.2] at hk; cases hk
  | .flag b, v, fp, h, k, hk => by unfold owC at h; rw [h.2] at hk; cases hk
  | .row n cs, v, fp, h, k, hk => by
    unfold owC at h
    rcases h with ⟨_, _, _, rfl⟩ | ⟨g, cap, cur, E, f, rfl, h1, h2, h3, rfl, h4, h5⟩
    · cases hk
    · rcases List.mem_cons.1 hk with rfl | hk
      · exact (Array.getElem?_eq_some_iff.1 h3).1
      · exact owE.lt h5 k hk
theorem owE.lt : ∀ {cs : List Cell} {us : List Value} {f : List Nat}, owE w cs us f → ∀ k ∈ f, k < w.heap.size
  | [], us, f, h, k, hk => by unfold owE at h; rw [h.2] at hk; cases hk
  | c :: cs, us, f, h, k, hk => by
    unfold owE at h
    obtain ⟨u, us', f1, f2, rfl, rfl, h1, h2⟩ := h
    rcases List.mem_append.1 hk with hk | hk
    · exact owC.lt h1 k hk
    · exact owE.lt h2 k hk
end
theorem owE.length : ∀ {cs : List Cell} {us : List Value} {f : List Nat}, owE w cs us f → us.length = cs.length
  | [], us, f, h => by unfold owE at h; rw [h.1]; rfl
  | c :: cs, us, f, h => by
    unfold owE at h
    obtain ⟨u, us', f1, f2, rfl, rfl, h1, h2⟩ := h
    rw [List.length_cons, List.length_cons, owE.length h2]
theorem cell_take {cur : Array Value} {E : TypeId} {g m j : Nat} {u : Value} (h : w.heap[g]? = some (.cells cur E (0, 0))) (hu : (cur.toList.take m)[j]? = some u) : w.cell? ⟨g, j, none⟩ = some u := by
  have hj : j < m := by
    have := (List.getElem?_eq_some_iff.1 hu).1
    rw [List.length_take] at this
    omega
  rw [List.getElem?_take_of_lt hj, Array.getElem?_toList] at hu
  simp [World.cell?, h, hu]
mutual
/-- What is owned can be read. -/
theorem owC.read : ∀ {c : Cell} {v : Value} {fp : List Nat}, owC w c v fp → (∀ k ∈ fp, k < hi) → rdC w hi c v
  | .num x, v, fp, h, hh => by unfold owC at h; unfold rdC; exact ⟨h.1, h.2.1⟩
  | .flag b, v, fp, h, hh => by unfold owC at h; unfold rdC; exact h.1
  | .row n cs, v, fp, h, hh => by
    have hl := owC.lt h
    unfold owC at h
    unfold rdC
    rcases h with ⟨rfl, rfl, rfl, rfl⟩ | ⟨g, cap, cur, E, f, rfl, h1, h2, h3, rfl, h4, h5⟩
    · exact ⟨none, 0, rfl, Nat.le_refl _, by decide, fun _ => rfl, fun _ => rfl, fun hp => absurd hp (Nat.lt_irrefl _)⟩
    · refine ⟨_, cap, rfl, h1, h2, (fun e => by cases e), h4, fun hp => ⟨g, 0, rfl, hh g List.mem_cons_self, hl g List.mem_cons_self, ?_⟩⟩
      exact owE.read h5 (fun k hk => hh k (List.mem_cons_of_mem _ hk)) fun j u hj => by
        rw [Nat.zero_add]
        exact cell_take h3 hj
theorem owE.read : ∀ {cs : List Cell} {us : List Value} {f : List Nat} {b off : Nat}, owE w cs us f → (∀ k ∈ f, k < hi) → (∀ j u, us[j]? = some u → w.cell? ⟨b, off + j, none⟩ = some u) → rdE w hi b off cs
  | [], us, f, b, off, h, hh, hc => by unfold rdE; trivial
  | c :: cs, us, f, b, off, h, hh, hc => by
    unfold owE at h
    obtain ⟨u, us', f1, f2, rfl, rfl, h1, h2⟩ := h
    unfold rdE
    exact ⟨⟨u, hc 0 u rfl, owC.read h1 fun k hk => hh k (List.mem_append_left _ hk)⟩, owE.read h2 (fun k hk => hh k (List.mem_append_right _ hk)) fun j x hj => by
      have := hc (j + 1) x (by simpa using hj)
      rwa [show off + (j + 1) = off + 1 + j by omega] at this⟩
end
theorem owE.list : ∀ {cs : List Cell} {us : List Value} {f : List Nat}, owE w cs us f → (∀ k ∈ f, k < hi) → rdL w hi cs us
  | [], us, f, h, hh => by unfold owE at h; exact h.1
  | c :: cs, us, f, h, hh => by
    unfold owE at h
    obtain ⟨u, us', f1, f2, rfl, rfl, h1, h2⟩ := h
    exact ⟨u, us', rfl, h1.read fun k hk => hh k (List.mem_append_left _ hk), owE.list h2 fun k hk => hh k (List.mem_append_right _ hk)⟩
theorem owE.append : ∀ {cs ds : List Cell} {us vs : List Value} {f g : List Nat}, owE w cs us f → owE w ds vs g → owE w (cs ++ ds) (us ++ vs) (f ++ g)
  | [], ds, us, vs, f, g, h, k => by
    unfold owE at h
    obtain ⟨rfl, rfl⟩ := h
    exact k
  | c :: cs, ds, us, vs, f, g, h, k => by
    unfold owE at h
    obtain ⟨u, us', f1, f2, rfl, rfl, h1, h2⟩ := h
    rw [List.cons_append, List.cons_append, List.append_assoc]
    unfold owE
    exact ⟨u, _, f1, _, rfl, rfl, h1, owE.append h2 k⟩
/-- A cell in the midst of a row: what it owns, and what may be put in its place. -/
theorem owE.split : ∀ {pre : List Cell} {c : Cell} {rest : List Cell} {us : List Value} {f : List Nat}, owE w (pre ++ c :: rest) us f → f.Nodup →
    ∃ u f1, us[pre.length]? = some u ∧ owC w c u f1 ∧ f1.Nodup ∧ (∀ k ∈ f1, k ∈ f) ∧
      ∀ (w' : World) (c' : Cell) (u' : Value), owC w' c' u' f1 → (∀ k ∈ f, k ∉ f1 → w'.heap[k]? = w.heap[k]?) → owE w' (pre ++ c' :: rest) (us.set pre.length u') f
  | [], c, rest, us, f, h, nd => by
    rw [List.nil_append] at h
    unfold owE at h
    obtain ⟨u, us', f1, f2, rfl, rfl, h1, h2⟩ := h
    obtain ⟨n1, n2, n3⟩ := List.nodup_append.1 nd
    refine ⟨u, f1, rfl, h1, n1, fun k hk => List.mem_append_left _ hk, fun w' c' u' h3 h4 => ?_⟩
    rw [List.nil_append]
    unfold owE
    exact ⟨u', us', f1, f2, rfl, rfl, h3, h2.keep fun k hk => h4 k (List.mem_append_right _ hk) fun hk1 => n3 k hk1 k hk rfl⟩
  | d :: pre, c, rest, us, f, h, nd => by
    rw [List.cons_append] at h
    unfold owE at h
    obtain ⟨x, us', f1, f2, rfl, rfl, h1, h2⟩ := h
    obtain ⟨n1, n2, n3⟩ := List.nodup_append.1 nd
    obtain ⟨u, f3, g1, g2, g3, g4, g5⟩ := owE.split h2 n2
    refine ⟨u, f3, by simpa using g1, g2, g3, fun k hk => List.mem_append_right _ (g4 k hk), fun w' c' u' h3 h4 => ?_⟩
    rw [List.cons_append]
    unfold owE
    exact ⟨x, us'.set pre.length u', f1, f2, rfl, rfl, h1.keep fun k hk => h4 k (List.mem_append_left _ hk) fun hk1 => n3 k hk k (g4 k hk1) rfl, g5 w' c' u' h3 fun k hk hn => h4 k (List.mem_append_right _ hk) hn⟩
end
/-- Turned in the blocks of a list and in new blocks alone. -/
structure Touch (fp : List Nat) (w w' : World) : Prop where
  os : w'.os = w.os
  tape : w'.tape = w.tape
  output : w'.output = w.output
  size : w.heap.size ≤ w'.heap.size
  block : ∀ k, k < w.heap.size → k ∉ fp → w'.heap[k]? = w.heap[k]?
end Go.Proofs.YtjfmmingkciapaaDoor
/- Data of any depth, as cells: marks, what may be put in a cell's place, rows that are built, elements of rows. No condition; any program. -/
namespace Go.Proofs.YtjfmmingkciapaaDoor
open Go.ChangeShapes Go.WideShapes Go.ChangeAt Go.RowKit
set_option linter.unusedVariables false

section
variable {fp fq : List Nat} {w w' a b c : World}
theorem Touch.refl (fp : List Nat) (w : World) : Touch fp w w := ⟨rfl, rfl, rfl, Nat.le_refl _, fun _ _ _ => rfl⟩
theorem Touch.trans (h : Touch fp a b) (k : Touch fp b c) : Touch fp a c :=
  ⟨k.os.trans h.os, k.tape.trans h.tape, k.output.trans h.output, Nat.le_trans h.size k.size, fun j hl hj => (k.block j (Nat.lt_of_lt_of_le hl h.size) hj).trans (h.block j hl hj)⟩
theorem Touch.sub (h : Touch fp w w') (hs : ∀ k ∈ fp, k ∈ fq) : Touch fq w w' := ⟨h.os, h.tape, h.output, h.size, fun k hl hk => h.block k hl fun hk2 => hk (hs k hk2)⟩
theorem Touch.set {g : Nat} (hg : g ∈ fp) (w : World) (i : Nat) (u : Value) : Touch fp w (w.setCell ⟨g, i, none⟩ u) :=
  ⟨rfl, rfl, rfl, by simp [World.setCell], fun k _ hk => Below.heap_setCell w ⟨g, i, none⟩ u k (by intro e; subst e; exact hk hg)⟩
theorem Touch.below {B : Nat} (h : Touch fp w w') (hf : ∀ k ∈ fp, B ≤ k) (hs : B ≤ w.heap.size) : Below B w w' :=
  ⟨h.os, h.tape, h.output, h.size, fun k hk => h.block k (Nat.lt_of_lt_of_le hk hs) fun h2 => by have := hf k h2; omega⟩
theorem Touch.of (h : Below w.heap.size w w') : Touch fp w w' := ⟨h.os, h.tape, h.output, h.size, fun k hl _ => h.block k hl⟩
end
mutual
/-- What the marks from k on leave. -/
def mkC : Cell → Int → Cell
  | .num _, k => .num k
  | .flag _, k => .flag (decide (k % 3 = 0))
  | .row n cs, k => .row n (mkE cs k)
def mkE : List Cell → Int → List Cell
  | [], _ => []
  | c :: cs, k => mkC c k :: mkE cs (k + ctC c)
/-- How many marks a cell takes. -/
def ctC : Cell → Int
  | .num _ => 1
  | .flag _ => 1
  | .row n cs => ctE cs
def ctE : List Cell → Int
  | [] => 0
  | c :: cs => ctC c + ctE cs
end
mutual
theorem ctC_nonneg : ∀ c : Cell, 0 ≤ ctC c
  | .num _ => by unfold ctC; decide
  | .flag _ => by unfold ctC; decide
  | .row n cs => by unfold ctC; exact ctE_nonneg cs
theorem ctE_nonneg : ∀ cs : List Cell, 0 ≤ ctE cs
  | [] => by unfold ctE; decide
  | c :: cs => by
    unfold ctE
    have := ctC_nonneg c
    have := ctE_nonneg cs
    omega
end
theorem ctE_nil : ctE [] = 0 := by unfold ctE; rfl
theorem ctE_cons (c : Cell) (cs : List Cell) : ctE (c :: cs) = ctC c + ctE cs := by rw [ctE]
theorem mkE_nil (k : Int) : mkE [] k = [] := by unfold mkE; rfl
theorem mkE_cons (c : Cell) (cs : List Cell) (k : Int) : mkE (c :: cs) k = mkC c k :: mkE cs (k + ctC c) := by rw [mkE]
theorem ctE_append : ∀ a b : List Cell, ctE (a ++ b) = ctE a + ctE b
  | [], b => by rw [List.nil_append, ctE_nil]; omega
  | c :: a, b => by
    rw [List.cons_append, ctE_cons, ctE_cons, ctE_append a b]
    omega
theorem mkE_append : ∀ (a b : List Cell) (k : Int), mkE (a ++ b) k = mkE a k ++ mkE b (k + ctE a)
  | [], b, k => by rw [List.nil_append, mkE_nil, ctE_nil, show k + 0 = k by omega]; rfl
  | c :: a, b, k => by
    rw [List.cons_append, mkE_cons, mkE_cons, ctE_cons, mkE_append a b, List.cons_append, show k + ctC c + ctE a = k + (ctC c + ctE a) by omega]
theorem mkE_length : ∀ (a : List Cell) (k : Int), (mkE a k).length = a.length
  | [], k => by unfold mkE; rfl
  | c :: a, k => by
    unfold mkE
    rw [List.length_cons, List.length_cons, mkE_length a]
/-- A struct by value: the rows inside are marked, nothing else. -/
def mkT : List Cell → Int → List Cell
  | [], _ => []
  | .row n cs :: r, k => .row n (mkE cs k) :: mkT r (k + ctE cs)
  | c :: r, k => c :: mkT r k
def ctT : List Cell → Int
  | [] => 0
  | .row n cs :: r => ctE cs + ctT r
  | c :: r => ctT r
theorem take_set {α : Type} (l : List α) (m i : Nat) (x : α) : (l.set i x).take m = (l.take m).set i x := by
  rw [List.take_set]
/-- A cell in the midst of a row of the call's own. -/
theorem owC.split {w : World} {n : Nat} {pre : List Cell} {c : Cell} {rest : List Cell} {v : Value} {fp : List Nat} (h : owC w (.row n (pre ++ c :: rest)) v fp) (nd : fp.Nodup) :
    ∃ g cap u f1, v = .slice (some ⟨g, 0, none⟩) n cap ∧ g ∈ fp ∧ g ∉ f1 ∧ w.cell? ⟨g, pre.length, none⟩ = some u ∧ w.frozen? ⟨g, pre.length, none⟩ = false ∧ owC w c u f1 ∧ f1.Nodup ∧ (∀ k ∈ f1, k ∈ fp) ∧
      (∀ (w' : World) (c' : Cell), owC w' c' u f1 → (∀ k ∈ fp, k ∉ f1 → w'.heap[k]? = w.heap[k]?) → owC w' (.row n (pre ++ c' :: rest)) v fp) ∧
      (∀ (c' : Cell) (x : Value), f1 = [] → (∀ W, owC W c' x []) → owC (w.setCell ⟨g, pre.length, none⟩ x) (.row n (pre ++ c' :: rest)) v fp) := by
  unfold owC at h
  rcases h with ⟨_, h, _⟩ | ⟨g, cap, cur, E, f, rfl, h1, h2, h3, rfl, h4, h5⟩
  · exact absurd h (by simp)
  · obtain ⟨n1, n2⟩ := List.nodup_cons.1 nd
    obtain ⟨u, f1, g1, g2, g3, g4, g5⟩ := owE.split h5 n2
    have hg : g ∉ f1 := fun hk => n1 (g4 g hk)
    have hl := owE.length h5
    rw [List.length_append, List.length_cons] at hl
    refine ⟨g, cap, u, f1, rfl, List.mem_cons_self, hg, cell_take h3 g1, by simp [World.frozen?, h3], g2, g3, fun k hk => List.mem_cons_of_mem _ (g4 k hk), fun w' c' h6 h7 => ?_, fun c' x hf h6 => ?_⟩
    · unfold owC
      refine .inr ⟨g, cap, cur, E, f, rfl, h1, h2, (h7 g List.mem_cons_self hg).trans h3, rfl, fun e => ?_, ?_⟩
      · have := h4 e
        simp at this
      · have h8 := g5 w' c' u h6 fun k hk hn => h7 k (List.mem_cons_of_mem _ hk) hn
        have h9 : (cur.toList.take (pre ++ c :: rest).length).set pre.length u = cur.toList.take (pre ++ c :: rest).length := by
          obtain ⟨hi, e⟩ := List.getElem?_eq_some_iff.1 g1
          rw [← e, List.set_getElem_self]
        rw [h9] at h8
        have h10 : (pre ++ c' :: rest).length = (pre ++ c :: rest).length := by simp
        rw [h10]
        exact h8
    · subst hf
      unfold owC
      have h10 : (pre ++ c' :: rest).length = (pre ++ c :: rest).length := by simp
      refine .inr ⟨g, cap, cur.setIfInBounds pre.length x, E, f, rfl, h1, h2, ?_, rfl, fun e => ?_, ?_⟩
      · simp [World.setCell, Array.getElem?_modify, h3]
      · have := h4 e
        simp at this
      · rw [h10, Array.toList_setIfInBounds, take_set]
        exact g5 _ c' x (h6 _) fun k hk _ => Below.heap_setCell w ⟨g, pre.length, none⟩ x k (by show k ≠ g; intro e; subst e; exact n1 hk)
theorem owC.num_any {x : Int} (hx : (Lit.int .i64 x).wf = true) (W : World) : owC W (.num x) (.int .i64 x) [] := by unfold owC; exact ⟨rfl, hx, rfl⟩
theorem owC.flag_any (b : Bool) (W : World) : owC W (.flag b) (.bool b) [] := by unfold owC; exact ⟨rfl, rfl⟩
/-- A number in the midst of a row: it may be written. -/
theorem owC.setNum {w : World} {n g cap : Nat} {pre : List Cell} {y : Int} {rest : List Cell} {fp : List Nat} (h : owC w (.row n (pre ++ .num y :: rest)) (.slice (some ⟨g, 0, none⟩) n cap) fp) (nd : fp.Nodup) :
    (w.cell? ⟨g, pre.length, none⟩ = some (.int .i64 y) ∧ w.frozen? ⟨g, pre.length, none⟩ = false) ∧ g ∈ fp ∧ ∀ x : Int, (Lit.int .i64 x).wf = true → owC (w.setCell ⟨g, pre.length, none⟩ (.int .i64 x)) (.row n (pre ++ .num x :: rest)) (.slice (some ⟨g, 0, none⟩) n cap) fp := by
  obtain ⟨g', cap', u, f1, e, h1, h2, h3, h4, h5, h6, h7, h8, h9⟩ := h.split nd
  injection e with e1 e2 e3
  injection e1 with e1
  injection e1 with e1
  subst e1
  unfold owC at h5
  obtain ⟨rfl, _, rfl⟩ := h5
  exact ⟨⟨h3, h4⟩, h1, fun x hx => h9 _ _ rfl fun W => owC.num_any hx W⟩
theorem owC.setFlag {w : World} {n g cap : Nat} {pre : List Cell} {y : Bool} {rest : List Cell} {fp : List Nat} (h : owC w (.row n (pre ++ .flag y :: rest)) (.slice (some ⟨g, 0, none⟩) n cap) fp) (nd : fp.Nodup) :
    (w.cell? ⟨g, pre.length, none⟩ = some (.bool y) ∧ w.frozen? ⟨g, pre.length, none⟩ = false) ∧ g ∈ fp ∧ ∀ x : Bool, owC (w.setCell ⟨g, pre.length, none⟩ (.bool x)) (.row n (pre ++ .flag x :: rest)) (.slice (some ⟨g, 0, none⟩) n cap) fp := by
  obtain ⟨g', cap', u, f1, e, h1, h2, h3, h4, h5, h6, h7, h8, h9⟩ := h.split nd
  injection e with e1 e2 e3
  injection e1 with e1
  injection e1 with e1
  subst e1
  unfold owC at h5
  obtain ⟨rfl, rfl⟩ := h5
  exact ⟨⟨h3, h4⟩, h1, fun x => h9 _ _ rfl fun W => owC.flag_any x W⟩
/-- A row in the midst of a row: what a call that turns nothing but its blocks leaves. -/
theorem owC.sub {w : World} {n g cap m : Nat} {pre cs : List Cell} {rest : List Cell} {fp : List Nat} (h : owC w (.row n (pre ++ .row m cs :: rest)) (.slice (some ⟨g, 0, none⟩) n cap) fp) (nd : fp.Nodup) :
    ∃ u f1, w.cell? ⟨g, pre.length, none⟩ = some u ∧ owC w (.row m cs) u f1 ∧ f1.Nodup ∧ (∀ k ∈ f1, k ∈ fp) ∧ ∀ (w' : World) (ds : List Cell), owC w' (.row m ds) u f1 → Touch f1 w w' → owC w' (.row n (pre ++ .row m ds :: rest)) (.slice (some ⟨g, 0, none⟩) n cap) fp := by
  obtain ⟨g', cap', u, f1, e, h1, h2, h3, h4, h5, h6, h7, h8, h9⟩ := h.split nd
  injection e with e1 e2 e3
  injection e1 with e1
  injection e1 with e1
  subst e1
  have hl := owC.lt h
  exact ⟨u, f1, h3, h5, h6, h7, fun w' ds h10 ht => h8 w' _ h10 fun k hk2 hk => ht.block k (hl k hk2) hk⟩
/-- A row that reads: its form, and one element's cells. -/
theorem rdC.form {w : World} {hi n : Nat} {cs : List Cell} {v : Value} (h : rdC w hi (.row n cs) v) : ∃ a c, v = .slice a n c ∧ n ≤ c ∧ c ≤ maxLen := by
  unfold rdC at h
  obtain ⟨a, c, rfl, h1, h2, _⟩ := h
  exact ⟨a, c, rfl, h1, h2⟩
theorem flatG_len {X α : Type} {f : X → List α} {s : Nat} (hf : ∀ x, (f x).length = s) : ∀ xs : List X, (xs.flatMap f).length = xs.length * s
  | [] => by simp
  | x :: xs => by
    rw [List.flatMap_cons, List.length_append, hf, flatG_len hf xs, List.length_cons, Nat.add_mul, Nat.one_mul]
    omega
theorem rdC.at {X : Type} {f : X → List Cell} {s : Nat} {w : World} {hi c k : Nat} {a : Option Addr} {xs : List X} {x : X} (hf : ∀ x, (f x).length = s) (h : rdC w hi (.row xs.length (xs.flatMap f)) (.slice a xs.length c)) (hx : xs[k]? = some x) :
    ∃ vs b off, rdL w hi (f x) vs ∧ a = some ⟨b, off, none⟩ ∧ b < hi ∧ b < w.heap.size ∧ ∀ (j : Nat) (u : Value), vs[j]? = some u → ∀ (B : Nat) (w' : World), b < B → Below B w w' → w'.cell? ⟨b, off + k * s + j, none⟩ = some u := by
  have hk : k < xs.length := (List.getElem?_eq_some_iff.1 hx).1
  unfold rdC at h
  obtain ⟨a', c', e, _, _, _, _, h5⟩ := h
  injection e with e1 e2 e3
  subst e1
  obtain ⟨b, off, rfl, g1, g2, g3⟩ := h5 (by omega)
  have hsp : xs.flatMap f = (xs.take k).flatMap f ++ (f x ++ (xs.drop (k + 1)).flatMap f) := by
    have h6 : xs = xs.take k ++ x :: xs.drop (k + 1) := by
      have h7 := (List.getElem?_eq_some_iff.1 hx).2
      rw [← h7, List.getElem_cons_drop, List.take_append_drop]
    have h8 : xs.flatMap f = (xs.take k ++ x :: xs.drop (k + 1)).flatMap f := congrArg (List.flatMap f) h6
    rw [h8, List.flatMap_append, List.flatMap_cons]
  rw [hsp] at g3
  obtain ⟨vs, q1, q2⟩ := rdE.list (rdE.drop g3)
  have hl : ((xs.take k).flatMap f).length = k * s := by rw [flatG_len hf, List.length_take, Nat.min_eq_left (by omega)]
  rw [hl] at q2
  exact ⟨vs, b, off, q1, rfl, g1, g2, fun j u hj B w' hB hb => (hb.cell (p := ⟨b, _, none⟩) hB).trans (q2 j u hj)⟩
mutual
/-- How many elements the rows of a datum have, together. -/
def szC : Cell → Int
  | .num _ => 0
  | .flag _ => 0
  | .row n cs => n + szE cs
def szE : List Cell → Int
  | [] => 0
  | c :: cs => szC c + szE cs
end
mutual
theorem szC_nonneg : ∀ c : Cell, 0 ≤ szC c
  | .num _ => by unfold szC; decide
  | .flag _ => by unfold szC; decide
  | .row n cs => by
    unfold szC
    have := szE_nonneg cs
    omega
theorem szE_nonneg : ∀ cs : List Cell, 0 ≤ szE cs
  | [] => by unfold szE; decide
  | c :: cs => by
    unfold szE
    have := szC_nonneg c
    have := szE_nonneg cs
    omega
end
theorem szE_nil : szE [] = 0 := by unfold szE; rfl
theorem szE_cons (c : Cell) (cs : List Cell) : szE (c :: cs) = szC c + szE cs := by rw [szE]
theorem szE_append : ∀ a b : List Cell, szE (a ++ b) = szE a + szE b
  | [], b => by rw [List.nil_append, szE_nil]; omega
  | c :: a, b => by
    rw [List.cons_append, szE_cons, szE_cons, szE_append a b]
    omega
/-- What the laws' sizes answer. -/
def leftOver (left n : Int) : Int := if n ≤ left then left - n else -1
/-- A row that is being built: its first cells stand, zeros behind them. -/
structure Made (E : TypeId) (s : Nat) (z : List Value) (w : World) (g n k : Nat) (cs : List Cell) (us : List Value) (f : List Nat) : Prop where
  row : OwnC E s w g (g + 1) (.slice (some ⟨g, 0, none⟩) n n) n (us ++ (List.replicate k z).flatten)
  own : owE w cs us f
  nd : f.Nodup
  gt : ∀ x ∈ f, g < x
section
variable {E : TypeId} {s g n k : Nat} {z us : List Value} {w w' : World} {cs : List Cell} {f : List Nat}
theorem Made.start (E : TypeId) {s n : Nat} {z : List Value} {w w' : World} (hs : 0 < s) (hz : z.length = s) (h : w'.ownsRow w.heap.size E s (.slice (some ⟨w.heap.size, 0, none⟩) n n) n ((madeCells z.toArray (n * s)).toList)) : Made E s z w' w.heap.size n n [] [] [] := by
  rw [made_zeros z s hs hz] at h
  exact ⟨OwnC.made E h, by unfold owE; exact ⟨rfl, rfl⟩, List.nodup_nil, fun x h => by cases h⟩
theorem Made.below {B : Nat} (h : Made E s z w g n k cs us f) (hb : Below B w w') (hg : g < B) (hf : ∀ x ∈ f, x < B) : Made E s z w' g n k cs us f :=
  ⟨h.row.below hb (by omega), h.own.keep fun x hx => hb.block x (hf x hx), h.nd, h.gt⟩
theorem Made.lt (h : Made E s z w g n k cs us f) : g < w.heap.size ∧ ∀ x ∈ f, x < w.heap.size := ⟨(h.row.lt g rfl).2.2, h.own.lt⟩
/-- The next element is stored. -/
theorem Made.put {ds : List Cell} {vs : List Value} {f2 : List Nat} (h : Made E s z w g n (k + 1) cs us f) (hz : z.length = s) (hl : vs.length = s) (ho : owE w ds vs f2) (hn : f2.Nodup) (hg : ∀ x ∈ f2, g < x) (hd : ∀ x ∈ f, ∀ y ∈ f2, x < y) :
    Made E s z (wsetMany w g us.length vs) g n k (cs ++ ds) (us ++ vs) (f ++ f2) := by
  have hk : ∀ x, g < x → (wsetMany w g us.length vs).heap[x]? = w.heap[x]? := fun x hx => by
    have : ∀ (vs : List Value) (w : World) (i : Nat), (wsetMany w g i vs).heap[x]? = w.heap[x]? := by
      intro vs
      induction vs with
      | nil => intro w i; rfl
      | cons v vs ih =>
        intro w i
        show (wsetMany (w.setCell ⟨g, i, none⟩ v) g (i + 1) vs).heap[x]? = _
        rw [ih]
        exact Below.heap_setCell w ⟨g, i, none⟩ v x (by show x ≠ g; omega)
    exact this vs w us.length
  refine ⟨?_, (h.own.keep fun x hx => hk x (h.gt x hx)).append (ho.keep fun x hx => hk x (hg x hx)), List.nodup_append.2 ⟨h.nd, hn, fun x hx y hy e => by have := hd x hx y hy; omega⟩, fun x hx => ?_⟩
  · have h1 := OwnC.setMany vs us.length h.row
    rw [List.replicate_succ, List.flatten_cons, setMany_mid vs us z _ (hl.trans hz.symm), ← List.append_assoc] at h1
    exact h1
  · rcases List.mem_append.1 hx with hx | hx
    · exact h.gt x hx
    · exact hg x hx
/-- The row is built. -/
theorem Made.done (h : Made E s z w g n 0 cs us f) (hn : n = 0 → cs = []) : owC w (.row n cs) (.slice (some ⟨g, 0, none⟩) n n) (g :: f) ∧ (g :: f).Nodup := by
  have h1 := h.row
  rw [List.replicate_zero, List.flatten_nil, List.append_nil] at h1
  have hl := owE.length h.own
  refine ⟨?_, List.nodup_cons.2 ⟨fun hg => Nat.lt_irrefl _ (h.gt g hg), h.nd⟩⟩
  unfold owC
  rcases h1.row.2 with ⟨e, _⟩ | ⟨g', cap, cur, e, _, h3, h4, h5, _, h7⟩
  · cases e
  · injection e with e1 e2 e3
    injection e1 with e1
    injection e1 with e1
    subst e1
    subst e3
    refine .inr ⟨g, n, cur, E, f, rfl, h4, h5, h3, rfl, hn, ?_⟩
    have h8 : us.length = n * s := h1.row.1
    rw [← hl, h8, h7]
    exact h.own
end
/-! Cells one by one. -/
theorem rdC_num {w : World} {hi : Nat} {x : Int} {v : Value} : rdC w hi (.num x) v ↔ v = .int .i64 x ∧ (Lit.int .i64 x).wf = true := by unfold rdC; exact Iff.rfl
theorem rdC_flag {w : World} {hi : Nat} {b : Bool} {v : Value} : rdC w hi (.flag b) v ↔ v = .bool b := by unfold rdC; exact Iff.rfl
theorem owE_nil {w : World} {us : List Value} {f : List Nat} : owE w [] us f ↔ us = [] ∧ f = [] := by unfold owE; exact Iff.rfl
theorem owE_cons {w : World} {c : Cell} {cs : List Cell} {us : List Value} {f : List Nat} : owE w (c :: cs) us f ↔ ∃ u us' f1 f2, us = u :: us' ∧ f = f1 ++ f2 ∧ owC w c u f1 ∧ owE w cs us' f2 := by
  constructor
  · intro h
    unfold owE at h
    exact h
  · intro h
    unfold owE
    exact h
theorem owC_num {w : World} {x : Int} {v : Value} {f : List Nat} : owC w (.num x) v f ↔ v = .int .i64 x ∧ (Lit.int .i64 x).wf = true ∧ f = [] := by unfold owC; exact Iff.rfl
theorem owC_flag {w : World} {b : Bool} {v : Value} {f : List Nat} : owC w (.flag b) v f ↔ v = .bool b ∧ f = [] := by unfold owC; exact Iff.rfl
theorem ctC_num (x : Int) : ctC (.num x) = 1 := by unfold ctC; rfl
theorem ctC_flag (b : Bool) : ctC (.flag b) = 1 := by unfold ctC; rfl
theorem ctC_row (n : Nat) (cs : List Cell) : ctC (.row n cs) = ctE cs := by rw [ctC]
theorem mkC_num (x k : Int) : mkC (.num x) k = .num k := by unfold mkC; rfl
theorem mkC_flag (b : Bool) (k : Int) : mkC (.flag b) k = .flag (decide (k % 3 = 0)) := by unfold mkC; rfl
theorem mkC_row (n : Nat) (cs : List Cell) (k : Int) : mkC (.row n cs) k = .row n (mkE cs k) := by rw [mkC]
theorem szC_num (x : Int) : szC (.num x) = 0 := by unfold szC; rfl
theorem szC_flag (b : Bool) : szC (.flag b) = 0 := by unfold szC; rfl
theorem szC_row (n : Nat) (cs : List Cell) : szC (.row n cs) = n + szE cs := by rw [szC]
/-- A row of elements. -/
abbrev rowF {X : Type} (f : X → List Cell) (xs : List X) : Cell := .row xs.length (xs.flatMap f)
/-- Of a row that reads as marked: one element's cells. -/
theorem rdC.atMarked {X : Type} {f : X → List Cell} {s : Nat} {w : World} {hi c k : Nat} {q : Int} {a : Option Addr} {xs : List X} {x : X} (hf : ∀ x, (f x).length = s) (h : rdC w hi (.row xs.length (mkE (xs.flatMap f) q)) (.slice a xs.length c)) (hx : xs[k]? = some x) :
    ∃ vs b off, rdL w hi (mkE (f x) (q + ctE ((xs.take k).flatMap f))) vs ∧ a = some ⟨b, off, none⟩ ∧ b < hi ∧ b < w.heap.size ∧ ∀ (j : Nat) (u : Value), vs[j]? = some u → ∀ (B : Nat) (w' : World), b < B → Below B w w' → w'.cell? ⟨b, off + k * s + j, none⟩ = some u := by
  have hk : k < xs.length := (List.getElem?_eq_some_iff.1 hx).1
  unfold rdC at h
  obtain ⟨a', c', e, _, _, _, _, h5⟩ := h
  injection e with e1 e2 e3
  subst e1
  obtain ⟨b, off, rfl, g1, g2, g3⟩ := h5 (by omega)
  have hsp : xs.flatMap f = (xs.take k).flatMap f ++ (f x ++ (xs.drop (k + 1)).flatMap f) := by
    have h6 : xs = xs.take k ++ x :: xs.drop (k + 1) := by
      have h7 := (List.getElem?_eq_some_iff.1 hx).2
      rw [← h7, List.getElem_cons_drop, List.take_append_drop]
    have h8 : xs.flatMap f = (xs.take k ++ x :: xs.drop (k + 1)).flatMap f := congrArg (List.flatMap f) h6
    rw [h8, List.flatMap_append, List.flatMap_cons]
  rw [hsp, mkE_append, mkE_append] at g3
  obtain ⟨vs, q1, q2⟩ := rdE.list (rdE.drop g3)
  have hl : (mkE ((xs.take k).flatMap f) q).length = k * s := by rw [mkE_length, flatG_len hf, List.length_take, Nat.min_eq_left (by omega)]
  rw [hl] at q2
  exact ⟨vs, b, off, q1, rfl, g1, g2, fun j u hj B w' hB hb => (hb.cell (p := ⟨b, _, none⟩) hB).trans (q2 j u hj)⟩
theorem take_flat_succ {X : Type} (f : X → List Cell) {xs : List X} {k : Nat} {x : X} (hx : xs[k]? = some x) : (xs.take (k + 1)).flatMap f = (xs.take k).flatMap f ++ f x := by
  rw [List.take_add_one, hx, List.flatMap_append]
  simp
theorem drop_flat {X : Type} (f : X → List Cell) {xs : List X} {k : Nat} {x : X} (hx : xs[k]? = some x) : (xs.drop k).flatMap f = f x ++ (xs.drop (k + 1)).flatMap f := by
  have hk : k < xs.length := (List.getElem?_eq_some_iff.1 hx).1
  have h7 := (List.getElem?_eq_some_iff.1 hx).2
  rw [List.drop_eq_getElem_cons hk, List.flatMap_cons, h7]
/-- What a row's size comes to, from an element on. -/
theorem szE_take {X : Type} (f : X → List Cell) {xs : List X} {k : Nat} {x : X} (hx : xs[k]? = some x) : szE ((xs.take (k + 1)).flatMap f) = szE ((xs.take k).flatMap f) + szE (f x) := by rw [take_flat_succ f hx, szE_append]
theorem szE_split {X : Type} (f : X → List Cell) (xs : List X) (k : Nat) : szE (xs.flatMap f) = szE ((xs.take k).flatMap f) + szE ((xs.drop k).flatMap f) := by
  have h : xs.flatMap f = (xs.take k ++ xs.drop k).flatMap f := by rw [List.take_append_drop]
  rw [h, List.flatMap_append, szE_append]
theorem ctE_take {X : Type} (f : X → List Cell) {xs : List X} {k : Nat} {x : X} (hx : xs[k]? = some x) : ctE ((xs.take (k + 1)).flatMap f) = ctE ((xs.take k).flatMap f) + ctE (f x) := by rw [take_flat_succ f hx, ctE_append]
theorem ctE_split {X : Type} (f : X → List Cell) (xs : List X) (k : Nat) : ctE (xs.flatMap f) = ctE ((xs.take k).flatMap f) + ctE ((xs.drop k).flatMap f) := by
  have h : xs.flatMap f = (xs.take k ++ xs.drop k).flatMap f := by rw [List.take_append_drop]
  rw [h, List.flatMap_append, ctE_append]
theorem leftOver_yes {left n : Int} (h : n ≤ left) : leftOver left n = left - n := if_pos h
theorem leftOver_no {left n : Int} (h : ¬ n ≤ left) : leftOver left n = -1 := if_neg h
theorem szE_elem {X : Type} (f : X → List Cell) {xs : List X} {k : Nat} {x : X} (hx : xs[k]? = some x) : szE (f x) ≤ szE (xs.flatMap f) := by
  rw [szE_split f xs k, drop_flat f hx, szE_append]
  have h1 := szE_nonneg ((xs.take k).flatMap f)
  have h2 := szE_nonneg ((xs.drop (k + 1)).flatMap f)
  omega
theorem ctE_elem {X : Type} (f : X → List Cell) {xs : List X} {k : Nat} {x : X} (hx : xs[k]? = some x) : ctE ((xs.take k).flatMap f) + ctE (f x) ≤ ctE (xs.flatMap f) := by
  rw [ctE_split f xs k, drop_flat f hx, ctE_append]
  have h2 := ctE_nonneg ((xs.drop (k + 1)).flatMap f)
  omega
/-- Flat elements have no rows inside. -/
theorem szE_flat {X : Type} {f : X → List Cell} (h : ∀ x, szE (f x) = 0) : ∀ xs : List X, szE (xs.flatMap f) = 0
  | [] => by rw [List.flatMap_nil, szE_nil]
  | x :: xs => by rw [List.flatMap_cons, szE_append, h, szE_flat h xs]; rfl
theorem owC.form {w : World} {n : Nat} {cs : List Cell} {v : Value} {fp : List Nat} (h : owC w (.row n cs) v fp) : ∃ a c, v = .slice a n c ∧ n ≤ c ∧ c ≤ maxLen := by
  unfold owC at h
  rcases h with ⟨rfl, _, rfl, _⟩ | ⟨g, cap, cur, E, f, rfl, h1, h2, _⟩
  · exact ⟨none, 0, rfl, Nat.le_refl _, by decide⟩
  · exact ⟨_, cap, rfl, h1, h2⟩
theorem owC.block {w : World} {n : Nat} {pre : List Cell} {c : Cell} {rest : List Cell} {v : Value} {fp : List Nat} (h : owC w (.row n (pre ++ c :: rest)) v fp) : ∃ g cap, v = .slice (some ⟨g, 0, none⟩) n cap ∧ n ≤ cap ∧ cap ≤ maxLen := by
  unfold owC at h
  rcases h with ⟨_, h, _⟩ | ⟨g, cap, cur, E, f, rfl, h1, h2, _⟩
  · exact absurd h (by simp)
  · exact ⟨g, cap, rfl, h1, h2⟩
/-- All blocks from lo on that were there are as they were. -/
structure Keeps (lo : Nat) (w w' : World) : Prop where
  size : w.heap.size ≤ w'.heap.size
  block : ∀ k, lo ≤ k → k < w.heap.size → w'.heap[k]? = w.heap[k]?
theorem Keeps.of {lo : Nat} {w w' : World} (h : Below w.heap.size w w') : Keeps lo w w' := ⟨h.size, fun k _ hk => h.block k hk⟩
theorem Keeps.set {lo g : Nat} (hg : g < lo) (w : World) (i : Nat) (u : Value) : Keeps lo w (w.setCell ⟨g, i, none⟩ u) :=
  ⟨by simp [World.setCell], fun k hk _ => Below.heap_setCell w ⟨g, i, none⟩ u k (by show k ≠ g; omega)⟩
theorem Keeps.many {lo g : Nat} (hg : g < lo) : ∀ (us : List Value) (w : World) (i : Nat), Keeps lo w (wsetMany w g i us)
  | [], w, i => ⟨Nat.le_refl _, fun _ _ _ => rfl⟩
  | u :: us, w, i => by
    have h1 := Keeps.set hg w i u
    have h2 := Keeps.many hg us (w.setCell ⟨g, i, none⟩ u) (i + 1)
    exact ⟨Nat.le_trans h1.size h2.size, fun k a b => (h2.block k a (Nat.lt_of_lt_of_le b h1.size)).trans (h1.block k a b)⟩
theorem owC.keeps {lo : Nat} {w w' : World} {c : Cell} {v : Value} {fp : List Nat} (h : owC w c v fp) (hk : Keeps lo w w') (hf : ∀ k ∈ fp, lo ≤ k) : owC w' c v fp := by
  have hl := owC.lt h
  exact h.keep fun k hk2 => hk.block k (hf k hk2) (hl k hk2)
theorem owE.keeps {lo : Nat} {w w' : World} {cs : List Cell} {us : List Value} {fp : List Nat} (h : owE w cs us fp) (hk : Keeps lo w w') (hf : ∀ k ∈ fp, lo ≤ k) : owE w' cs us fp := by
  have hl := owE.lt h
  exact h.keep fun k hk2 => hk.block k (hf k hk2) (hl k hk2)
theorem blkZ_many {f : Nat} {T : TypeId} : ∀ (us : List Value) {w : World} {cs : Array Value} (i : Nat), w.heap[f]? = some (.cells cs T) → (wsetMany w f i us).heap[f]? = some (.cells (setMany cs.toList i us).toArray T)
  | [], w, cs, i, h => by
    show w.heap[f]? = _
    rw [h]
    simp [setMany]
  | u :: us, w, cs, i, h => by
    have hs : (w.setCell ⟨f, i, none⟩ u).heap[f]? = some (.cells (cs.setIfInBounds i u) T) := by simp [World.setCell, Array.getElem?_modify, h]
    have h1 := blkZ_many us (i + 1) hs
    rw [Array.toList_setIfInBounds] at h1
    exact h1
theorem blkZ_far {f g : Nat} {o : Obj} (hg : g ≠ f) : ∀ (us : List Value) {w : World} (i : Nat), w.heap[g]? = some o → (wsetMany w f i us).heap[g]? = some o
  | [], w, i, h => h
  | u :: us, w, i, h => blkZ_far hg us (i + 1) ((Below.heap_setCell _ _ _ _ hg).trans h)
theorem nd_app {f g : List Nat} {m : Nat} (hf : f.Nodup) (hg : g.Nodup) (h1 : ∀ k ∈ f, k < m) (h2 : ∀ k ∈ g, m ≤ k) : (f ++ g).Nodup :=
  List.nodup_append.2 ⟨hf, hg, fun x hx y hy e => by have := h1 x hx; have := h2 y hy; omega⟩
theorem Made.cell {E : TypeId} {s g n k j : Nat} {z us : List Value} {w : World} {cs : List Cell} {f : List Nat} (h : Made E s z w g n (k + 1) cs us f) (hz : z.length = s) (hj : j < s) : w.cell? ⟨g, us.length + j, none⟩ = z[j]? ∧ w.frozen? ⟨g, us.length + j, none⟩ = false := by
  have hr := h.row.row
  have hl : (us ++ (List.replicate (k + 1) z).flatten).length = n * s := hr.1
  have hlt : us.length + j < n * s := by
    rw [← hl, List.length_append, List.replicate_succ, List.flatten_cons, List.length_append]
    omega
  refine ⟨(hr.cellAt (us.length + j) hlt).trans ?_, hr.frozenAt _⟩
  rw [List.getElem?_append_right (by omega), Nat.add_sub_cancel_left, List.replicate_succ, List.flatten_cons, List.getElem?_append_left (by omega)]
/-- A piece of a struct's cells: what may be put in its place. -/
theorem owE.mid {w : World} : ∀ {pre mid rest : List Cell} {up um ur : List Value} {f : List Nat}, up.length = pre.length → um.length = mid.length → owE w (pre ++ (mid ++ rest)) (up ++ (um ++ ur)) f → f.Nodup →
    ∃ fm, owE w mid um fm ∧ fm.Nodup ∧ (∀ k ∈ fm, k ∈ f) ∧ ∀ (w' : World) (mid' : List Cell), owE w' mid' um fm → (∀ k ∈ f, k ∉ fm → w'.heap[k]? = w.heap[k]?) → owE w' (pre ++ (mid' ++ rest)) (up ++ (um ++ ur)) f
  | [], mid, rest, up, um, ur, f, hp, hm, h, nd => by
    obtain rfl : up = [] := List.length_eq_zero_iff.mp hp
    rw [List.nil_append, List.nil_append] at h
    have key : ∀ {mid : List Cell} {um : List Value} {f : List Nat}, um.length = mid.length → owE w (mid ++ rest) (um ++ ur) f → ∃ fm fr, f = fm ++ fr ∧ owE w mid um fm ∧ owE w rest ur fr := by
      intro mid
      induction mid with
      | nil =>
        intro um f hm h
        obtain rfl : um = [] := List.length_eq_zero_iff.mp hm
        exact ⟨[], f, rfl, owE_nil.2 ⟨rfl, rfl⟩, h⟩
      | cons c mid ih =>
        intro um f hm h
        cases um with
        | nil => cases hm
        | cons u um =>
          rw [List.cons_append, List.cons_append] at h
          obtain ⟨u', us', f1, f2, e, rfl, h1, h2⟩ := owE_cons.1 h
          injection e with e1 e2
          subst e1
          subst e2
          obtain ⟨fm, fr, rfl, h3, h4⟩ := ih (by simpa using hm) h2
          exact ⟨f1 ++ fm, fr, by simp, owE_cons.2 ⟨u, um, f1, fm, rfl, rfl, h1, h3⟩, h4⟩
    obtain ⟨fm, fr, rfl, h1, h2⟩ := key hm h
    obtain ⟨n1, n2, n3⟩ := List.nodup_append.1 nd
    refine ⟨fm, h1, n1, fun k hk => List.mem_append_left _ hk, fun w' mid' h3 h4 => ?_⟩
    rw [List.nil_append, List.nil_append]
    exact h3.append (h2.keep fun k hk => h4 k (List.mem_append_right _ hk) fun hk1 => n3 k hk1 k hk rfl)
  | c :: pre, mid, rest, up, um, ur, f, hp, hm, h, nd => by
    cases up with
    | nil => cases hp
    | cons u up =>
      rw [List.cons_append, List.cons_append] at h
      obtain ⟨u', us', f1, f2, e, rfl, h1, h2⟩ := owE_cons.1 h
      injection e with e1 e2
      subst e1
      subst e2
      obtain ⟨n1, n2, n3⟩ := List.nodup_append.1 nd
      obtain ⟨fm, g1, g2, g3, g4⟩ := owE.mid (by simpa using hp) hm h2 n2
      refine ⟨fm, g1, g2, fun k hk => List.mem_append_right _ (g3 k hk), fun w' mid' h3 h4 => ?_⟩
      rw [List.cons_append, List.cons_append]
      exact owE_cons.2 ⟨u, _, f1, f2, rfl, rfl, h1.keep fun k hk => h4 k (List.mem_append_left _ hk) fun hk1 => n3 k hk k (g3 k hk1) rfl, g4 w' mid' h3 fun k hk hn => h4 k (List.mem_append_right _ hk) hn⟩
theorem Touch.allocd {fp : List Nat} {w : World} (o : Obj) : Touch fp w (w.alloc o) := Touch.of ((Below.refl _ _).alloc (Nat.le_refl _) o)
theorem owE.touch {w w' : World} {cs : List Cell} {us : List Value} {f g : List Nat} (h : owE w cs us f) (t : Touch g w w') (hd : ∀ k ∈ f, k ∉ g) : owE w' cs us f := by
  have hl := owE.lt h
  exact h.keep fun k hk => t.block k (hl k hk) (hd k hk)
theorem owC.touch {w w' : World} {c : Cell} {v : Value} {f g : List Nat} (h : owC w c v f) (t : Touch g w w') (hd : ∀ k ∈ f, k ∉ g) : owC w' c v f := by
  have hl := owC.lt h
  exact h.keep fun k hk => t.block k (hl k hk) (hd k hk)
theorem ctT_le : ∀ cs : List Cell, 0 ≤ ctT cs ∧ ctT cs ≤ ctE cs
  | [] => ⟨by unfold ctT; decide, by unfold ctT; rw [ctE_nil]; decide⟩
  | .num x :: cs => by
    have h := ctT_le cs
    rw [ctE_cons, ctC_num]
    show 0 ≤ ctT cs ∧ ctT cs ≤ _
    omega
  | .flag x :: cs => by
    have h := ctT_le cs
    rw [ctE_cons, ctC_flag]
    show 0 ≤ ctT cs ∧ ctT cs ≤ _
    omega
  | .row m ds :: cs => by
    have h := ctT_le cs
    have h2 := ctE_nonneg ds
    rw [ctE_cons, ctC_row]
    show 0 ≤ ctE ds + ctT cs ∧ ctE ds + ctT cs ≤ _
    omega
end Go.Proofs.YtjfmmingkciapaaDoor
/- Blocks: one just made, one that is kept, its cells. No condition; any program. -/
namespace Go.Proofs.YtjfmmingkciapaaDoor
open Go.ChangeShapes Go.WideShapes Go.ChangeAt Go.RowKit
theorem blk_new (w : World) (T : TypeId) (cs : Array Value) : (w.alloc (.cells cs T)).heap[w.heap.size]? = some (.cells cs T) := by show (w.heap.push _)[w.heap.size]? = _; simp
theorem blk_keep {C f : Nat} {w w' : World} {o : Obj} (h : w.heap[f]? = some o) (hb : Below C w w') (hf : f < C) : w'.heap[f]? = some o := (hb.block f hf).trans h
theorem blk_cell {f : Nat} {w : World} {cs : Array Value} {T : TypeId} (h : w.heap[f]? = some (.cells cs T)) (i : Nat) {v : Value} (hv : cs[i]? = some v) : w.cell? ⟨f, i, none⟩ = some v := by
  simp [World.cell?, h, hv]
theorem blk_frozen {f : Nat} {w : World} {cs : Array Value} {T : TypeId} (h : w.heap[f]? = some (.cells cs T)) (i : Nat) : w.frozen? ⟨f, i, none⟩ = false := by
  simp [World.frozen?, h]
theorem blk_new_at {w : World} {n : Nat} (T : TypeId) (cs : Array Value) (h : w.heap.size = n) : (w.alloc (.cells cs T)).heap[n]? = some (.cells cs T) := by
  subst h
  exact blk_new w T cs
/-- A block made in a statement whose order is open, the world named anew. -/
theorem blk_new_of {w V : World} {T : TypeId} {cs : Array Value} (h : w.alloc (.cells cs T) = V) : V.heap[w.heap.size]? = some (.cells cs T) ∧ w.heap.size < V.heap.size := by
  subst h
  exact ⟨blk_new w T cs, by simp⟩
theorem next_of {W0 w V : World} {o : Obj} (h : w.alloc o = V) (hb : Below W0.heap.size W0 w) : Below W0.heap.size W0 V ∧ W0.heap.size ≤ w.heap.size := by
  subst h
  exact ⟨hb.alloc hb.size o, hb.size⟩
theorem keepG {V U : World} {g : Nat} {o : Obj} (hG : V.heap[g]? = some o ∧ g < V.heap.size) (e : Below V.heap.size V U) : U.heap[g]? = some o := blk_keep hG.1 e hG.2
theorem blk_set {f i : Nat} {w : World} {cs : Array Value} {T : TypeId} (h : w.heap[f]? = some (.cells cs T)) (u : Value) : (w.setCell ⟨f, i, none⟩ u).heap[f]? = some (.cells (cs.setIfInBounds i u) T) := by
  simp [World.setCell, Array.getElem?_modify, h]
theorem cells7 {w : World} {f : Nat} {T : TypeId} {z0 z1 z2 z3 z4 z5 z6 : Value} (h : w.heap[f]? = some (.cells #[z0, z1, z2, z3, z4, z5, z6] T)) :
    (w.cell? ⟨f, 0, none⟩ = some z0 ∧ w.cell? ⟨f, 1, none⟩ = some z1 ∧ w.cell? ⟨f, 2, none⟩ = some z2 ∧ w.cell? ⟨f, 3, none⟩ = some z3 ∧ w.cell? ⟨f, 4, none⟩ = some z4 ∧ w.cell? ⟨f, 5, none⟩ = some z5 ∧ w.cell? ⟨f, 6, none⟩ = some z6) ∧
    (w.frozen? ⟨f, 0, none⟩ = false ∧ w.frozen? ⟨f, 1, none⟩ = false ∧ w.frozen? ⟨f, 2, none⟩ = false ∧ w.frozen? ⟨f, 3, none⟩ = false ∧ w.frozen? ⟨f, 4, none⟩ = false ∧ w.frozen? ⟨f, 5, none⟩ = false ∧ w.frozen? ⟨f, 6, none⟩ = false) :=
  ⟨⟨blk_cell h 0 rfl, blk_cell h 1 rfl, blk_cell h 2 rfl, blk_cell h 3 rfl, blk_cell h 4 rfl, blk_cell h 5 rfl, blk_cell h 6 rfl⟩, ⟨blk_frozen h 0, blk_frozen h 1, blk_frozen h 2, blk_frozen h 3, blk_frozen h 4, blk_frozen h 5, blk_frozen h 6⟩⟩
/-- A struct of seven cells stored into a block of the call's own. -/
theorem store7 {W0 w : World} {f : Nat} {T : TypeId} {z0 z1 z2 z3 z4 z5 z6 : Value} (h : w.heap[f]? = some (.cells #[z0, z1, z2, z3, z4, z5, z6] T)) (hb : Below W0.heap.size W0 w) (hf : W0.heap.size ≤ f) (r0 r1 r2 r3 r4 r5 r6 : Value) :
    (((((((w.setCell ⟨f, 0, none⟩ r0).setCell ⟨f, 1, none⟩ r1).setCell ⟨f, 2, none⟩ r2).setCell ⟨f, 3, none⟩ r3).setCell ⟨f, 4, none⟩ r4).setCell ⟨f, 5, none⟩ r5).setCell ⟨f, 6, none⟩ r6).heap[f]? = some (.cells #[r0, r1, r2, r3, r4, r5, r6] T) ∧
    Below W0.heap.size W0 (((((((w.setCell ⟨f, 0, none⟩ r0).setCell ⟨f, 1, none⟩ r1).setCell ⟨f, 2, none⟩ r2).setCell ⟨f, 3, none⟩ r3).setCell ⟨f, 4, none⟩ r4).setCell ⟨f, 5, none⟩ r5).setCell ⟨f, 6, none⟩ r6) := by
  have h0 : (w.setCell ⟨f, 0, none⟩ r0).heap[f]? = some (.cells #[r0, z1, z2, z3, z4, z5, z6] T) := blk_set h r0
  have h1 : ((w.setCell ⟨f, 0, none⟩ r0).setCell ⟨f, 1, none⟩ r1).heap[f]? = some (.cells #[r0, r1, z2, z3, z4, z5, z6] T) := blk_set h0 r1
  have h2 : (((w.setCell ⟨f, 0, none⟩ r0).setCell ⟨f, 1, none⟩ r1).setCell ⟨f, 2, none⟩ r2).heap[f]? = some (.cells #[r0, r1, r2, z3, z4, z5, z6] T) := blk_set h1 r2
  have h3 : ((((w.setCell ⟨f, 0, none⟩ r0).setCell ⟨f, 1, none⟩ r1).setCell ⟨f, 2, none⟩ r2).setCell ⟨f, 3, none⟩ r3).heap[f]? = some (.cells #[r0, r1, r2, r3, z4, z5, z6] T) := blk_set h2 r3
  have h4 : (((((w.setCell ⟨f, 0, none⟩ r0).setCell ⟨f, 1, none⟩ r1).setCell ⟨f, 2, none⟩ r2).setCell ⟨f, 3, none⟩ r3).setCell ⟨f, 4, none⟩ r4).heap[f]? = some (.cells #[r0, r1, r2, r3, r4, z5, z6] T) := blk_set h3 r4
  have h5 : ((((((w.setCell ⟨f, 0, none⟩ r0).setCell ⟨f, 1, none⟩ r1).setCell ⟨f, 2, none⟩ r2).setCell ⟨f, 3, none⟩ r3).setCell ⟨f, 4, none⟩ r4).setCell ⟨f, 5, none⟩ r5).heap[f]? = some (.cells #[r0, r1, r2, r3, r4, r5, z6] T) := blk_set h4 r5
  have h6 : (((((((w.setCell ⟨f, 0, none⟩ r0).setCell ⟨f, 1, none⟩ r1).setCell ⟨f, 2, none⟩ r2).setCell ⟨f, 3, none⟩ r3).setCell ⟨f, 4, none⟩ r4).setCell ⟨f, 5, none⟩ r5).setCell ⟨f, 6, none⟩ r6).heap[f]? = some (.cells #[r0, r1, r2, r3, r4, r5, r6] T) := blk_set h5 r6
  exact ⟨h6, ((((((hb.setCell (p := ⟨f, 0, none⟩) hf r0).setCell (p := ⟨f, 1, none⟩) hf r1).setCell (p := ⟨f, 2, none⟩) hf r2).setCell (p := ⟨f, 3, none⟩) hf r3).setCell (p := ⟨f, 4, none⟩) hf r4).setCell (p := ⟨f, 5, none⟩) hf r5).setCell (p := ⟨f, 6, none⟩) hf r6⟩
theorem size_alloc (w : World) (o : Obj) : (w.alloc o).heap.size = w.heap.size + 1 := by simp
theorem blk_lt {w : World} {f : Nat} {o : Obj} (h : w.heap[f]? = some o) : f < w.heap.size := by
  rcases Nat.lt_or_ge f w.heap.size with hl | hg
  · exact hl
  · rw [Array.getElem?_eq_none hg] at h
    cases h
end Go.Proofs.YtjfmmingkciapaaDoor
/- Contracts of the walks of chapter 1 (integers): what each function of the program and of its model returns, and what becomes of the world. No condition of our own. -/
namespace Go.Proofs.YtjfmmingkciapaaDoor
open Go.ChangeShapes Go.WideShapes Go.ChangeAt Go.RowKit
set_option linter.unusedVariables false

theorem ret_int {k : IntKind} {a b : Int} (h : a = b) : Ending.returned (.int k a) = .returned (.int k b) := by rw [h]
def mn (a b : Int) : Int := if b < a then b else a
def mx (a b : Int) : Int := if a < b then b else a
def ceilOf (a b : Int) : Int := if 0 ≤ a ∧ a ≤ 1000000000000 ∧ 1 ≤ b ∧ b ≤ 1000000000000 then (a + b - 1) / b else 0
def modOf (a b : Int) : Int := if 1 ≤ b ∧ b ≤ 1000000000000 then a % b else 0
theorem as_small_small (v : Value) (w : World) : (Instr.typeAssert (.iface 90 v) 98 90 true).run Tryd.prog w = .ok (.tuple #[v, .bool true]) w := by kernel_rfl
theorem as_large_small (v : Value) (w : World) : (Instr.typeAssert (.iface 89 v) 98 90 true).run Tryd.prog w = .ok (.tuple #[.agg #[], .bool false]) w := by kernel_rfl
theorem as_large_large (v : Value) (w : World) : (Instr.typeAssert (.iface 89 v) 98 89 true).run Tryd.prog w = .ok (.tuple #[v, .bool true]) w := by kernel_rfl
theorem closer_small (a b : Int) (w : World) :
    Calls Tryd.prog 76 #[.iface 90 (.agg #[]), .int .i64 a, .int .i64 b] w fun e w' => e = .returned (.bool (decide (a < b))) ∧ w = w' := by
  have h1 := as_small_small
  go_enter Tryd.func76, Tryd.ntmps76
  go_wp2
  go_ret
  exact ⟨rfl, rfl⟩
theorem closer_large (a b : Int) (w : World) :
    Calls Tryd.prog 76 #[.iface 89 (.agg #[]), .int .i64 a, .int .i64 b] w fun e w' => e = .returned (.bool (decide (b < a))) ∧ w = w' := by
  have h1 := as_large_small
  have h2 := as_large_large
  go_enter Tryd.func76, Tryd.ntmps76
  go_wp2
  go_ret
  exact ⟨rfl, rfl⟩
theorem extreme_small (a b : Int) (p : Addr) (w : World) (hc : w.cell? p = some (.int .i64 b)) :
    Calls Tryd.prog 67 #[.iface 90 (.agg #[]), .int .i64 a, .slice (some p) 1 1] w fun e w' => e = .returned (.int .i64 (mn a b)) ∧ w = w' := by
  by_cases h : b < a
  all_goals
    go_enter Tryd.func67, Tryd.ntmps67
    go_wp2
    refine wp_loop_rounds 2 ?_
    rw [rounds_succ]
    go_wp2_with (go_at_call 76; refine (closer_small _ _ _).mono ?_; rintro e w' ⟨rfl, rfl⟩)
    rw [rounds_succ]
    go_wp2
    go_ret
    exact ⟨ret_int (by first | (unfold mn; split <;> omega) | (unfold mx; split <;> omega)), rfl⟩
theorem extreme_large (a b : Int) (p : Addr) (w : World) (hc : w.cell? p = some (.int .i64 b)) :
    Calls Tryd.prog 67 #[.iface 89 (.agg #[]), .int .i64 a, .slice (some p) 1 1] w fun e w' => e = .returned (.int .i64 (mx a b)) ∧ w = w' := by
  by_cases h : a < b
  all_goals
    go_enter Tryd.func67, Tryd.ntmps67
    go_wp2
    refine wp_loop_rounds 2 ?_
    rw [rounds_succ]
    go_wp2_with (go_at_call 76; refine (closer_large _ _ _).mono ?_; rintro e w' ⟨rfl, rfl⟩)
    rw [rounds_succ]
    go_wp2
    go_ret
    exact ⟨ret_int (by first | (unfold mn; split <;> omega) | (unfold mx; split <;> omega)), rfl⟩
theorem impl_min (a b : Int) (w : World) :
    Calls Tryd.prog 56 #[.int .i64 a, .int .i64 b] w fun e w' => e = .returned (.int .i64 (mn a b)) ∧ Grown w w' := by
  go_enter Tryd.func56, Tryd.ntmps56
  go_wp2_with (go_at_call 67; refine (extreme_small _ b _ _ (by go_simp)).mono ?_; rintro e w' ⟨rfl, rfl⟩)
  go_ret
  exact ⟨rfl, by repeat (first | exact Grown.refl _ | apply Grown.drew | apply Grown.alloc)⟩
theorem impl_max (a b : Int) (w : World) :
    Calls Tryd.prog 55 #[.int .i64 a, .int .i64 b] w fun e w' => e = .returned (.int .i64 (mx a b)) ∧ Grown w w' := by
  go_enter Tryd.func55, Tryd.ntmps55
  go_wp2_with (go_at_call 67; refine (extreme_large _ b _ _ (by go_simp)).mono ?_; rintro e w' ⟨rfl, rfl⟩)
  go_ret
  exact ⟨rfl, by repeat (first | exact Grown.refl _ | apply Grown.drew | apply Grown.alloc)⟩
theorem impl_range (n l h : Int) (w : World) :
    Calls Tryd.prog 22 #[.int .i64 n, .int .i64 l, .int .i64 h] w fun e w' => e = .returned (.bool (decide (l ≤ n ∧ n ≤ h))) ∧ w = w' := by
  by_cases h1 : l ≤ n <;> by_cases h2 : n ≤ h
  all_goals
    go_enter Tryd.func22, Tryd.ntmps22
    go_wp2
    go_ret
    exact ⟨by simp [h1, h2], rfl⟩
theorem spec_l1In (n l h : Int) (w : World) :
    Calls Tryd.prog 63 #[.int .i64 n, .int .i64 l, .int .i64 h] w fun e w' => e = .returned (.bool (decide (l ≤ n ∧ n ≤ h))) ∧ w = w' := by
  by_cases h1 : l ≤ n <;> by_cases h2 : n ≤ h
  all_goals
    go_enter Tryd.func63, Tryd.ntmps63
    go_wp2
    go_ret
    exact ⟨by simp [h1, h2], rfl⟩
theorem tmod_bd (a b : Int) (h : 1 ≤ b) : -b < a.tmod b ∧ a.tmod b < b := by
  constructor
  · by_cases ha : 0 ≤ a
    · have := Int.tmod_nonneg b ha; omega
    · have h1 : (-a).tmod b < b := Int.tmod_lt_of_pos _ (by omega)
      rw [Int.neg_tmod] at h1; omega
  · exact Int.tmod_lt_of_pos _ (by omega)
theorem tmod_emod (a b : Int) : (a.tmod b) % b = a % b := by
  have h := Int.mul_tdiv_add_tmod a b
  conv => rhs; rw [← h]
  rw [Int.add_comm, Int.add_mul_emod_self_left]
theorem tmod_neg (a b : Int) (h : 1 ≤ b) (hr : a.tmod b < 0) : a.tmod b + b = a % b := by
  have h1 := tmod_bd a b h
  rw [← tmod_emod a b, ← Int.add_emod_right, Int.emod_eq_of_lt (by omega) (by omega)]
theorem tmod_pos (a b : Int) (h : 1 ≤ b) (hr : 0 ≤ a.tmod b) : a.tmod b = a % b := by
  have h1 := tmod_bd a b h
  rw [← tmod_emod a b, Int.emod_eq_of_lt (by omega) (by omega)]
theorem spec_mod (a b : Int) (w : World) :
    Calls Tryd.prog 75 #[.int .i64 a, .int .i64 b] w fun e w' => e = .returned (.int .i64 (modOf a b)) ∧ w = w' := by
  by_cases h : (1 ≤ b ∧ b ≤ 1000000000000)
  · obtain ⟨g1, g2⟩ := tmod_bd a b h.1
    have g3 : (a.tmod b + b) % b = a % b := by rw [Int.add_emod_right, tmod_emod]
    have g4 : 0 ≤ a.tmod b + b := by omega
    have G3 := Lib.hid g3
    clear g3
    go_enter Tryd.func75, Tryd.ntmps75
    go_wp2_with (go_at_call 63; refine (spec_l1In _ _ _ _).mono ?_; rintro e w' ⟨rfl, rfl⟩)
    go_ret
    exact ⟨ret_int (by rw [G3.out]; unfold modOf; split <;> first | rfl | omega), rfl⟩
  · go_enter Tryd.func75, Tryd.ntmps75
    go_wp2_with (go_at_call 63; refine (spec_l1In _ _ _ _).mono ?_; rintro e w' ⟨rfl, rfl⟩)
    go_ret
    exact ⟨ret_int (by unfold modOf; split <;> first | rfl | omega), rfl⟩
theorem impl_mod (a b : Int) (w : World) :
    Calls Tryd.prog 83 #[.int .i64 a, .int .i64 b] w fun e w' => e = .returned (.int .i64 (modOf a b)) ∧ w = w' := by
  by_cases h : (1 ≤ b ∧ b ≤ 1000000000000)
  · obtain ⟨g1, g2⟩ := tmod_bd a b h.1
    have G4 := Lib.hid (tmod_neg a b h.1)
    have G5 := Lib.hid (tmod_pos a b h.1)
    by_cases hr : a.tmod b < 0
    · go_enter Tryd.func83, Tryd.ntmps83
      go_wp2_with (go_at_call 22; refine (impl_range _ _ _ _).mono ?_; rintro e w' ⟨rfl, rfl⟩)
      go_ret
      exact ⟨ret_int (by rw [G4.out hr]; unfold modOf; split <;> first | rfl | omega), rfl⟩
    · go_enter Tryd.func83, Tryd.ntmps83
      go_wp2_with (go_at_call 22; refine (impl_range _ _ _ _).mono ?_; rintro e w' ⟨rfl, rfl⟩)
      go_ret
      exact ⟨ret_int (by rw [G5.out (by omega)]; unfold modOf; split <;> first | rfl | omega), rfl⟩
  · go_enter Tryd.func83, Tryd.ntmps83
    go_wp2_with (go_at_call 22; refine (impl_range _ _ _ _).mono ?_; rintro e w' ⟨rfl, rfl⟩)
    go_ret
    exact ⟨ret_int (by unfold modOf; split <;> first | rfl | omega), rfl⟩
theorem spec_l1In_no (n l h : Int) (w : World) (hn : ¬ (l ≤ n ∧ n ≤ h)) :
    Calls Tryd.prog 63 #[.int .i64 n, .int .i64 l, .int .i64 h] w fun e w' => e = .returned (.bool false) ∧ w = w' :=
  (spec_l1In n l h w).mono fun e w' ⟨he, hw⟩ => ⟨by rw [he, decide_eq_false hn], hw⟩
theorem spec_l1In_yes (n l h : Int) (w : World) (hn : l ≤ n ∧ n ≤ h) :
    Calls Tryd.prog 63 #[.int .i64 n, .int .i64 l, .int .i64 h] w fun e w' => e = .returned (.bool true) ∧ w = w' :=
  (spec_l1In n l h w).mono fun e w' ⟨he, hw⟩ => ⟨by rw [he, decide_eq_true hn], hw⟩
end Go.Proofs.YtjfmmingkciapaaDoor
/- The helpers of the exact statements over slices of ints: a copy, a comparison, marks, and whether the marks are still there. -/
namespace Go.Proofs.YtjfmmingkciapaaDoor
open Go.ChangeShapes Go.WideShapes Go.ChangeAt Go.RowKit
set_option linter.unusedVariables false

theorem infoIntS : (Tryd.prog.info? 3).map (fun i => (i.zero, i.size, i.bytes)) = some (some (.int .i64 0), 1, 8) := by kernel_rfl

/-- What the helper that marks writes. -/
def marksIntS (k : Int) (n : Nat) : List Int := (List.range n).map fun (i : Nat) => k + (i : Int)
theorem marksIntS_length (k : Int) (n : Nat) : (marksIntS k n).length = n := by simp [marksIntS]
theorem marksIntS_at (k : Int) (n i : Nat) (h : i < (marksIntS k n).length) : (marksIntS k n)[i] = k + (i : Int) := by simp [marksIntS]
theorem marksIntS_wf (k : Int) (n : Nat) (hk0 : 0 ≤ k) (hk1 : k ≤ 1099511627776000) (hn : n ≤ 1099511627776) : ∀ x ∈ marksIntS k n, (Lit.int .i64 x).wf = true := by
  intro x hx
  simp only [marksIntS, List.mem_map] at hx
  obtain ⟨i, hi, rfl⟩ := hx
  have := List.mem_range.1 hi
  exact wf_i64 (by omega) (by omega)

end Go.Proofs.YtjfmmingkciapaaDoor
/- Slices of integers as cells: what reads so, what is owned so; the laws' own helpers over them. No condition but the bounds of what came in. -/
namespace Go.Proofs.YtjfmmingkciapaaDoor
open Go.ChangeShapes Go.WideShapes Go.ChangeAt Go.RowKit
set_option linter.unusedVariables false

def numC (x : Int) : List Cell := [.num x]
theorem numC_len (x : Int) : (numC x).length = 1 := rfl
theorem flat_num (xs : List Int) : xs.flatMap numC = xs.map Cell.num := by
  induction xs with
  | nil => rfl
  | cons x xs ih => rw [List.flatMap_cons, ih]; rfl
theorem sz_nums : ∀ xs : List Int, szE (xs.flatMap numC) = 0
  | [] => by rw [List.flatMap_nil, szE_nil]
  | x :: xs => by rw [List.flatMap_cons, szE_append, sz_nums xs]; show szE [.num x] + 0 = 0; rw [szE_cons, szE_nil, szC_num]; rfl
theorem ct_nums : ∀ xs : List Int, ctE (xs.flatMap numC) = xs.length
  | [] => by rw [List.flatMap_nil, ctE_nil]; rfl
  | x :: xs => by rw [List.flatMap_cons, ctE_append, ct_nums xs]; show ctE [.num x] + _ = _; rw [ctE_cons, ctE_nil, ctC_num, List.length_cons]; omega
theorem mk_nums : ∀ (xs : List Int) (k : Int), mkE (xs.flatMap numC) k = (marksIntS k xs.length).map Cell.num
  | [], k => by rw [List.flatMap_nil, mkE_nil]; rfl
  | x :: xs, k => by
    rw [List.flatMap_cons, mkE_append, mk_nums xs]
    show mkE [.num x] k ++ _ = _
    rw [mkE_cons, mkE_nil, mkC_num]
    show Cell.num k :: List.map Cell.num (marksIntS (k + ctE [.num x]) xs.length) = _
    rw [ctE_cons, ctE_nil, ctC_num]
    apply List.ext_getElem
    · simp [marksIntS_length]
    · intro i h1 h2
      cases i with
      | zero => simp [marksIntS_at]
      | succ i =>
        simp only [List.getElem_cons_succ, List.getElem_map, marksIntS_at, Cell.num.injEq]
        omega
theorem rd_row {w : World} {hi : Nat} {v : Value} {xs : List Int} (h : rdC w hi (.row xs.length (xs.map Cell.num)) v) : Row .i64 w hi v xs := by
  unfold rdC at h
  obtain ⟨a, c, rfl, h1, h2, h3, h4, h5⟩ := h
  refine ⟨⟨a, c, rfl, h1, h2, h3, fun hp => ?_⟩, fun x hx => ?_⟩
  · obtain ⟨b, off, rfl, g1, g2, g3⟩ := h5 hp
    refine ⟨b, off, rfl, g1, g2, fun i hi => ?_⟩
    obtain ⟨u, h6, h7⟩ := rdE_at g3 (show (xs.map Cell.num)[i]? = some (.num xs[i]) by rw [List.getElem?_map, List.getElem?_eq_getElem hi]; rfl)
    rw [h6, (rdC_num.1 h7).1]
    simp [List.getD, hi]
  · obtain ⟨i, hi, rfl⟩ := List.getElem_of_mem hx
    obtain ⟨b, off, rfl, g1, g2, g3⟩ := h5 (by omega)
    obtain ⟨u, h6, h7⟩ := rdE_at g3 (show (xs.map Cell.num)[i]? = some (.num xs[i]) by rw [List.getElem?_map, List.getElem?_eq_getElem hi]; rfl)
    exact (rdC_num.1 h7).2
theorem row_rd {w : World} {hi : Nat} {v : Value} {xs : List Int} (h : Row .i64 w hi v xs) : rdC w hi (.row xs.length (xs.map Cell.num)) v := by
  obtain ⟨⟨a, c, rfl, h1, h2, h3, h4⟩, h5⟩ := h
  unfold rdC
  refine ⟨a, c, rfl, h1, h2, h3, fun e => by rw [List.length_eq_zero_iff.mp e]; rfl, fun hp => ?_⟩
  obtain ⟨b, off, rfl, g1, g2, g3⟩ := h4 hp
  refine ⟨b, off, rfl, g1, g2, rdE_of fun j c hj => ?_⟩
  rw [List.getElem?_map] at hj
  cases hx : xs[j]? with
  | none => rw [hx] at hj; cases hj
  | some x =>
    rw [hx] at hj
    obtain rfl := Option.some.inj hj
    obtain ⟨hl, e⟩ := List.getElem?_eq_some_iff.1 hx
    refine ⟨_, g3 j hl, rdC_num.2 ⟨?_, h5 x (List.mem_of_getElem? hx)⟩⟩
    simp [List.getD, hx]
theorem ints_row {w : World} {hi : Nat} {v : Value} {xs : List Int} : rdC w hi (rowF numC xs) v ↔ Row .i64 w hi v xs := by
  show rdC w hi (.row xs.length (xs.flatMap numC)) v ↔ _
  rw [flat_num]
  exact ⟨rd_row, row_rd⟩
theorem owE_nums {w : World} : ∀ {xs : List Int}, (∀ x ∈ xs, (Lit.int .i64 x).wf = true) → owE w (xs.map Cell.num) (xs.map (Value.int .i64)) []
  | [], _ => owE_nil.2 ⟨rfl, rfl⟩
  | x :: xs, h => owE_cons.2 ⟨_, _, [], [], rfl, rfl, owC_num.2 ⟨rfl, h x List.mem_cons_self, rfl⟩, owE_nums fun y hy => h y (List.mem_cons_of_mem _ hy)⟩
/-- A slice of integers of the call's own, as cells. -/
theorem own_ints {E : TypeId} {w : World} {lo hi : Nat} {v : Value} {xs : List Int} (h : Own E .i64 w lo hi v xs) : ∃ fp, owC w (rowF numC xs) v fp ∧ fp.Nodup ∧ ∀ k ∈ fp, lo ≤ k ∧ k < hi := by
  have hl := h.lt
  show ∃ fp, owC w (.row xs.length (xs.flatMap numC)) v fp ∧ _
  rw [flat_num]
  rcases h.row.2 with ⟨rfl, h0⟩ | ⟨g, cap, cur, rfl, g1, g2, g3, g4, g5, g6⟩
  · have hx : xs = [] := List.length_eq_zero_iff.mp h0
    subst hx
    refine ⟨[], ?_, List.nodup_nil, fun k hk => by cases hk⟩
    unfold owC
    exact .inl ⟨rfl, rfl, rfl, rfl⟩
  · refine ⟨[g], ?_, by simp, fun k hk => ?_⟩
    · unfold owC
      refine .inr ⟨g, cap, cur, E, [], rfl, g3, g4, g2, rfl, fun e => by rw [List.length_eq_zero_iff.mp e]; rfl, ?_⟩
      rw [List.length_map, ← Nat.mul_one xs.length, g6]
      exact owE_nums h.wf
    · obtain rfl := List.mem_singleton.1 hk
      have h9 := hl k rfl
      exact ⟨h9.1, h9.2.1⟩
theorem nums_thin (xs : List Int) : ctE (xs.flatMap numC) ≤ 64 * szC (rowF numC xs) := by
  rw [szC_row, ct_nums, sz_nums]
  omega
end Go.Proofs.YtjfmmingkciapaaDoor
/- A struct stored into a block of the call's own; what a world at hand inherits. No condition; any program. -/
namespace Go.Proofs.YtjfmmingkciapaaDoor
open Go.ChangeShapes Go.WideShapes Go.ChangeAt Go.RowKit
theorem blw_next {W0 U U' : World} (b : Below U.heap.size U U') (h : Below W0.heap.size W0 U) : Below W0.heap.size W0 U' := h.trans (b.mono h.size)
theorem blw_store {W0 U U' : World} {g : Nat} (t : Touch [g] U U') (h : Below W0.heap.size W0 U) (hg : W0.heap.size ≤ g) : Below W0.heap.size W0 U' := h.trans (t.below (fun k hk => by rw [List.mem_singleton] at hk; omega) h.size)
theorem owE.at {w w' : World} {cs : List Cell} {us : List Value} {f : List Nat} (h : owE w cs us f) (b : Below w.heap.size w w') : owE w' cs us f := h.keep fun k hk => b.block k (owE.lt h k hk)
theorem owC.at {w w' : World} {c : Cell} {v : Value} {f : List Nat} (h : owC w c v f) (b : Below w.heap.size w w') : owC w' c v f := h.keep fun k hk => b.block k (owC.lt h k hk)
theorem owE.off {w w' : World} {cs : List Cell} {us : List Value} {f : List Nat} {g lo hi : Nat} (h : owE w cs us f) (t : Touch [g] w w') (rg : ∀ k ∈ f, lo ≤ k ∧ k < hi) (hg : g < lo ∨ hi ≤ g) : owE w' cs us f := h.touch t fun k hk hk2 => by
  have h8 := rg k hk
  have h9 := List.mem_singleton.1 hk2
  omega
theorem sz_flat {X : Type} {f : X → List Cell} (h : ∀ x, szE (f x) = 0) : ∀ xs : List X, szE (xs.flatMap f) = 0
  | [] => by rw [List.flatMap_nil, szE_nil]
  | x :: xs => by rw [List.flatMap_cons, szE_append, h x, sz_flat h xs]; rfl
theorem cls_1 {w : World} {f : Nat} {T : TypeId} {z0 : Value} (h : w.heap[f]? = some (.cells #[z0] T)) :
    (w.cell? ⟨f, 0, none⟩ = some z0) ∧ (w.frozen? ⟨f, 0, none⟩ = false) :=
  ⟨blk_cell h 0 rfl, blk_frozen h 0⟩
theorem stt_1 {w : World} {f : Nat} {T : TypeId} {z0 : Value} (h : w.heap[f]? = some (.cells #[z0] T)) (r0 : Value) :
    (w.setCell ⟨f, 0, none⟩ r0).heap[f]? = some (.cells #[r0] T) ∧ Touch [f] w (w.setCell ⟨f, 0, none⟩ r0) := by
  have h0 : (w.setCell ⟨f, 0, none⟩ r0).heap[f]? = some (.cells #[r0] T) := blk_set h r0
  exact ⟨h0, Touch.set (List.mem_singleton.2 rfl) w 0 r0⟩
theorem cls_2 {w : World} {f : Nat} {T : TypeId} {z0 z1 : Value} (h : w.heap[f]? = some (.cells #[z0, z1] T)) :
    (w.cell? ⟨f, 0, none⟩ = some z0 ∧ w.cell? ⟨f, 1, none⟩ = some z1) ∧ (w.frozen? ⟨f, 0, none⟩ = false ∧ w.frozen? ⟨f, 1, none⟩ = false) :=
  ⟨⟨blk_cell h 0 rfl, blk_cell h 1 rfl⟩, ⟨blk_frozen h 0, blk_frozen h 1⟩⟩
theorem stt_2 {w : World} {f : Nat} {T : TypeId} {z0 z1 : Value} (h : w.heap[f]? = some (.cells #[z0, z1] T)) (r0 r1 : Value) :
    ((w.setCell ⟨f, 0, none⟩ r0).setCell ⟨f, 1, none⟩ r1).heap[f]? = some (.cells #[r0, r1] T) ∧ Touch [f] w ((w.setCell ⟨f, 0, none⟩ r0).setCell ⟨f, 1, none⟩ r1) := by
  have h0 : (w.setCell ⟨f, 0, none⟩ r0).heap[f]? = some (.cells #[r0, z1] T) := blk_set h r0
  have h1 : ((w.setCell ⟨f, 0, none⟩ r0).setCell ⟨f, 1, none⟩ r1).heap[f]? = some (.cells #[r0, r1] T) := blk_set h0 r1
  exact ⟨h1, (Touch.set (List.mem_singleton.2 rfl) w 0 r0).trans (Touch.set (List.mem_singleton.2 rfl) _ 1 r1)⟩
theorem cls_3 {w : World} {f : Nat} {T : TypeId} {z0 z1 z2 : Value} (h : w.heap[f]? = some (.cells #[z0, z1, z2] T)) :
    (w.cell? ⟨f, 0, none⟩ = some z0 ∧ w.cell? ⟨f, 1, none⟩ = some z1 ∧ w.cell? ⟨f, 2, none⟩ = some z2) ∧ (w.frozen? ⟨f, 0, none⟩ = false ∧ w.frozen? ⟨f, 1, none⟩ = false ∧ w.frozen? ⟨f, 2, none⟩ = false) :=
  ⟨⟨blk_cell h 0 rfl, blk_cell h 1 rfl, blk_cell h 2 rfl⟩, ⟨blk_frozen h 0, blk_frozen h 1, blk_frozen h 2⟩⟩
theorem stt_3 {w : World} {f : Nat} {T : TypeId} {z0 z1 z2 : Value} (h : w.heap[f]? = some (.cells #[z0, z1, z2] T)) (r0 r1 r2 : Value) :
    (((w.setCell ⟨f, 0, none⟩ r0).setCell ⟨f, 1, none⟩ r1).setCell ⟨f, 2, none⟩ r2).heap[f]? = some (.cells #[r0, r1, r2] T) ∧ Touch [f] w (((w.setCell ⟨f, 0, none⟩ r0).setCell ⟨f, 1, none⟩ r1).setCell ⟨f, 2, none⟩ r2) := by
  have h0 : (w.setCell ⟨f, 0, none⟩ r0).heap[f]? = some (.cells #[r0, z1, z2] T) := blk_set h r0
  have h1 : ((w.setCell ⟨f, 0, none⟩ r0).setCell ⟨f, 1, none⟩ r1).heap[f]? = some (.cells #[r0, r1, z2] T) := blk_set h0 r1
  have h2 : (((w.setCell ⟨f, 0, none⟩ r0).setCell ⟨f, 1, none⟩ r1).setCell ⟨f, 2, none⟩ r2).heap[f]? = some (.cells #[r0, r1, r2] T) := blk_set h1 r2
  exact ⟨h2, ((Touch.set (List.mem_singleton.2 rfl) w 0 r0).trans (Touch.set (List.mem_singleton.2 rfl) _ 1 r1)).trans (Touch.set (List.mem_singleton.2 rfl) _ 2 r2)⟩
theorem cls_4 {w : World} {f : Nat} {T : TypeId} {z0 z1 z2 z3 : Value} (h : w.heap[f]? = some (.cells #[z0, z1, z2, z3] T)) :
    (w.cell? ⟨f, 0, none⟩ = some z0 ∧ w.cell? ⟨f, 1, none⟩ = some z1 ∧ w.cell? ⟨f, 2, none⟩ = some z2 ∧ w.cell? ⟨f, 3, none⟩ = some z3) ∧ (w.frozen? ⟨f, 0, none⟩ = false ∧ w.frozen? ⟨f, 1, none⟩ = false ∧ w.frozen? ⟨f, 2, none⟩ = false ∧ w.frozen? ⟨f, 3, none⟩ = false) :=
  ⟨⟨blk_cell h 0 rfl, blk_cell h 1 rfl, blk_cell h 2 rfl, blk_cell h 3 rfl⟩, ⟨blk_frozen h 0, blk_frozen h 1, blk_frozen h 2, blk_frozen h 3⟩⟩
theorem stt_4 {w : World} {f : Nat} {T : TypeId} {z0 z1 z2 z3 : Value} (h : w.heap[f]? = some (.cells #[z0, z1, z2, z3] T)) (r0 r1 r2 r3 : Value) :
    ((((w.setCell ⟨f, 0, none⟩ r0).setCell ⟨f, 1, none⟩ r1).setCell ⟨f, 2, none⟩ r2).setCell ⟨f, 3, none⟩ r3).heap[f]? = some (.cells #[r0, r1, r2, r3] T) ∧ Touch [f] w ((((w.setCell ⟨f, 0, none⟩ r0).setCell ⟨f, 1, none⟩ r1).setCell ⟨f, 2, none⟩ r2).setCell ⟨f, 3, none⟩ r3) := by
  have h0 : (w.setCell ⟨f, 0, none⟩ r0).heap[f]? = some (.cells #[r0, z1, z2, z3] T) := blk_set h r0
  have h1 : ((w.setCell ⟨f, 0, none⟩ r0).setCell ⟨f, 1, none⟩ r1).heap[f]? = some (.cells #[r0, r1, z2, z3] T) := blk_set h0 r1
  have h2 : (((w.setCell ⟨f, 0, none⟩ r0).setCell ⟨f, 1, none⟩ r1).setCell ⟨f, 2, none⟩ r2).heap[f]? = some (.cells #[r0, r1, r2, z3] T) := blk_set h1 r2
  have h3 : ((((w.setCell ⟨f, 0, none⟩ r0).setCell ⟨f, 1, none⟩ r1).setCell ⟨f, 2, none⟩ r2).setCell ⟨f, 3, none⟩ r3).heap[f]? = some (.cells #[r0, r1, r2, r3] T) := blk_set h2 r3
  exact ⟨h3, (((Touch.set (List.mem_singleton.2 rfl) w 0 r0).trans (Touch.set (List.mem_singleton.2 rfl) _ 1 r1)).trans (Touch.set (List.mem_singleton.2 rfl) _ 2 r2)).trans (Touch.set (List.mem_singleton.2 rfl) _ 3 r3)⟩
theorem cls_5 {w : World} {f : Nat} {T : TypeId} {z0 z1 z2 z3 z4 : Value} (h : w.heap[f]? = some (.cells #[z0, z1, z2, z3, z4] T)) :
    (w.cell? ⟨f, 0, none⟩ = some z0 ∧ w.cell? ⟨f, 1, none⟩ = some z1 ∧ w.cell? ⟨f, 2, none⟩ = some z2 ∧ w.cell? ⟨f, 3, none⟩ = some z3 ∧ w.cell? ⟨f, 4, none⟩ = some z4) ∧ (w.frozen? ⟨f, 0, none⟩ = false ∧ w.frozen? ⟨f, 1, none⟩ = false ∧ w.frozen? ⟨f, 2, none⟩ = false ∧ w.frozen? ⟨f, 3, none⟩ = false ∧ w.frozen? ⟨f, 4, none⟩ = false) :=
  ⟨⟨blk_cell h 0 rfl, blk_cell h 1 rfl, blk_cell h 2 rfl, blk_cell h 3 rfl, blk_cell h 4 rfl⟩, ⟨blk_frozen h 0, blk_frozen h 1, blk_frozen h 2, blk_frozen h 3, blk_frozen h 4⟩⟩
theorem stt_5 {w : World} {f : Nat} {T : TypeId} {z0 z1 z2 z3 z4 : Value} (h : w.heap[f]? = some (.cells #[z0, z1, z2, z3, z4] T)) (r0 r1 r2 r3 r4 : Value) :
    (((((w.setCell ⟨f, 0, none⟩ r0).setCell ⟨f, 1, none⟩ r1).setCell ⟨f, 2, none⟩ r2).setCell ⟨f, 3, none⟩ r3).setCell ⟨f, 4, none⟩ r4).heap[f]? = some (.cells #[r0, r1, r2, r3, r4] T) ∧ Touch [f] w (((((w.setCell ⟨f, 0, none⟩ r0).setCell ⟨f, 1, none⟩ r1).setCell ⟨f, 2, none⟩ r2).setCell ⟨f, 3, none⟩ r3).setCell ⟨f, 4, none⟩ r4) := by
  have h0 : (w.setCell ⟨f, 0, none⟩ r0).heap[f]? = some (.cells #[r0, z1, z2, z3, z4] T) := blk_set h r0
  have h1 : ((w.setCell ⟨f, 0, none⟩ r0).setCell ⟨f, 1, none⟩ r1).heap[f]? = some (.cells #[r0, r1, z2, z3, z4] T) := blk_set h0 r1
  have h2 : (((w.setCell ⟨f, 0, none⟩ r0).setCell ⟨f, 1, none⟩ r1).setCell ⟨f, 2, none⟩ r2).heap[f]? = some (.cells #[r0, r1, r2, z3, z4] T) := blk_set h1 r2
  have h3 : ((((w.setCell ⟨f, 0, none⟩ r0).setCell ⟨f, 1, none⟩ r1).setCell ⟨f, 2, none⟩ r2).setCell ⟨f, 3, none⟩ r3).heap[f]? = some (.cells #[r0, r1, r2, r3, z4] T) := blk_set h2 r3
  have h4 : (((((w.setCell ⟨f, 0, none⟩ r0).setCell ⟨f, 1, none⟩ r1).setCell ⟨f, 2, none⟩ r2).setCell ⟨f, 3, none⟩ r3).setCell ⟨f, 4, none⟩ r4).heap[f]? = some (.cells #[r0, r1, r2, r3, r4] T) := blk_set h3 r4
  exact ⟨h4, ((((Touch.set (List.mem_singleton.2 rfl) w 0 r0).trans (Touch.set (List.mem_singleton.2 rfl) _ 1 r1)).trans (Touch.set (List.mem_singleton.2 rfl) _ 2 r2)).trans (Touch.set (List.mem_singleton.2 rfl) _ 3 r3)).trans (Touch.set (List.mem_singleton.2 rfl) _ 4 r4)⟩
theorem cls_6 {w : World} {f : Nat} {T : TypeId} {z0 z1 z2 z3 z4 z5 : Value} (h : w.heap[f]? = some (.cells #[z0, z1, z2, z3, z4, z5] T)) :
    (w.cell? ⟨f, 0, none⟩ = some z0 ∧ w.cell? ⟨f, 1, none⟩ = some z1 ∧ w.cell? ⟨f, 2, none⟩ = some z2 ∧ w.cell? ⟨f, 3, none⟩ = some z3 ∧ w.cell? ⟨f, 4, none⟩ = some z4 ∧ w.cell? ⟨f, 5, none⟩ = some z5) ∧ (w.frozen? ⟨f, 0, none⟩ = false ∧ w.frozen? ⟨f, 1, none⟩ = false ∧ w.frozen? ⟨f, 2, none⟩ = false ∧ w.frozen? ⟨f, 3, none⟩ = false ∧ w.frozen? ⟨f, 4, none⟩ = false ∧ w.frozen? ⟨f, 5, none⟩ = false) :=
  ⟨⟨blk_cell h 0 rfl, blk_cell h 1 rfl, blk_cell h 2 rfl, blk_cell h 3 rfl, blk_cell h 4 rfl, blk_cell h 5 rfl⟩, ⟨blk_frozen h 0, blk_frozen h 1, blk_frozen h 2, blk_frozen h 3, blk_frozen h 4, blk_frozen h 5⟩⟩
theorem stt_6 {w : World} {f : Nat} {T : TypeId} {z0 z1 z2 z3 z4 z5 : Value} (h : w.heap[f]? = some (.cells #[z0, z1, z2, z3, z4, z5] T)) (r0 r1 r2 r3 r4 r5 : Value) :
    ((((((w.setCell ⟨f, 0, none⟩ r0).setCell ⟨f, 1, none⟩ r1).setCell ⟨f, 2, none⟩ r2).setCell ⟨f, 3, none⟩ r3).setCell ⟨f, 4, none⟩ r4).setCell ⟨f, 5, none⟩ r5).heap[f]? = some (.cells #[r0, r1, r2, r3, r4, r5] T) ∧ Touch [f] w ((((((w.setCell ⟨f, 0, none⟩ r0).setCell ⟨f, 1, none⟩ r1).setCell ⟨f, 2, none⟩ r2).setCell ⟨f, 3, none⟩ r3).setCell ⟨f, 4, none⟩ r4).setCell ⟨f, 5, none⟩ r5) := by
  have h0 : (w.setCell ⟨f, 0, none⟩ r0).heap[f]? = some (.cells #[r0, z1, z2, z3, z4, z5] T) := blk_set h r0
  have h1 : ((w.setCell ⟨f, 0, none⟩ r0).setCell ⟨f, 1, none⟩ r1).heap[f]? = some (.cells #[r0, r1, z2, z3, z4, z5] T) := blk_set h0 r1
  have h2 : (((w.setCell ⟨f, 0, none⟩ r0).setCell ⟨f, 1, none⟩ r1).setCell ⟨f, 2, none⟩ r2).heap[f]? = some (.cells #[r0, r1, r2, z3, z4, z5] T) := blk_set h1 r2
  have h3 : ((((w.setCell ⟨f, 0, none⟩ r0).setCell ⟨f, 1, none⟩ r1).setCell ⟨f, 2, none⟩ r2).setCell ⟨f, 3, none⟩ r3).heap[f]? = some (.cells #[r0, r1, r2, r3, z4, z5] T) := blk_set h2 r3
  have h4 : (((((w.setCell ⟨f, 0, none⟩ r0).setCell ⟨f, 1, none⟩ r1).setCell ⟨f, 2, none⟩ r2).setCell ⟨f, 3, none⟩ r3).setCell ⟨f, 4, none⟩ r4).heap[f]? = some (.cells #[r0, r1, r2, r3, r4, z5] T) := blk_set h3 r4
  have h5 : ((((((w.setCell ⟨f, 0, none⟩ r0).setCell ⟨f, 1, none⟩ r1).setCell ⟨f, 2, none⟩ r2).setCell ⟨f, 3, none⟩ r3).setCell ⟨f, 4, none⟩ r4).setCell ⟨f, 5, none⟩ r5).heap[f]? = some (.cells #[r0, r1, r2, r3, r4, r5] T) := blk_set h4 r5
  exact ⟨h5, (((((Touch.set (List.mem_singleton.2 rfl) w 0 r0).trans (Touch.set (List.mem_singleton.2 rfl) _ 1 r1)).trans (Touch.set (List.mem_singleton.2 rfl) _ 2 r2)).trans (Touch.set (List.mem_singleton.2 rfl) _ 3 r3)).trans (Touch.set (List.mem_singleton.2 rfl) _ 4 r4)).trans (Touch.set (List.mem_singleton.2 rfl) _ 5 r5)⟩
theorem cls_7 {w : World} {f : Nat} {T : TypeId} {z0 z1 z2 z3 z4 z5 z6 : Value} (h : w.heap[f]? = some (.cells #[z0, z1, z2, z3, z4, z5, z6] T)) :
    (w.cell? ⟨f, 0, none⟩ = some z0 ∧ w.cell? ⟨f, 1, none⟩ = some z1 ∧ w.cell? ⟨f, 2, none⟩ = some z2 ∧ w.cell? ⟨f, 3, none⟩ = some z3 ∧ w.cell? ⟨f, 4, none⟩ = some z4 ∧ w.cell? ⟨f, 5, none⟩ = some z5 ∧ w.cell? ⟨f, 6, none⟩ = some z6) ∧ (w.frozen? ⟨f, 0, none⟩ = false ∧ w.frozen? ⟨f, 1, none⟩ = false ∧ w.frozen? ⟨f, 2, none⟩ = false ∧ w.frozen? ⟨f, 3, none⟩ = false ∧ w.frozen? ⟨f, 4, none⟩ = false ∧ w.frozen? ⟨f, 5, none⟩ = false ∧ w.frozen? ⟨f, 6, none⟩ = false) :=
  ⟨⟨blk_cell h 0 rfl, blk_cell h 1 rfl, blk_cell h 2 rfl, blk_cell h 3 rfl, blk_cell h 4 rfl, blk_cell h 5 rfl, blk_cell h 6 rfl⟩, ⟨blk_frozen h 0, blk_frozen h 1, blk_frozen h 2, blk_frozen h 3, blk_frozen h 4, blk_frozen h 5, blk_frozen h 6⟩⟩
theorem stt_7 {w : World} {f : Nat} {T : TypeId} {z0 z1 z2 z3 z4 z5 z6 : Value} (h : w.heap[f]? = some (.cells #[z0, z1, z2, z3, z4, z5, z6] T)) (r0 r1 r2 r3 r4 r5 r6 : Value) :
    (((((((w.setCell ⟨f, 0, none⟩ r0).setCell ⟨f, 1, none⟩ r1).setCell ⟨f, 2, none⟩ r2).setCell ⟨f, 3, none⟩ r3).setCell ⟨f, 4, none⟩ r4).setCell ⟨f, 5, none⟩ r5).setCell ⟨f, 6, none⟩ r6).heap[f]? = some (.cells #[r0, r1, r2, r3, r4, r5, r6] T) ∧ Touch [f] w (((((((w.setCell ⟨f, 0, none⟩ r0).setCell ⟨f, 1, none⟩ r1).setCell ⟨f, 2, none⟩ r2).setCell ⟨f, 3, none⟩ r3).setCell ⟨f, 4, none⟩ r4).setCell ⟨f, 5, none⟩ r5).setCell ⟨f, 6, none⟩ r6) := by
  have h0 : (w.setCell ⟨f, 0, none⟩ r0).heap[f]? = some (.cells #[r0, z1, z2, z3, z4, z5, z6] T) := blk_set h r0
  have h1 : ((w.setCell ⟨f, 0, none⟩ r0).setCell ⟨f, 1, none⟩ r1).heap[f]? = some (.cells #[r0, r1, z2, z3, z4, z5, z6] T) := blk_set h0 r1
  have h2 : (((w.setCell ⟨f, 0, none⟩ r0).setCell ⟨f, 1, none⟩ r1).setCell ⟨f, 2, none⟩ r2).heap[f]? = some (.cells #[r0, r1, r2, z3, z4, z5, z6] T) := blk_set h1 r2
  have h3 : ((((w.setCell ⟨f, 0, none⟩ r0).setCell ⟨f, 1, none⟩ r1).setCell ⟨f, 2, none⟩ r2).setCell ⟨f, 3, none⟩ r3).heap[f]? = some (.cells #[r0, r1, r2, r3, z4, z5, z6] T) := blk_set h2 r3
  have h4 : (((((w.setCell ⟨f, 0, none⟩ r0).setCell ⟨f, 1, none⟩ r1).setCell ⟨f, 2, none⟩ r2).setCell ⟨f, 3, none⟩ r3).setCell ⟨f, 4, none⟩ r4).heap[f]? = some (.cells #[r0, r1, r2, r3, r4, z5, z6] T) := blk_set h3 r4
  have h5 : ((((((w.setCell ⟨f, 0, none⟩ r0).setCell ⟨f, 1, none⟩ r1).setCell ⟨f, 2, none⟩ r2).setCell ⟨f, 3, none⟩ r3).setCell ⟨f, 4, none⟩ r4).setCell ⟨f, 5, none⟩ r5).heap[f]? = some (.cells #[r0, r1, r2, r3, r4, r5, z6] T) := blk_set h4 r5
  have h6 : (((((((w.setCell ⟨f, 0, none⟩ r0).setCell ⟨f, 1, none⟩ r1).setCell ⟨f, 2, none⟩ r2).setCell ⟨f, 3, none⟩ r3).setCell ⟨f, 4, none⟩ r4).setCell ⟨f, 5, none⟩ r5).setCell ⟨f, 6, none⟩ r6).heap[f]? = some (.cells #[r0, r1, r2, r3, r4, r5, r6] T) := blk_set h5 r6
  exact ⟨h6, ((((((Touch.set (List.mem_singleton.2 rfl) w 0 r0).trans (Touch.set (List.mem_singleton.2 rfl) _ 1 r1)).trans (Touch.set (List.mem_singleton.2 rfl) _ 2 r2)).trans (Touch.set (List.mem_singleton.2 rfl) _ 3 r3)).trans (Touch.set (List.mem_singleton.2 rfl) _ 4 r4)).trans (Touch.set (List.mem_singleton.2 rfl) _ 5 r5)).trans (Touch.set (List.mem_singleton.2 rfl) _ 6 r6)⟩
theorem cls_8 {w : World} {f : Nat} {T : TypeId} {z0 z1 z2 z3 z4 z5 z6 z7 : Value} (h : w.heap[f]? = some (.cells #[z0, z1, z2, z3, z4, z5, z6, z7] T)) :
    (w.cell? ⟨f, 0, none⟩ = some z0 ∧ w.cell? ⟨f, 1, none⟩ = some z1 ∧ w.cell? ⟨f, 2, none⟩ = some z2 ∧ w.cell? ⟨f, 3, none⟩ = some z3 ∧ w.cell? ⟨f, 4, none⟩ = some z4 ∧ w.cell? ⟨f, 5, none⟩ = some z5 ∧ w.cell? ⟨f, 6, none⟩ = some z6 ∧ w.cell? ⟨f, 7, none⟩ = some z7) ∧ (w.frozen? ⟨f, 0, none⟩ = false ∧ w.frozen? ⟨f, 1, none⟩ = false ∧ w.frozen? ⟨f, 2, none⟩ = false ∧ w.frozen? ⟨f, 3, none⟩ = false ∧ w.frozen? ⟨f, 4, none⟩ = false ∧ w.frozen? ⟨f, 5, none⟩ = false ∧ w.frozen? ⟨f, 6, none⟩ = false ∧ w.frozen? ⟨f, 7, none⟩ = false) :=
  ⟨⟨blk_cell h 0 rfl, blk_cell h 1 rfl, blk_cell h 2 rfl, blk_cell h 3 rfl, blk_cell h 4 rfl, blk_cell h 5 rfl, blk_cell h 6 rfl, blk_cell h 7 rfl⟩, ⟨blk_frozen h 0, blk_frozen h 1, blk_frozen h 2, blk_frozen h 3, blk_frozen h 4, blk_frozen h 5, blk_frozen h 6, blk_frozen h 7⟩⟩
theorem stt_8 {w : World} {f : Nat} {T : TypeId} {z0 z1 z2 z3 z4 z5 z6 z7 : Value} (h : w.heap[f]? = some (.cells #[z0, z1, z2, z3, z4, z5, z6, z7] T)) (r0 r1 r2 r3 r4 r5 r6 r7 : Value) :
    ((((((((w.setCell ⟨f, 0, none⟩ r0).setCell ⟨f, 1, none⟩ r1).setCell ⟨f, 2, none⟩ r2).setCell ⟨f, 3, none⟩ r3).setCell ⟨f, 4, none⟩ r4).setCell ⟨f, 5, none⟩ r5).setCell ⟨f, 6, none⟩ r6).setCell ⟨f, 7, none⟩ r7).heap[f]? = some (.cells #[r0, r1, r2, r3, r4, r5, r6, r7] T) ∧ Touch [f] w ((((((((w.setCell ⟨f, 0, none⟩ r0).setCell ⟨f, 1, none⟩ r1).setCell ⟨f, 2, none⟩ r2).setCell ⟨f, 3, none⟩ r3).setCell ⟨f, 4, none⟩ r4).setCell ⟨f, 5, none⟩ r5).setCell ⟨f, 6, none⟩ r6).setCell ⟨f, 7, none⟩ r7) := by
  have h0 : (w.setCell ⟨f, 0, none⟩ r0).heap[f]? = some (.cells #[r0, z1, z2, z3, z4, z5, z6, z7] T) := blk_set h r0
  have h1 : ((w.setCell ⟨f, 0, none⟩ r0).setCell ⟨f, 1, none⟩ r1).heap[f]? = some (.cells #[r0, r1, z2, z3, z4, z5, z6, z7] T) := blk_set h0 r1
  have h2 : (((w.setCell ⟨f, 0, none⟩ r0).setCell ⟨f, 1, none⟩ r1).setCell ⟨f, 2, none⟩ r2).heap[f]? = some (.cells #[r0, r1, r2, z3, z4, z5, z6, z7] T) := blk_set h1 r2
  have h3 : ((((w.setCell ⟨f, 0, none⟩ r0).setCell ⟨f, 1, none⟩ r1).setCell ⟨f, 2, none⟩ r2).setCell ⟨f, 3, none⟩ r3).heap[f]? = some (.cells #[r0, r1, r2, r3, z4, z5, z6, z7] T) := blk_set h2 r3
  have h4 : (((((w.setCell ⟨f, 0, none⟩ r0).setCell ⟨f, 1, none⟩ r1).setCell ⟨f, 2, none⟩ r2).setCell ⟨f, 3, none⟩ r3).setCell ⟨f, 4, none⟩ r4).heap[f]? = some (.cells #[r0, r1, r2, r3, r4, z5, z6, z7] T) := blk_set h3 r4
  have h5 : ((((((w.setCell ⟨f, 0, none⟩ r0).setCell ⟨f, 1, none⟩ r1).setCell ⟨f, 2, none⟩ r2).setCell ⟨f, 3, none⟩ r3).setCell ⟨f, 4, none⟩ r4).setCell ⟨f, 5, none⟩ r5).heap[f]? = some (.cells #[r0, r1, r2, r3, r4, r5, z6, z7] T) := blk_set h4 r5
  have h6 : (((((((w.setCell ⟨f, 0, none⟩ r0).setCell ⟨f, 1, none⟩ r1).setCell ⟨f, 2, none⟩ r2).setCell ⟨f, 3, none⟩ r3).setCell ⟨f, 4, none⟩ r4).setCell ⟨f, 5, none⟩ r5).setCell ⟨f, 6, none⟩ r6).heap[f]? = some (.cells #[r0, r1, r2, r3, r4, r5, r6, z7] T) := blk_set h5 r6
  have h7 : ((((((((w.setCell ⟨f, 0, none⟩ r0).setCell ⟨f, 1, none⟩ r1).setCell ⟨f, 2, none⟩ r2).setCell ⟨f, 3, none⟩ r3).setCell ⟨f, 4, none⟩ r4).setCell ⟨f, 5, none⟩ r5).setCell ⟨f, 6, none⟩ r6).setCell ⟨f, 7, none⟩ r7).heap[f]? = some (.cells #[r0, r1, r2, r3, r4, r5, r6, r7] T) := blk_set h6 r7
  exact ⟨h7, (((((((Touch.set (List.mem_singleton.2 rfl) w 0 r0).trans (Touch.set (List.mem_singleton.2 rfl) _ 1 r1)).trans (Touch.set (List.mem_singleton.2 rfl) _ 2 r2)).trans (Touch.set (List.mem_singleton.2 rfl) _ 3 r3)).trans (Touch.set (List.mem_singleton.2 rfl) _ 4 r4)).trans (Touch.set (List.mem_singleton.2 rfl) _ 5 r5)).trans (Touch.set (List.mem_singleton.2 rfl) _ 6 r6)).trans (Touch.set (List.mem_singleton.2 rfl) _ 7 r7)⟩
theorem cls_9 {w : World} {f : Nat} {T : TypeId} {z0 z1 z2 z3 z4 z5 z6 z7 z8 : Value} (h : w.heap[f]? = some (.cells #[z0, z1, z2, z3, z4, z5, z6, z7, z8] T)) :
    (w.cell? ⟨f, 0, none⟩ = some z0 ∧ w.cell? ⟨f, 1, none⟩ = some z1 ∧ w.cell? ⟨f, 2, none⟩ = some z2 ∧ w.cell? ⟨f, 3, none⟩ = some z3 ∧ w.cell? ⟨f, 4, none⟩ = some z4 ∧ w.cell? ⟨f, 5, none⟩ = some z5 ∧ w.cell? ⟨f, 6, none⟩ = some z6 ∧ w.cell? ⟨f, 7, none⟩ = some z7 ∧ w.cell? ⟨f, 8, none⟩ = some z8) ∧ (w.frozen? ⟨f, 0, none⟩ = false ∧ w.frozen? ⟨f, 1, none⟩ = false ∧ w.frozen? ⟨f, 2, none⟩ = false ∧ w.frozen? ⟨f, 3, none⟩ = false ∧ w.frozen? ⟨f, 4, none⟩ = false ∧ w.frozen? ⟨f, 5, none⟩ = false ∧ w.frozen? ⟨f, 6, none⟩ = false ∧ w.frozen? ⟨f, 7, none⟩ = false ∧ w.frozen? ⟨f, 8, none⟩ = false) :=
  ⟨⟨blk_cell h 0 rfl, blk_cell h 1 rfl, blk_cell h 2 rfl, blk_cell h 3 rfl, blk_cell h 4 rfl, blk_cell h 5 rfl, blk_cell h 6 rfl, blk_cell h 7 rfl, blk_cell h 8 rfl⟩, ⟨blk_frozen h 0, blk_frozen h 1, blk_frozen h 2, blk_frozen h 3, blk_frozen h 4, blk_frozen h 5, blk_frozen h 6, blk_frozen h 7, blk_frozen h 8⟩⟩
theorem stt_9 {w : World} {f : Nat} {T : TypeId} {z0 z1 z2 z3 z4 z5 z6 z7 z8 : Value} (h : w.heap[f]? = some (.cells #[z0, z1, z2, z3, z4, z5, z6, z7, z8] T)) (r0 r1 r2 r3 r4 r5 r6 r7 r8 : Value) :
    (((((((((w.setCell ⟨f, 0, none⟩ r0).setCell ⟨f, 1, none⟩ r1).setCell ⟨f, 2, none⟩ r2).setCell ⟨f, 3, none⟩ r3).setCell ⟨f, 4, none⟩ r4).setCell ⟨f, 5, none⟩ r5).setCell ⟨f, 6, none⟩ r6).setCell ⟨f, 7, none⟩ r7).setCell ⟨f, 8, none⟩ r8).heap[f]? = some (.cells #[r0, r1, r2, r3, r4, r5, r6, r7, r8] T) ∧ Touch [f] w (((((((((w.setCell ⟨f, 0, none⟩ r0).setCell ⟨f, 1, none⟩ r1).setCell ⟨f, 2, none⟩ r2).setCell ⟨f, 3, none⟩ r3).setCell ⟨f, 4, none⟩ r4).setCell ⟨f, 5, none⟩ r5).setCell ⟨f, 6, none⟩ r6).setCell ⟨f, 7, none⟩ r7).setCell ⟨f, 8, none⟩ r8) := by
  have h0 : (w.setCell ⟨f, 0, none⟩ r0).heap[f]? = some (.cells #[r0, z1, z2, z3, z4, z5, z6, z7, z8] T) := blk_set h r0
  have h1 : ((w.setCell ⟨f, 0, none⟩ r0).setCell ⟨f, 1, none⟩ r1).heap[f]? = some (.cells #[r0, r1, z2, z3, z4, z5, z6, z7, z8] T) := blk_set h0 r1
  have h2 : (((w.setCell ⟨f, 0, none⟩ r0).setCell ⟨f, 1, none⟩ r1).setCell ⟨f, 2, none⟩ r2).heap[f]? = some (.cells #[r0, r1, r2, z3, z4, z5, z6, z7, z8] T) := blk_set h1 r2
  have h3 : ((((w.setCell ⟨f, 0, none⟩ r0).setCell ⟨f, 1, none⟩ r1).setCell ⟨f, 2, none⟩ r2).setCell ⟨f, 3, none⟩ r3).heap[f]? = some (.cells #[r0, r1, r2, r3, z4, z5, z6, z7, z8] T) := blk_set h2 r3
  have h4 : (((((w.setCell ⟨f, 0, none⟩ r0).setCell ⟨f, 1, none⟩ r1).setCell ⟨f, 2, none⟩ r2).setCell ⟨f, 3, none⟩ r3).setCell ⟨f, 4, none⟩ r4).heap[f]? = some (.cells #[r0, r1, r2, r3, r4, z5, z6, z7, z8] T) := blk_set h3 r4
  have h5 : ((((((w.setCell ⟨f, 0, none⟩ r0).setCell ⟨f, 1, none⟩ r1).setCell ⟨f, 2, none⟩ r2).setCell ⟨f, 3, none⟩ r3).setCell ⟨f, 4, none⟩ r4).setCell ⟨f, 5, none⟩ r5).heap[f]? = some (.cells #[r0, r1, r2, r3, r4, r5, z6, z7, z8] T) := blk_set h4 r5
  have h6 : (((((((w.setCell ⟨f, 0, none⟩ r0).setCell ⟨f, 1, none⟩ r1).setCell ⟨f, 2, none⟩ r2).setCell ⟨f, 3, none⟩ r3).setCell ⟨f, 4, none⟩ r4).setCell ⟨f, 5, none⟩ r5).setCell ⟨f, 6, none⟩ r6).heap[f]? = some (.cells #[r0, r1, r2, r3, r4, r5, r6, z7, z8] T) := blk_set h5 r6
  have h7 : ((((((((w.setCell ⟨f, 0, none⟩ r0).setCell ⟨f, 1, none⟩ r1).setCell ⟨f, 2, none⟩ r2).setCell ⟨f, 3, none⟩ r3).setCell ⟨f, 4, none⟩ r4).setCell ⟨f, 5, none⟩ r5).setCell ⟨f, 6, none⟩ r6).setCell ⟨f, 7, none⟩ r7).heap[f]? = some (.cells #[r0, r1, r2, r3, r4, r5, r6, r7, z8] T) := blk_set h6 r7
  have h8 : (((((((((w.setCell ⟨f, 0, none⟩ r0).setCell ⟨f, 1, none⟩ r1).setCell ⟨f, 2, none⟩ r2).setCell ⟨f, 3, none⟩ r3).setCell ⟨f, 4, none⟩ r4).setCell ⟨f, 5, none⟩ r5).setCell ⟨f, 6, none⟩ r6).setCell ⟨f, 7, none⟩ r7).setCell ⟨f, 8, none⟩ r8).heap[f]? = some (.cells #[r0, r1, r2, r3, r4, r5, r6, r7, r8] T) := blk_set h7 r8
  exact ⟨h8, ((((((((Touch.set (List.mem_singleton.2 rfl) w 0 r0).trans (Touch.set (List.mem_singleton.2 rfl) _ 1 r1)).trans (Touch.set (List.mem_singleton.2 rfl) _ 2 r2)).trans (Touch.set (List.mem_singleton.2 rfl) _ 3 r3)).trans (Touch.set (List.mem_singleton.2 rfl) _ 4 r4)).trans (Touch.set (List.mem_singleton.2 rfl) _ 5 r5)).trans (Touch.set (List.mem_singleton.2 rfl) _ 6 r6)).trans (Touch.set (List.mem_singleton.2 rfl) _ 7 r7)).trans (Touch.set (List.mem_singleton.2 rfl) _ 8 r8)⟩
theorem cls_10 {w : World} {f : Nat} {T : TypeId} {z0 z1 z2 z3 z4 z5 z6 z7 z8 z9 : Value} (h : w.heap[f]? = some (.cells #[z0, z1, z2, z3, z4, z5, z6, z7, z8, z9] T)) :
    (w.cell? ⟨f, 0, none⟩ = some z0 ∧ w.cell? ⟨f, 1, none⟩ = some z1 ∧ w.cell? ⟨f, 2, none⟩ = some z2 ∧ w.cell? ⟨f, 3, none⟩ = some z3 ∧ w.cell? ⟨f, 4, none⟩ = some z4 ∧ w.cell? ⟨f, 5, none⟩ = some z5 ∧ w.cell? ⟨f, 6, none⟩ = some z6 ∧ w.cell? ⟨f, 7, none⟩ = some z7 ∧ w.cell? ⟨f, 8, none⟩ = some z8 ∧ w.cell? ⟨f, 9, none⟩ = some z9) ∧ (w.frozen? ⟨f, 0, none⟩ = false ∧ w.frozen? ⟨f, 1, none⟩ = false ∧ w.frozen? ⟨f, 2, none⟩ = false ∧ w.frozen? ⟨f, 3, none⟩ = false ∧ w.frozen? ⟨f, 4, none⟩ = false ∧ w.frozen? ⟨f, 5, none⟩ = false ∧ w.frozen? ⟨f, 6, none⟩ = false ∧ w.frozen? ⟨f, 7, none⟩ = false ∧ w.frozen? ⟨f, 8, none⟩ = false ∧ w.frozen? ⟨f, 9, none⟩ = false) :=
  ⟨⟨blk_cell h 0 rfl, blk_cell h 1 rfl, blk_cell h 2 rfl, blk_cell h 3 rfl, blk_cell h 4 rfl, blk_cell h 5 rfl, blk_cell h 6 rfl, blk_cell h 7 rfl, blk_cell h 8 rfl, blk_cell h 9 rfl⟩, ⟨blk_frozen h 0, blk_frozen h 1, blk_frozen h 2, blk_frozen h 3, blk_frozen h 4, blk_frozen h 5, blk_frozen h 6, blk_frozen h 7, blk_frozen h 8, blk_frozen h 9⟩⟩
theorem stt_10 {w : World} {f : Nat} {T : TypeId} {z0 z1 z2 z3 z4 z5 z6 z7 z8 z9 : Value} (h : w.heap[f]? = some (.cells #[z0, z1, z2, z3, z4, z5, z6, z7, z8, z9] T)) (r0 r1 r2 r3 r4 r5 r6 r7 r8 r9 : Value) :
    ((((((((((w.setCell ⟨f, 0, none⟩ r0).setCell ⟨f, 1, none⟩ r1).setCell ⟨f, 2, none⟩ r2).setCell ⟨f, 3, none⟩ r3).setCell ⟨f, 4, none⟩ r4).setCell ⟨f, 5, none⟩ r5).setCell ⟨f, 6, none⟩ r6).setCell ⟨f, 7, none⟩ r7).setCell ⟨f, 8, none⟩ r8).setCell ⟨f, 9, none⟩ r9).heap[f]? = some (.cells #[r0, r1, r2, r3, r4, r5, r6, r7, r8, r9] T) ∧ Touch [f] w ((((((((((w.setCell ⟨f, 0, none⟩ r0).setCell ⟨f, 1, none⟩ r1).setCell ⟨f, 2, none⟩ r2).setCell ⟨f, 3, none⟩ r3).setCell ⟨f, 4, none⟩ r4).setCell ⟨f, 5, none⟩ r5).setCell ⟨f, 6, none⟩ r6).setCell ⟨f, 7, none⟩ r7).setCell ⟨f, 8, none⟩ r8).setCell ⟨f, 9, none⟩ r9) := by
  have h0 : (w.setCell ⟨f, 0, none⟩ r0).heap[f]? = some (.cells #[r0, z1, z2, z3, z4, z5, z6, z7, z8, z9] T) := blk_set h r0
  have h1 : ((w.setCell ⟨f, 0, none⟩ r0).setCell ⟨f, 1, none⟩ r1).heap[f]? = some (.cells #[r0, r1, z2, z3, z4, z5, z6, z7, z8, z9] T) := blk_set h0 r1
  have h2 : (((w.setCell ⟨f, 0, none⟩ r0).setCell ⟨f, 1, none⟩ r1).setCell ⟨f, 2, none⟩ r2).heap[f]? = some (.cells #[r0, r1, r2, z3, z4, z5, z6, z7, z8, z9] T) := blk_set h1 r2
  have h3 : ((((w.setCell ⟨f, 0, none⟩ r0).setCell ⟨f, 1, none⟩ r1).setCell ⟨f, 2, none⟩ r2).setCell ⟨f, 3, none⟩ r3).heap[f]? = some (.cells #[r0, r1, r2, r3, z4, z5, z6, z7, z8, z9] T) := blk_set h2 r3
  have h4 : (((((w.setCell ⟨f, 0, none⟩ r0).setCell ⟨f, 1, none⟩ r1).setCell ⟨f, 2, none⟩ r2).setCell ⟨f, 3, none⟩ r3).setCell ⟨f, 4, none⟩ r4).heap[f]? = some (.cells #[r0, r1, r2, r3, r4, z5, z6, z7, z8, z9] T) := blk_set h3 r4
  have h5 : ((((((w.setCell ⟨f, 0, none⟩ r0).setCell ⟨f, 1, none⟩ r1).setCell ⟨f, 2, none⟩ r2).setCell ⟨f, 3, none⟩ r3).setCell ⟨f, 4, none⟩ r4).setCell ⟨f, 5, none⟩ r5).heap[f]? = some (.cells #[r0, r1, r2, r3, r4, r5, z6, z7, z8, z9] T) := blk_set h4 r5
  have h6 : (((((((w.setCell ⟨f, 0, none⟩ r0).setCell ⟨f, 1, none⟩ r1).setCell ⟨f, 2, none⟩ r2).setCell ⟨f, 3, none⟩ r3).setCell ⟨f, 4, none⟩ r4).setCell ⟨f, 5, none⟩ r5).setCell ⟨f, 6, none⟩ r6).heap[f]? = some (.cells #[r0, r1, r2, r3, r4, r5, r6, z7, z8, z9] T) := blk_set h5 r6
  have h7 : ((((((((w.setCell ⟨f, 0, none⟩ r0).setCell ⟨f, 1, none⟩ r1).setCell ⟨f, 2, none⟩ r2).setCell ⟨f, 3, none⟩ r3).setCell ⟨f, 4, none⟩ r4).setCell ⟨f, 5, none⟩ r5).setCell ⟨f, 6, none⟩ r6).setCell ⟨f, 7, none⟩ r7).heap[f]? = some (.cells #[r0, r1, r2, r3, r4, r5, r6, r7, z8, z9] T) := blk_set h6 r7
  have h8 : (((((((((w.setCell ⟨f, 0, none⟩ r0).setCell ⟨f, 1, none⟩ r1).setCell ⟨f, 2, none⟩ r2).setCell ⟨f, 3, none⟩ r3).setCell ⟨f, 4, none⟩ r4).setCell ⟨f, 5, none⟩ r5).setCell ⟨f, 6, none⟩ r6).setCell ⟨f, 7, none⟩ r7).setCell ⟨f, 8, none⟩ r8).heap[f]? = some (.cells #[r0, r1, r2, r3, r4, r5, r6, r7, r8, z9] T) := blk_set h7 r8
  have h9 : ((((((((((w.setCell ⟨f, 0, none⟩ r0).setCell ⟨f, 1, none⟩ r1).setCell ⟨f, 2, none⟩ r2).setCell ⟨f, 3, none⟩ r3).setCell ⟨f, 4, none⟩ r4).setCell ⟨f, 5, none⟩ r5).setCell ⟨f, 6, none⟩ r6).setCell ⟨f, 7, none⟩ r7).setCell ⟨f, 8, none⟩ r8).setCell ⟨f, 9, none⟩ r9).heap[f]? = some (.cells #[r0, r1, r2, r3, r4, r5, r6, r7, r8, r9] T) := blk_set h8 r9
  exact ⟨h9, (((((((((Touch.set (List.mem_singleton.2 rfl) w 0 r0).trans (Touch.set (List.mem_singleton.2 rfl) _ 1 r1)).trans (Touch.set (List.mem_singleton.2 rfl) _ 2 r2)).trans (Touch.set (List.mem_singleton.2 rfl) _ 3 r3)).trans (Touch.set (List.mem_singleton.2 rfl) _ 4 r4)).trans (Touch.set (List.mem_singleton.2 rfl) _ 5 r5)).trans (Touch.set (List.mem_singleton.2 rfl) _ 6 r6)).trans (Touch.set (List.mem_singleton.2 rfl) _ 7 r7)).trans (Touch.set (List.mem_singleton.2 rfl) _ 8 r8)).trans (Touch.set (List.mem_singleton.2 rfl) _ 9 r9)⟩
theorem cls_11 {w : World} {f : Nat} {T : TypeId} {z0 z1 z2 z3 z4 z5 z6 z7 z8 z9 z10 : Value} (h : w.heap[f]? = some (.cells #[z0, z1, z2, z3, z4, z5, z6, z7, z8, z9, z10] T)) :
    (w.cell? ⟨f, 0, none⟩ = some z0 ∧ w.cell? ⟨f, 1, none⟩ = some z1 ∧ w.cell? ⟨f, 2, none⟩ = some z2 ∧ w.cell? ⟨f, 3, none⟩ = some z3 ∧ w.cell? ⟨f, 4, none⟩ = some z4 ∧ w.cell? ⟨f, 5, none⟩ = some z5 ∧ w.cell? ⟨f, 6, none⟩ = some z6 ∧ w.cell? ⟨f, 7, none⟩ = some z7 ∧ w.cell? ⟨f, 8, none⟩ = some z8 ∧ w.cell? ⟨f, 9, none⟩ = some z9 ∧ w.cell? ⟨f, 10, none⟩ = some z10) ∧ (w.frozen? ⟨f, 0, none⟩ = false ∧ w.frozen? ⟨f, 1, none⟩ = false ∧ w.frozen? ⟨f, 2, none⟩ = false ∧ w.frozen? ⟨f, 3, none⟩ = false ∧ w.frozen? ⟨f, 4, none⟩ = false ∧ w.frozen? ⟨f, 5, none⟩ = false ∧ w.frozen? ⟨f, 6, none⟩ = false ∧ w.frozen? ⟨f, 7, none⟩ = false ∧ w.frozen? ⟨f, 8, none⟩ = false ∧ w.frozen? ⟨f, 9, none⟩ = false ∧ w.frozen? ⟨f, 10, none⟩ = false) :=
  ⟨⟨blk_cell h 0 rfl, blk_cell h 1 rfl, blk_cell h 2 rfl, blk_cell h 3 rfl, blk_cell h 4 rfl, blk_cell h 5 rfl, blk_cell h 6 rfl, blk_cell h 7 rfl, blk_cell h 8 rfl, blk_cell h 9 rfl, blk_cell h 10 rfl⟩, ⟨blk_frozen h 0, blk_frozen h 1, blk_frozen h 2, blk_frozen h 3, blk_frozen h 4, blk_frozen h 5, blk_frozen h 6, blk_frozen h 7, blk_frozen h 8, blk_frozen h 9, blk_frozen h 10⟩⟩
theorem stt_11 {w : World} {f : Nat} {T : TypeId} {z0 z1 z2 z3 z4 z5 z6 z7 z8 z9 z10 : Value} (h : w.heap[f]? = some (.cells #[z0, z1, z2, z3, z4, z5, z6, z7, z8, z9, z10] T)) (r0 r1 r2 r3 r4 r5 r6 r7 r8 r9 r10 : Value) :
    (((((((((((w.setCell ⟨f, 0, none⟩ r0).setCell ⟨f, 1, none⟩ r1).setCell ⟨f, 2, none⟩ r2).setCell ⟨f, 3, none⟩ r3).setCell ⟨f, 4, none⟩ r4).setCell ⟨f, 5, none⟩ r5).setCell ⟨f, 6, none⟩ r6).setCell ⟨f, 7, none⟩ r7).setCell ⟨f, 8, none⟩ r8).setCell ⟨f, 9, none⟩ r9).setCell ⟨f, 10, none⟩ r10).heap[f]? = some (.cells #[r0, r1, r2, r3, r4, r5, r6, r7, r8, r9, r10] T) ∧ Touch [f] w (((((((((((w.setCell ⟨f, 0, none⟩ r0).setCell ⟨f, 1, none⟩ r1).setCell ⟨f, 2, none⟩ r2).setCell ⟨f, 3, none⟩ r3).setCell ⟨f, 4, none⟩ r4).setCell ⟨f, 5, none⟩ r5).setCell ⟨f, 6, none⟩ r6).setCell ⟨f, 7, none⟩ r7).setCell ⟨f, 8, none⟩ r8).setCell ⟨f, 9, none⟩ r9).setCell ⟨f, 10, none⟩ r10) := by
  have h0 : (w.setCell ⟨f, 0, none⟩ r0).heap[f]? = some (.cells #[r0, z1, z2, z3, z4, z5, z6, z7, z8, z9, z10] T) := blk_set h r0
  have h1 : ((w.setCell ⟨f, 0, none⟩ r0).setCell ⟨f, 1, none⟩ r1).heap[f]? = some (.cells #[r0, r1, z2, z3, z4, z5, z6, z7, z8, z9, z10] T) := blk_set h0 r1
  have h2 : (((w.setCell ⟨f, 0, none⟩ r0).setCell ⟨f, 1, none⟩ r1).setCell ⟨f, 2, none⟩ r2).heap[f]? = some (.cells #[r0, r1, r2, z3, z4, z5, z6, z7, z8, z9, z10] T) := blk_set h1 r2
  have h3 : ((((w.setCell ⟨f, 0, none⟩ r0).setCell ⟨f, 1, none⟩ r1).setCell ⟨f, 2, none⟩ r2).setCell ⟨f, 3, none⟩ r3).heap[f]? = some (.cells #[r0, r1, r2, r3, z4, z5, z6, z7, z8, z9, z10] T) := blk_set h2 r3
  have h4 : (((((w.setCell ⟨f, 0, none⟩ r0).setCell ⟨f, 1, none⟩ r1).setCell ⟨f, 2, none⟩ r2).setCell ⟨f, 3, none⟩ r3).setCell ⟨f, 4, none⟩ r4).heap[f]? = some (.cells #[r0, r1, r2, r3, r4, z5, z6, z7, z8, z9, z10] T) := blk_set h3 r4
  have h5 : ((((((w.setCell ⟨f, 0, none⟩ r0).setCell ⟨f, 1, none⟩ r1).setCell ⟨f, 2, none⟩ r2).setCell ⟨f, 3, none⟩ r3).setCell ⟨f, 4, none⟩ r4).setCell ⟨f, 5, none⟩ r5).heap[f]? = some (.cells #[r0, r1, r2, r3, r4, r5, z6, z7, z8, z9, z10] T) := blk_set h4 r5
  have h6 : (((((((w.setCell ⟨f, 0, none⟩ r0).setCell ⟨f, 1, none⟩ r1).setCell ⟨f, 2, none⟩ r2).setCell ⟨f, 3, none⟩ r3).setCell ⟨f, 4, none⟩ r4).setCell ⟨f, 5, none⟩ r5).setCell ⟨f, 6, none⟩ r6).heap[f]? = some (.cells #[r0, r1, r2, r3, r4, r5, r6, z7, z8, z9, z10] T) := blk_set h5 r6
  have h7 : ((((((((w.setCell ⟨f, 0, none⟩ r0).setCell ⟨f, 1, none⟩ r1).setCell ⟨f, 2, none⟩ r2).setCell ⟨f, 3, none⟩ r3).setCell ⟨f, 4, none⟩ r4).setCell ⟨f, 5, none⟩ r5).setCell ⟨f, 6, none⟩ r6).setCell ⟨f, 7, none⟩ r7).heap[f]? = some (.cells #[r0, r1, r2, r3, r4, r5, r6, r7, z8, z9, z10] T) := blk_set h6 r7
  have h8 : (((((((((w.setCell ⟨f, 0, none⟩ r0).setCell ⟨f, 1, none⟩ r1).setCell ⟨f, 2, none⟩ r2).setCell ⟨f, 3, none⟩ r3).setCell ⟨f, 4, none⟩ r4).setCell ⟨f, 5, none⟩ r5).setCell ⟨f, 6, none⟩ r6).setCell ⟨f, 7, none⟩ r7).setCell ⟨f, 8, none⟩ r8).heap[f]? = some (.cells #[r0, r1, r2, r3, r4, r5, r6, r7, r8, z9, z10] T) := blk_set h7 r8
  have h9 : ((((((((((w.setCell ⟨f, 0, none⟩ r0).setCell ⟨f, 1, none⟩ r1).setCell ⟨f, 2, none⟩ r2).setCell ⟨f, 3, none⟩ r3).setCell ⟨f, 4, none⟩ r4).setCell ⟨f, 5, none⟩ r5).setCell ⟨f, 6, none⟩ r6).setCell ⟨f, 7, none⟩ r7).setCell ⟨f, 8, none⟩ r8).setCell ⟨f, 9, none⟩ r9).heap[f]? = some (.cells #[r0, r1, r2, r3, r4, r5, r6, r7, r8, r9, z10] T) := blk_set h8 r9
  have h10 : (((((((((((w.setCell ⟨f, 0, none⟩ r0).setCell ⟨f, 1, none⟩ r1).setCell ⟨f, 2, none⟩ r2).setCell ⟨f, 3, none⟩ r3).setCell ⟨f, 4, none⟩ r4).setCell ⟨f, 5, none⟩ r5).setCell ⟨f, 6, none⟩ r6).setCell ⟨f, 7, none⟩ r7).setCell ⟨f, 8, none⟩ r8).setCell ⟨f, 9, none⟩ r9).setCell ⟨f, 10, none⟩ r10).heap[f]? = some (.cells #[r0, r1, r2, r3, r4, r5, r6, r7, r8, r9, r10] T) := blk_set h9 r10
  exact ⟨h10, ((((((((((Touch.set (List.mem_singleton.2 rfl) w 0 r0).trans (Touch.set (List.mem_singleton.2 rfl) _ 1 r1)).trans (Touch.set (List.mem_singleton.2 rfl) _ 2 r2)).trans (Touch.set (List.mem_singleton.2 rfl) _ 3 r3)).trans (Touch.set (List.mem_singleton.2 rfl) _ 4 r4)).trans (Touch.set (List.mem_singleton.2 rfl) _ 5 r5)).trans (Touch.set (List.mem_singleton.2 rfl) _ 6 r6)).trans (Touch.set (List.mem_singleton.2 rfl) _ 7 r7)).trans (Touch.set (List.mem_singleton.2 rfl) _ 8 r8)).trans (Touch.set (List.mem_singleton.2 rfl) _ 9 r9)).trans (Touch.set (List.mem_singleton.2 rfl) _ 10 r10)⟩
theorem cls_12 {w : World} {f : Nat} {T : TypeId} {z0 z1 z2 z3 z4 z5 z6 z7 z8 z9 z10 z11 : Value} (h : w.heap[f]? = some (.cells #[z0, z1, z2, z3, z4, z5, z6, z7, z8, z9, z10, z11] T)) :
    (w.cell? ⟨f, 0, none⟩ = some z0 ∧ w.cell? ⟨f, 1, none⟩ = some z1 ∧ w.cell? ⟨f, 2, none⟩ = some z2 ∧ w.cell? ⟨f, 3, none⟩ = some z3 ∧ w.cell? ⟨f, 4, none⟩ = some z4 ∧ w.cell? ⟨f, 5, none⟩ = some z5 ∧ w.cell? ⟨f, 6, none⟩ = some z6 ∧ w.cell? ⟨f, 7, none⟩ = some z7 ∧ w.cell? ⟨f, 8, none⟩ = some z8 ∧ w.cell? ⟨f, 9, none⟩ = some z9 ∧ w.cell? ⟨f, 10, none⟩ = some z10 ∧ w.cell? ⟨f, 11, none⟩ = some z11) ∧ (w.frozen? ⟨f, 0, none⟩ = false ∧ w.frozen? ⟨f, 1, none⟩ = false ∧ w.frozen? ⟨f, 2, none⟩ = false ∧ w.frozen? ⟨f, 3, none⟩ = false ∧ w.frozen? ⟨f, 4, none⟩ = false ∧ w.frozen? ⟨f, 5, none⟩ = false ∧ w.frozen? ⟨f, 6, none⟩ = false ∧ w.frozen? ⟨f, 7, none⟩ = false ∧ w.frozen? ⟨f, 8, none⟩ = false ∧ w.frozen? ⟨f, 9, none⟩ = false ∧ w.frozen? ⟨f, 10, none⟩ = false ∧ w.frozen? ⟨f, 11, none⟩ = false) :=
  ⟨⟨blk_cell h 0 rfl, blk_cell h 1 rfl, blk_cell h 2 rfl, blk_cell h 3 rfl, blk_cell h 4 rfl, blk_cell h 5 rfl, blk_cell h 6 rfl, blk_cell h 7 rfl, blk_cell h 8 rfl, blk_cell h 9 rfl, blk_cell h 10 rfl, blk_cell h 11 rfl⟩, ⟨blk_frozen h 0, blk_frozen h 1, blk_frozen h 2, blk_frozen h 3, blk_frozen h 4, blk_frozen h 5, blk_frozen h 6, blk_frozen h 7, blk_frozen h 8, blk_frozen h 9, blk_frozen h 10, blk_frozen h 11⟩⟩
theorem stt_12 {w : World} {f : Nat} {T : TypeId} {z0 z1 z2 z3 z4 z5 z6 z7 z8 z9 z10 z11 : Value} (h : w.heap[f]? = some (.cells #[z0, z1, z2, z3, z4, z5, z6, z7, z8, z9, z10, z11] T)) (r0 r1 r2 r3 r4 r5 r6 r7 r8 r9 r10 r11 : Value) :
    ((((((((((((w.setCell ⟨f, 0, none⟩ r0).setCell ⟨f, 1, none⟩ r1).setCell ⟨f, 2, none⟩ r2).setCell ⟨f, 3, none⟩ r3).setCell ⟨f, 4, none⟩ r4).setCell ⟨f, 5, none⟩ r5).setCell ⟨f, 6, none⟩ r6).setCell ⟨f, 7, none⟩ r7).setCell ⟨f, 8, none⟩ r8).setCell ⟨f, 9, none⟩ r9).setCell ⟨f, 10, none⟩ r10).setCell ⟨f, 11, none⟩ r11).heap[f]? = some (.cells #[r0, r1, r2, r3, r4, r5, r6, r7, r8, r9, r10, r11] T) ∧ Touch [f] w ((((((((((((w.setCell ⟨f, 0, none⟩ r0).setCell ⟨f, 1, none⟩ r1).setCell ⟨f, 2, none⟩ r2).setCell ⟨f, 3, none⟩ r3).setCell ⟨f, 4, none⟩ r4).setCell ⟨f, 5, none⟩ r5).setCell ⟨f, 6, none⟩ r6).setCell ⟨f, 7, none⟩ r7).setCell ⟨f, 8, none⟩ r8).setCell ⟨f, 9, none⟩ r9).setCell ⟨f, 10, none⟩ r10).setCell ⟨f, 11, none⟩ r11) := by
  have h0 : (w.setCell ⟨f, 0, none⟩ r0).heap[f]? = some (.cells #[r0, z1, z2, z3, z4, z5, z6, z7, z8, z9, z10, z11] T) := blk_set h r0
  have h1 : ((w.setCell ⟨f, 0, none⟩ r0).setCell ⟨f, 1, none⟩ r1).heap[f]? = some (.cells #[r0, r1, z2, z3, z4, z5, z6, z7, z8, z9, z10, z11] T) := blk_set h0 r1
  have h2 : (((w.setCell ⟨f, 0, none⟩ r0).setCell ⟨f, 1, none⟩ r1).setCell ⟨f, 2, none⟩ r2).heap[f]? = some (.cells #[r0, r1, r2, z3, z4, z5, z6, z7, z8, z9, z10, z11] T) := blk_set h1 r2
  have h3 : ((((w.setCell ⟨f, 0, none⟩ r0).setCell ⟨f, 1, none⟩ r1).setCell ⟨f, 2, none⟩ r2).setCell ⟨f, 3, none⟩ r3).heap[f]? = some (.cells #[r0, r1, r2, r3, z4, z5, z6, z7, z8, z9, z10, z11] T) := blk_set h2 r3
  have h4 : (((((w.setCell ⟨f, 0, none⟩ r0).setCell ⟨f, 1, none⟩ r1).setCell ⟨f, 2, none⟩ r2).setCell ⟨f, 3, none⟩ r3).setCell ⟨f, 4, none⟩ r4).heap[f]? = some (.cells #[r0, r1, r2, r3, r4, z5, z6, z7, z8, z9, z10, z11] T) := blk_set h3 r4
  have h5 : ((((((w.setCell ⟨f, 0, none⟩ r0).setCell ⟨f, 1, none⟩ r1).setCell ⟨f, 2, none⟩ r2).setCell ⟨f, 3, none⟩ r3).setCell ⟨f, 4, none⟩ r4).setCell ⟨f, 5, none⟩ r5).heap[f]? = some (.cells #[r0, r1, r2, r3, r4, r5, z6, z7, z8, z9, z10, z11] T) := blk_set h4 r5
  have h6 : (((((((w.setCell ⟨f, 0, none⟩ r0).setCell ⟨f, 1, none⟩ r1).setCell ⟨f, 2, none⟩ r2).setCell ⟨f, 3, none⟩ r3).setCell ⟨f, 4, none⟩ r4).setCell ⟨f, 5, none⟩ r5).setCell ⟨f, 6, none⟩ r6).heap[f]? = some (.cells #[r0, r1, r2, r3, r4, r5, r6, z7, z8, z9, z10, z11] T) := blk_set h5 r6
  have h7 : ((((((((w.setCell ⟨f, 0, none⟩ r0).setCell ⟨f, 1, none⟩ r1).setCell ⟨f, 2, none⟩ r2).setCell ⟨f, 3, none⟩ r3).setCell ⟨f, 4, none⟩ r4).setCell ⟨f, 5, none⟩ r5).setCell ⟨f, 6, none⟩ r6).setCell ⟨f, 7, none⟩ r7).heap[f]? = some (.cells #[r0, r1, r2, r3, r4, r5, r6, r7, z8, z9, z10, z11] T) := blk_set h6 r7
  have h8 : (((((((((w.setCell ⟨f, 0, none⟩ r0).setCell ⟨f, 1, none⟩ r1).setCell ⟨f, 2, none⟩ r2).setCell ⟨f, 3, none⟩ r3).setCell ⟨f, 4, none⟩ r4).setCell ⟨f, 5, none⟩ r5).setCell ⟨f, 6, none⟩ r6).setCell ⟨f, 7, none⟩ r7).setCell ⟨f, 8, none⟩ r8).heap[f]? = some (.cells #[r0, r1, r2, r3, r4, r5, r6, r7, r8, z9, z10, z11] T) := blk_set h7 r8
  have h9 : ((((((((((w.setCell ⟨f, 0, none⟩ r0).setCell ⟨f, 1, none⟩ r1).setCell ⟨f, 2, none⟩ r2).setCell ⟨f, 3, none⟩ r3).setCell ⟨f, 4, none⟩ r4).setCell ⟨f, 5, none⟩ r5).setCell ⟨f, 6, none⟩ r6).setCell ⟨f, 7, none⟩ r7).setCell ⟨f, 8, none⟩ r8).setCell ⟨f, 9, none⟩ r9).heap[f]? = some (.cells #[r0, r1, r2, r3, r4, r5, r6, r7, r8, r9, z10, z11] T) := blk_set h8 r9
  have h10 : (((((((((((w.setCell ⟨f, 0, none⟩ r0).setCell ⟨f, 1, none⟩ r1).setCell ⟨f, 2, none⟩ r2).setCell ⟨f, 3, none⟩ r3).setCell ⟨f, 4, none⟩ r4).setCell ⟨f, 5, none⟩ r5).setCell ⟨f, 6, none⟩ r6).setCell ⟨f, 7, none⟩ r7).setCell ⟨f, 8, none⟩ r8).setCell ⟨f, 9, none⟩ r9).setCell ⟨f, 10, none⟩ r10).heap[f]? = some (.cells #[r0, r1, r2, r3, r4, r5, r6, r7, r8, r9, r10, z11] T) := blk_set h9 r10
  have h11 : ((((((((((((w.setCell ⟨f, 0, none⟩ r0).setCell ⟨f, 1, none⟩ r1).setCell ⟨f, 2, none⟩ r2).setCell ⟨f, 3, none⟩ r3).setCell ⟨f, 4, none⟩ r4).setCell ⟨f, 5, none⟩ r5).setCell ⟨f, 6, none⟩ r6).setCell ⟨f, 7, none⟩ r7).setCell ⟨f, 8, none⟩ r8).setCell ⟨f, 9, none⟩ r9).setCell ⟨f, 10, none⟩ r10).setCell ⟨f, 11, none⟩ r11).heap[f]? = some (.cells #[r0, r1, r2, r3, r4, r5, r6, r7, r8, r9, r10, r11] T) := blk_set h10 r11
  exact ⟨h11, (((((((((((Touch.set (List.mem_singleton.2 rfl) w 0 r0).trans (Touch.set (List.mem_singleton.2 rfl) _ 1 r1)).trans (Touch.set (List.mem_singleton.2 rfl) _ 2 r2)).trans (Touch.set (List.mem_singleton.2 rfl) _ 3 r3)).trans (Touch.set (List.mem_singleton.2 rfl) _ 4 r4)).trans (Touch.set (List.mem_singleton.2 rfl) _ 5 r5)).trans (Touch.set (List.mem_singleton.2 rfl) _ 6 r6)).trans (Touch.set (List.mem_singleton.2 rfl) _ 7 r7)).trans (Touch.set (List.mem_singleton.2 rfl) _ 8 r8)).trans (Touch.set (List.mem_singleton.2 rfl) _ 9 r9)).trans (Touch.set (List.mem_singleton.2 rfl) _ 10 r10)).trans (Touch.set (List.mem_singleton.2 rfl) _ 11 r11)⟩
end Go.Proofs.YtjfmmingkciapaaDoor
/- The helpers of the exact statements over slices of bytes: a copy, a comparison, marks, and whether the marks are still there. -/
namespace Go.Proofs.YtjfmmingkciapaaDoor
open Go.ChangeShapes Go.WideShapes Go.ChangeAt Go.RowKit
set_option linter.unusedVariables false

theorem infoByteS : (Tryd.prog.info? 5).map (fun i => (i.zero, i.size, i.bytes)) = some (some (.int .u8 0), 1, 1) := by kernel_rfl

/-- What the helper that marks writes. -/
def marksByteS (k : Int) (n : Nat) : List Int := (List.range n).map fun (i : Nat) => (k + (i : Int)) % 256
theorem marksByteS_length (k : Int) (n : Nat) : (marksByteS k n).length = n := by simp [marksByteS]
theorem marksByteS_at (k : Int) (n i : Nat) (h : i < (marksByteS k n).length) : (marksByteS k n)[i] = (k + (i : Int)) % 256 := by simp [marksByteS]
theorem marksByteS_wf (k : Int) (n : Nat) (hk0 : 0 ≤ k) (hk1 : k ≤ 1099511627776000) (hn : n ≤ 1099511627776) : ∀ x ∈ marksByteS k n, (Lit.int .u8 x).wf = true := by
  intro x hx
  simp only [marksByteS, List.mem_map] at hx
  obtain ⟨i, hi, rfl⟩ := hx
  have := List.mem_range.1 hi
  exact wf_u8 (by omega) (by omega)

end Go.Proofs.YtjfmmingkciapaaDoor
/- A slice written out as a literal is the call's own. No condition. -/
namespace Go.Proofs.YtjfmmingkciapaaDoor
open Go.ChangeShapes Go.WideShapes Go.ChangeAt Go.RowKit
set_option linter.unusedVariables false

theorem Own.lit (E : TypeId) (w : World) (xs : List Int) (hn : ∀ x ∈ xs, (Lit.int .i64 x).wf = true) (hl : xs.length ≤ maxLen) : Own E .i64 (w.alloc (.cells (xs.map (Value.int .i64)).toArray E)) w.heap.size (w.heap.size + 1) (.slice (some ⟨w.heap.size, 0, none⟩) xs.length xs.length) xs :=
  ⟨by simpa using World.ownsRow_lit (base := w.heap.size) (e := E) (size := 1) w (xs.map (Value.int .i64)).toArray xs.length (Nat.le_refl _) hl (by simp), fun k hk => by
    have : w.heap.size = k := by simpa [Value.ownBlock] using hk
    omega, hn⟩
def validKey (s : Int) : Bool := decide (1 ≤ s ∧ s ≤ 2147483646)
theorem Row.cellAt {w : World} {hi n c : Nat} {a : Option Addr} {xs : List Int} (h : Row .i64 w hi (.slice a n c) xs) {k : Nat} {x : Int} (hx : xs[k]? = some x) :
    ∃ b off, a = some ⟨b, off, none⟩ ∧ b < hi ∧ b < w.heap.size ∧ w.cell? ⟨b, off + k, none⟩ = some (.int .i64 x) := by
  obtain ⟨hk, hv⟩ := List.getElem?_eq_some_iff.1 hx
  obtain ⟨a', c', e, _, _, _, h5⟩ := h.form
  injection e with e1 e2 e3
  subst e1
  obtain ⟨b, off, rfl, g1, g2, g3⟩ := h5 (by omega)
  refine ⟨b, off, rfl, g1, g2, ?_⟩
  rw [g3 k hk, List.getD_eq_getElem?_getD, hx]
  rfl
end Go.Proofs.YtjfmmingkciapaaDoor
/- What a struct by value that came in reads as: its cells, one by one, however its fields are nested. No condition; any program. -/
namespace Go.Proofs.YtjfmmingkciapaaDoor
open Go.ChangeShapes Go.WideShapes Go.ChangeAt Go.RowKit Go.Deep
set_option linter.unusedVariables false

/-- The cells of a type: where each lies, and its own type; none where one is neither a bool, an integer, a string nor a slice. -/
def flatT (P : Program) : Nat → TypeId → Option (List (Nat × TypeId))
  | 0, _ => none
  | n + 1, t => match P.underlying t with
    | some (.struct fs) => (fs.toList.mapM fun f => (flatT P n f.type).map fun l => l.map fun p => (f.offset + p.1, p.2)).map List.flatten
    | some .bool => some [(0, t)]
    | some (.int _) => some [(0, t)]
    | some .string => some [(0, t)]
    | some (.slice _) => some [(0, t)]
    | _ => none

theorem mapM_mem {α β : Type} {f : α → Option β} : ∀ {l : List α} {r : List β}, l.mapM f = some r → ∀ y ∈ r, ∃ (i : Nat) (a : α), l[i]? = some a ∧ f a = some y
  | [], r, h, y, hy => by simp at h; subst h; cases hy
  | a :: l, r, h, y, hy => by
    simp only [List.mapM_cons, Option.bind_eq_bind] at h
    cases hfa : f a with
    | none => simp [hfa] at h
    | some b =>
      rw [hfa] at h
      simp only [Option.bind_some] at h
      cases hl : l.mapM f with
      | none => simp [hl] at h
      | some bs =>
        rw [hl] at h
        simp at h
        subst h
        rcases List.mem_cons.1 hy with rfl | hy
        · exact ⟨0, a, rfl, hfa⟩
        · obtain ⟨i, x, hx, hfx⟩ := mapM_mem hl y hy
          exact ⟨i + 1, x, by simpa using hx, hfx⟩

section
variable {H : Type} {enc : TypeId × Value → H} {P : Program} {w : World} {base : Nat} {spare : Nat → Bool} {held : Bool}

theorem trod_flat : ∀ (n : Nat) {t : TypeId} {l : List (Nat × TypeId)}, flatT P n t = some l → ∀ {fuel : Nat} {cs : List Value} {x : DataW H × List MemPlace}, DataW.trod enc P w base spare held fuel t cs = some x →
    ∀ p ∈ l, ∃ (v : Value) (m : Nat) (y : DataW H × List MemPlace), cs[p.1]? = some v ∧ DataW.trod enc P w base spare held m p.2 [v] = some y
  | 0, t, l, h, _, _, _, _, _, _ => by simp [flatT] at h
  | n + 1, t, l, h, fuel, cs, x, hx, p, hp => by
    unfold flatT at h
    split at h
    · rename_i fs hs
      obtain ⟨xs, m, _, _, hl, hxl, hf⟩ := DataW.trod_struct hs hx
      cases hm : (fs.toList.mapM fun f => (flatT P n f.type).map fun l => l.map fun p => (f.offset + p.1, p.2)) with
      | none => simp [hm] at h
      | some ls =>
        rw [hm] at h
        simp only [Option.map_some, Option.some.injEq] at h
        subst h
        obtain ⟨l1, hl1, hp1⟩ := List.mem_flatten.1 hp
        obtain ⟨i, f, hi, hfl⟩ := mapM_mem hm l1 hl1
        cases hft : flatT P n f.type with
        | none => simp [hft] at hfl
        | some l2 =>
          rw [hft] at hfl
          simp only [Option.map_some, Option.some.injEq] at hfl
          subst hfl
          obtain ⟨q, hq, rfl⟩ := List.mem_map.1 hp1
          have hi2 : fs[i]? = some f := by simpa using hi
          have h1 := hf i f hi2
          have hil : i < xs.length := by rw [hxl]; exact (Array.getElem?_eq_some_iff.1 hi2).1
          rw [List.getElem?_eq_getElem hil] at h1
          obtain ⟨v, m2, y, hv, hy⟩ := trod_flat n hft h1 q hq
          refine ⟨v, m2, y, ?_, hy⟩
          rw [List.getElem?_take] at hv
          split at hv
          · rwa [List.getElem?_drop] at hv
          · cases hv
    · rename_i hs
      simp only [Option.some.injEq] at h
      subst h
      obtain rfl : p = (0, t) := by simpa using hp
      obtain ⟨b, rfl, _⟩ := DataW.trod_bool hs hx
      exact ⟨_, _, _, rfl, hx⟩
    · rename_i k hs
      simp only [Option.some.injEq] at h
      subst h
      obtain rfl : p = (0, t) := by simpa using hp
      obtain ⟨b, rfl, _⟩ := DataW.trod_int hs hx
      exact ⟨_, _, _, rfl, hx⟩
    · rename_i hs
      simp only [Option.some.injEq] at h
      subst h
      obtain rfl : p = (0, t) := by simpa using hp
      obtain ⟨b, rfl, _⟩ := DataW.trod_string hs hx
      exact ⟨_, _, _, rfl, hx⟩
    · rename_i e hs
      simp only [Option.some.injEq] at h
      subst h
      obtain rfl : p = (0, t) := by simpa using hp
      rcases DataW.trod_slice hs hx with ⟨rfl, _⟩ | ⟨a, len, cap, elems, rest, m, _, rfl, _⟩
      · exact ⟨_, _, _, rfl, hx⟩
      · exact ⟨_, _, _, rfl, hx⟩
    · cases h

/-- Each cell reads at its own type, in the order of the cells. -/
def Leaves (R : TypeId → Value → Prop) : List TypeId → List Value → Prop
  | [], [] => True
  | t :: ts, v :: vs => R t v ∧ Leaves R ts vs
  | _, _ => False
theorem leaves_of {R : TypeId → Value → Prop} : ∀ {ts : List TypeId} {vs : List Value}, vs.length = ts.length → (∀ (j : Nat) (t : TypeId), ts[j]? = some t → ∃ v, vs[j]? = some v ∧ R t v) → Leaves R ts vs
  | [], [], _, _ => trivial
  | t :: ts, [], h, _ => by simp at h
  | [], v :: vs, h, _ => by simp at h
  | t :: ts, v :: vs, h, hr => by
    refine ⟨?_, leaves_of (by simpa using h) (fun j u hj => by simpa using hr (j + 1) u (by simpa using hj))⟩
    obtain ⟨v', h1, h2⟩ := hr 0 t rfl
    simp at h1
    subst h1
    exact h2
/-- What is known of one cell of what came in. -/
def Leaf (enc : TypeId × Value → H) (P : Program) (w : World) (base : Nat) (spare : Nat → Bool) (held : Bool) (t : TypeId) (v : Value) : Prop := ∃ (m : Nat) (y : DataW H × List MemPlace), DataW.trod enc P w base spare held m t [v] = some y
theorem leaves_trod (n : Nat) {t : TypeId} {ts : List TypeId} (hf : flatT P n t = some (ts.mapIdx fun i u => (i, u))) (hC : P.cellsOf t = ts.length)
    {fuel : Nat} {cs : List Value} {x : DataW H × List MemPlace} (hl : cs.length = P.cellsOf t) (h : DataW.trod enc P w base spare held fuel t cs = some x) : Leaves (Leaf enc P w base spare held) ts cs := by
  refine leaves_of (hl.trans hC) (fun j u hj => ?_)
  have hm : (j, u) ∈ ts.mapIdx fun i u => (i, u) := by
    rw [List.mem_iff_getElem?]
    exact ⟨j, by rw [List.getElem?_mapIdx, hj]; rfl⟩
  obtain ⟨v, m, y, hv, hy⟩ := trod_flat n hf h (j, u) hm
  exact ⟨v, hv, m, y, hy⟩
theorem open_flat (n : Nat) {r : Reach} {b0 : Nat} {t : TypeId} {ts : List TypeId} {fs : Array Field} {v : Value} {d : DataW H} {p : List MemPlace} (hs : P.underlying t = some (.struct fs))
    (hf : flatT P n t = some (ts.mapIdx fun i u => (i, u))) (hC : P.cellsOf t = ts.length) (hv : Value.okWide P w r b0 t v) (h : DataW.Trod enc P w base spare held t v d p) :
    ∃ vs : List Value, v = .agg vs.toArray ∧ Leaves (Leaf enc P w base spare held) ts vs := by
  obtain ⟨cs, rfl, hsz⟩ := okWide_struct hs hv
  obtain ⟨fuel, hf2⟩ := h
  have hf3 : DataW.trod enc P w base spare held fuel t cs.toList = some (d, p) := hf2
  exact ⟨cs.toList, by simp, leaves_trod n hf hC (by simpa using hsz) hf3⟩
theorem Leaf.int {t : TypeId} {k : IntKind} {v : Value} (ht : P.underlying t = some (.int k)) (h : Leaf enc P w base spare held t v) : ∃ n, v = .int k n ∧ (Lit.int k n).wf = true := by
  obtain ⟨m, y, hy⟩ := h
  obtain ⟨n, h1, _, h3⟩ := DataW.trod_int ht hy
  exact ⟨n, by simpa using h1, h3⟩
theorem Leaf.bool {t : TypeId} {v : Value} (ht : P.underlying t = some .bool) (h : Leaf enc P w base spare held t v) : ∃ b, v = .bool b := by
  obtain ⟨m, y, hy⟩ := h
  obtain ⟨n, h1, _⟩ := DataW.trod_bool ht hy
  exact ⟨n, by simpa using h1⟩
end
end Go.Proofs.YtjfmmingkciapaaDoor
/- Strings of one byte, as the walks meet them. No condition. -/
namespace Go.Proofs.YtjfmmingkciapaaDoor
open Go.ChangeShapes Go.WideShapes Go.ChangeAt Go.RowKit
set_option linter.unusedVariables false

theorem ret_str {a b : ByteArray} (h : a = b) : Ending.returned (.string a) = .returned (.string b) := by rw [h]

theorem str_cons (x : Int) (c : UInt8) (l : List UInt8) (h : c = UInt8.ofNat x.toNat) : strOfNums [x] ++ ⟨l.toArray⟩ = ⟨(c :: l).toArray⟩ := by
  subst h
  apply ByteArray.ext
  simp [strOfNums]
end Go.Proofs.YtjfmmingkciapaaDoor
/- Contracts that end in 'e = .. and Below', as a law's walk takes them: the frame is carried from the law's own start. No condition. -/
namespace Go.Proofs.YtjfmmingkciapaaDoor
open Go.RowKit
set_option linter.unusedVariables false

/-- A call that turns nothing below a number leaves what held below it. -/
theorem absorb {P : Program} {f : FuncId} {args : Array Value} {w W : World} {r : Ending} (h : Calls P f args W fun e w' => e = r ∧ Below W.heap.size W w') (hb : Below w.heap.size w W) : Calls P f args W fun e w' => e = r ∧ Below w.heap.size w w' :=
  h.mono fun e w' he => ⟨he.1, hb.trans (he.2.mono hb.size)⟩
theorem bBelow {B : Nat} {w w' : World} (h : w = w') : Below B w w' := by rw [h]; exact Below.refl _ _
theorem as_bool {P : Program} {f : FuncId} {args : Array Value} {w W : World} {b c : Bool} (h : Calls P f args W fun e w' => e = .returned (.bool b) ∧ Below W.heap.size W w') (hb : Below w.heap.size w W) (e : b = c) : Calls P f args W fun e w' => e = .returned (.bool c) ∧ Below w.heap.size w w' := by
  subst e
  exact absorb h hb
theorem as_int {P : Program} {f : FuncId} {args : Array Value} {w W : World} {b c : Int} (h : Calls P f args W fun e w' => e = .returned (.int .i64 b) ∧ Below W.heap.size W w') (hb : Below w.heap.size w W) (e : b = c) : Calls P f args W fun e w' => e = .returned (.int .i64 c) ∧ Below w.heap.size w w' := by
  subst e
  exact absorb h hb
theorem as_str {P : Program} {f : FuncId} {args : Array Value} {w W : World} {b c : ByteArray} (h : Calls P f args W fun e w' => e = .returned (.string b) ∧ Below W.heap.size W w') (hb : Below w.heap.size w W) (e : b = c) : Calls P f args W fun e w' => e = .returned (.string c) ∧ Below w.heap.size w w' := by
  subst e
  exact absorb h hb
theorem as_val {P : Program} {f : FuncId} {args : Array Value} {w W : World} {b c : Value} (h : Calls P f args W fun e w' => e = .returned b ∧ Below W.heap.size W w') (hb : Below w.heap.size w W) (e : b = c) : Calls P f args W fun e w' => e = .returned c ∧ Below w.heap.size w w' := by
  subst e
  exact absorb h hb
end Go.Proofs.YtjfmmingkciapaaDoor
/- The place of the first element that a test holds at. No condition. -/
namespace Go.Proofs.YtjfmmingkciapaaDoor
set_option linter.unusedVariables false

def firstI {X : Type} (p : X → Bool) : List X → Int → Int
  | [], _ => -1
  | x :: t, i => if p x then i else firstI p t (i + 1)
theorem firstI_any {X : Type} (p : X → Bool) : ∀ (xs : List X) (n : Int), 0 ≤ n → (decide (0 ≤ firstI p xs n) = xs.any p)
  | [], n, h => by simp [firstI]
  | x :: xs, n, h => by
    unfold firstI
    cases hp : p x
    · simp only [Bool.false_eq_true, if_false, List.any_cons, hp, Bool.false_or]
      exact firstI_any p xs (n + 1) (by omega)
    · simp [hp, h]
end Go.Proofs.YtjfmmingkciapaaDoor
/- Whether a number stands in a list: Go's library at slices of integers, as it is instantiated here. No condition but the bounds of what came in. -/
namespace Go.Proofs.YtjfmmingkciapaaDoor
open Go.ChangeShapes Go.WideShapes Go.ChangeAt Go.RowKit
set_option linter.unusedVariables false

def hasK (ks : List Int) (x : Int) : Bool := ks.any fun y => decide (y = x)
theorem hasK_take {ks : List Int} {k : Nat} {y : Int} (h : ks[k]? = some y) (x : Int) : hasK (ks.take (k + 1)) x = (hasK (ks.take k) x || decide (y = x)) := by
  unfold hasK
  rw [List.take_add_one, h, List.any_append]
  simp
theorem hasK_at {ks : List Int} {k : Nat} {x : Int} (h : ks[k]? = some x) : hasK ks x = true := by
  unfold hasK
  rw [List.any_eq_true]
  exact ⟨x, List.mem_of_getElem? h, by simp⟩
set_option maxHeartbeats 1000000 in
theorem index_ints (w : World) (hi c : Nat) (A : Option Addr) (ks : List Int) (x : Int) (h : Row .i64 w hi (.slice A ks.length c) ks) :
    Calls Tryd.prog 47 #[.slice A ks.length c, .int .i64 x] w fun e w' => e = .returned (.int .i64 (firstI (fun y => decide (y = x)) ks 0)) ∧ w' = w := by
  obtain ⟨a', c', e0, h1, h2, -⟩ := id h.form
  injection e0 with e0 e1 e2
  subst e0 e2
  unfold maxLen at h2
  obtain ⟨R, hR⟩ : ∃ R, firstI (fun y => decide (y = x)) ks 0 = R := ⟨_, rfl⟩
  rw [hR]
  have HR := Lib.hid hR
  have H := Lib.hid h
  clear h hR
  go_enter Tryd.func47, Tryd.ntmps47
  go_wp2
  go_loop [8] (fun i => ∃ k : Nat, k ≤ ks.length ∧ i = .int .i64 (k : Int) ∧ Hid (R = firstI (fun y => decide (y = x)) (ks.drop k) (k : Int))) (fun i => ks.length - (intOf i).toNat)
  case atStart => exact ⟨0, Nat.zero_le _, rfl, HR.out.symm⟩
  case round =>
    obtain ⟨k, hk, rfl, HF⟩ := hrel
    by_cases hlt : k < ks.length
    · obtain ⟨y, hy⟩ : ∃ y, ks[k]? = some y := ⟨_, List.getElem?_eq_getElem hlt⟩
      have HS := Lib.hid (show R = if decide (y = x) then (k : Int) else firstI (fun y => decide (y = x)) (ks.drop (k + 1)) ((k + 1 : Nat) : Int) by
        rw [HF.out, List.drop_eq_getElem_cons hlt]
        rw [List.getElem?_eq_getElem hlt] at hy
        rw [Option.some.inj hy]
        rfl)
      obtain ⟨b, off, rfl, g1, g2, c0⟩ := Row.cellAt H.out hy
      clear hy HF
      by_cases hq : y = x
      · subst hq
        go_wp2
        go_ret
        exact ⟨ret_i (by rw [HS.out]; simp), rfl⟩
      · have hd : (x == y) = false := by rw [beq_eq_false_iff_ne]; omega
        have HQ := Lib.hid hq
        clear hq
        go_wp2
        refine ⟨⟨k + 1, by omega, by go_num, ?_⟩, by simp only [intOf]; omega⟩
        have h7 := HS.out
        rw [decide_eq_false HQ.out] at h7
        exact h7
    · go_wp2
      go_ret
      obtain rfl : k = ks.length := by omega
      have h7 := HF.out
      rw [List.drop_of_length_le (Nat.le_refl _)] at h7
      exact ⟨ret_i h7.symm, rfl⟩
theorem contains_ints (w : World) (hi c : Nat) (A : Option Addr) (ks : List Int) (x : Int) (h : Row .i64 w hi (.slice A ks.length c) ks) :
    Calls Tryd.prog 33 #[.slice A ks.length c, .int .i64 x] w fun e w' => e = .returned (.bool (hasK ks x)) ∧ w' = w := by
  have HI := Lib.hid (index_ints w hi c A ks x h)
  have HQ := Lib.hid (firstI_any (fun y => decide (y = x)) ks 0 (Int.le_refl _))
  clear h
  go_enter Tryd.func33, Tryd.ntmps33
  go_wp2_with fail
  refine HI.out.mono ?_
  rintro e u ⟨rfl, rfl⟩
  go_wp2
  go_ret
  exact ⟨ret_b HQ.out, rfl⟩
end Go.Proofs.YtjfmmingkciapaaDoor
/- Whether numbers stand in a strictly ascending order: the landed helper of chapter 8. No condition but the bounds of what came in. -/
namespace Go.Proofs.YtjfmmingkciapaaDoor
open Go.ChangeShapes Go.WideShapes Go.ChangeAt Go.RowKit
set_option linter.unusedVariables false

/-- A number stands above the one before it. -/
def ascAt (ks : List Int) (i : Nat) : Bool := i == 0 || match ks[i - 1]?, ks[i]? with
  | some j, some k => decide (j < k)
  | _, _ => true
def ascTo (ks : List Int) (n : Nat) : Bool := (List.range n).all (ascAt ks)
theorem ascTo_succ (ks : List Int) (n : Nat) : ascTo ks (n + 1) = (ascTo ks n && ascAt ks n) := by simp [ascTo, List.range_succ]
theorem ascTo_no {ks : List Int} {k n : Nat} (h : k < n) (hk : ascAt ks k = false) : ascTo ks n = false := by
  rw [ascTo, List.all_eq_false]
  exact ⟨k, List.mem_range.2 h, by simp [hk]⟩
theorem ascTo_less {ks : List Int} {k n : Nat} (h : n ≤ k) (hk : ascTo ks k = true) : ascTo ks n = true := by
  rw [ascTo, List.all_eq_true] at hk ⊢
  exact fun i hi => hk i (List.mem_range.2 (Nat.lt_of_lt_of_le (List.mem_range.1 hi) h))
set_option maxHeartbeats 2000000 in
theorem impl_isAscending (w : World) (hi c : Nat) (a : Option Addr) (ks : List Int) (h : Row .i64 w hi (.slice a ks.length c) ks) :
    Calls Tryd.prog 45 #[.slice a ks.length c] w fun e w' => e = .returned (.bool (ascTo ks ks.length)) ∧ Below w.heap.size w w' := by
  obtain ⟨a', c', e0, h1, h2, -⟩ := id h.form
  injection e0 with e0 e1 e2
  subst e0 e2
  unfold maxLen at h2
  have H := Lib.hid h
  clear h
  go_enter Tryd.func45, Tryd.ntmps45
  go_wp2
  go_loopw [3] (fun i wr => ∃ k : Nat, (k ≤ ks.length ∨ k = 1) ∧ 1 ≤ k ∧ i = .int .i64 (k : Int) ∧ Hid (ascTo ks k = true) ∧ Below w.heap.size w wr) (fun i _ => ks.length - (intOf i).toNat)
  case atStart => exact ⟨1, .inr rfl, Nat.le_refl _, rfl, Lib.hid (by rfl), Below.refl _ _⟩
  case round =>
    obtain ⟨k, hk, hk1, rfl, HS, hb⟩ := hrel
    by_cases hlt : k < ks.length
    · have hk0 : k - 1 < ks.length := by omega
      obtain ⟨x, hx⟩ : ∃ x, ks[k]? = some x := ⟨_, List.getElem?_eq_getElem hlt⟩
      obtain ⟨y, hy⟩ : ∃ y, ks[k - 1]? = some y := ⟨_, List.getElem?_eq_getElem hk0⟩
      have HA := Lib.hid (show ascAt ks k = decide (y < x) by
        unfold ascAt
        rw [hx, hy]
        simp
        omega)
      obtain ⟨b, off, rfl, g1, g2, c0⟩ := Row.cellAt H.out hx
      obtain ⟨b', off', e0, _, _, d0⟩ := Row.cellAt H.out hy
      injection e0 with e0
      injection e0 with e1 e2
      subst e1 e2
      have c1 := (hb.cell (p := ⟨b, off + k, none⟩) g2).trans c0
      have d1 := (hb.cell (p := ⟨b, off + (k - 1), none⟩) g2).trans d0
      have hw : IntKind.i64.wrap ((k : Int) - 1) = ((k - 1 : Nat) : Int) := by rw [IntKind.wrap_i64]; omega
      have hj1 : (0 : Int) ≤ ((k - 1 : Nat) : Int) := by omega
      have hj2 : ((k - 1 : Nat) : Int) < (ks.length : Int) := by omega
      clear hx hy c0 d0 hk0
      generalize k - 1 = j at hw hj1 hj2 d1
      have hbD := hb.drew
      by_cases hq : y < x
      · have hgt : decide (x ≤ y) = false := decide_eq_false (by omega)
        have HF := Lib.hid (show ascTo ks (k + 1) = true by rw [ascTo_succ, HS.out, HA.out, decide_eq_true hq]; rfl)
        clear hq
        go_wp2_with fail
        go_quiet (fail)
        go_wp2
        exact ⟨⟨k + 1, by omega, by omega, by go_num, HF.out, bDrew hb _⟩, by simp only [intOf]; omega⟩
      · have hgt : decide (x ≤ y) = true := decide_eq_true (by omega)
        have HF := Lib.hid (show ascTo ks ks.length = false from ascTo_no hlt (by rw [HA.out, decide_eq_false hq]))
        clear hq
        go_wp2_with fail
        go_quiet (fail)
        go_wp2
        go_ret
        exact ⟨ret_b HF.out.symm, bDrew hb _⟩
    · have HF := Lib.hid (show ascTo ks ks.length = true from ascTo_less (by omega) HS.out)
      go_wp2
      go_ret
      exact ⟨ret_b HF.out.symm, hb⟩
end Go.Proofs.YtjfmmingkciapaaDoor
/- A slice of structs that came in reads as a list. No condition; any program. -/
namespace Go.Proofs.YtjfmmingkciapaaDoor
open Go.ChangeShapes Go.WideShapes Go.ChangeAt Go.RowKit Go.Deep
set_option linter.unusedVariables false

theorem agg_inj {vs cs : List Value} (h : Value.agg vs.toArray = .agg cs.toArray) : vs = cs := by
  injection h with h
  simpa using h
theorem list_of {X : Type} {p : Nat → X → Prop} : ∀ n : Nat, (∀ i, i < n → ∃ x, p i x) → ∃ xs : List X, xs.length = n ∧ ∀ i x, xs[i]? = some x → p i x
  | 0, _ => ⟨[], rfl, fun i x h => by simp at h⟩
  | n + 1, h => by
    obtain ⟨xs, h1, h2⟩ := list_of n (fun i hi => h i (by omega))
    obtain ⟨x, hx⟩ := h n (by omega)
    refine ⟨xs ++ [x], by simp [h1], fun i y hy => ?_⟩
    rcases Nat.lt_or_ge i n with hi | hi
    · rw [List.getElem?_append_left (by omega)] at hy
      exact h2 i y hy
    · have hlt := (List.getElem?_eq_some_iff.1 hy).1
      have : i = n := by simp at hlt; omega
      subst this
      rw [List.getElem?_append_right (by omega), h1, Nat.sub_self] at hy
      simp at hy
      subst hy
      exact hx
theorem rowC_of {X : Type} {f : X → List Value} {wf : X → Prop} {s : Nat} {H : Type} {enc : TypeId × Value → H} {P : Program} {w : World} {base : Nat} {spare : Nat → Bool} {held : Bool} {fuel : Nat} {t e : TypeId} {ts : List TypeId} {a : Option Addr} {l c : Nat} {d : DataW H × List MemPlace}
    (n : Nat) (ht : P.underlying t = some (.slice e)) (hf : flatT P n e = some (ts.mapIdx fun i u => (i, u))) (hC : P.cellsOf e = ts.length) (hs : ts.length = s) (h0 : 0 < s) (hfl : ∀ x, (f x).length = s)
    (hX : ∀ vs, Leaves (Leaf enc P w base spare held) ts vs → ∃ x, vs = f x ∧ wf x) (h : DataW.trod enc P w base spare held fuel t (Value.cells (.slice a l c)).toList = some d) :
    ∃ xs : List X, l = xs.length ∧ RowC s w w.heap.size (.slice a l c) xs.length (xs.flatMap f) ∧ ∀ x ∈ xs, wf x := by
  rcases open_slice ht h with ⟨hcs, _⟩ | ⟨A, len, cap, m, k, D, Pl, hcs, _, hl, hm, hmm, _, hel⟩
  · simp [Value.cells] at hcs
    obtain ⟨rfl, rfl, rfl⟩ := hcs
    exact ⟨[], rfl, ⟨by simp, none, 0, rfl, Nat.le_refl _, by decide, fun _ => rfl, fun hp => by simp at hp⟩, fun x hx => by cases hx⟩
  · simp [Value.cells] at hcs
    obtain ⟨rfl, rfl, rfl⟩ := hcs
    have hlm : l ≤ m := by rw [hmm]; split <;> omega
    obtain ⟨xs, hxl, hxs⟩ := list_of (p := fun i x => wf x ∧ w.cells? base (A.add (i * s)) s = some (f x)) l (fun i hi => by
      obtain ⟨cs', h1, h2⟩ := hel i (by omega)
      rw [hC, hs] at h1
      obtain ⟨x, rfl, hw⟩ := hX cs' (leaves_trod n hf hC (by rw [hC, hs]; exact (World.cells?_some h1).2.1) h2)
      exact ⟨x, hw, h1⟩)
    refine ⟨xs, hxl.symm, ⟨flat_len hfl xs, some A, c, by rw [hxl], by omega, hm, (fun e => by cases e), fun hp => ?_⟩, fun x hx => ?_⟩
    · obtain ⟨b, off, spot⟩ := A
      have h1 := (hxs 0 _ (List.getElem?_eq_getElem hp)).2
      have hb := World.cells?_block h1 h0
      have hbk : ((⟨b, off, spot⟩ : Addr).add (0 * s)).block = b := by unfold Addr.add; split <;> rfl
      rw [hbk] at hb
      obtain ⟨_, hl1, hc1⟩ := World.cells?_some h1
      have h2 := hc1 0 h0
      obtain ⟨c0, hc0⟩ : ∃ c0, (f xs[0])[0]? = some c0 := ⟨_, List.getElem?_eq_getElem (by rw [hl1]; exact h0)⟩
      rw [hc0] at h2
      have hspot : spot = none := by simpa [Addr.add] using World.cell?_spot h2
      subst hspot
      refine ⟨b, off, rfl, hb, hb, fun j u hu => ?_⟩
      have hj : j < xs.length * s := by rw [← flat_len hfl xs]; exact (List.getElem?_eq_some_iff.1 hu).1
      have hjs : j / s < xs.length := Nat.div_lt_of_lt_mul (by rw [Nat.mul_comm]; exact hj)
      have hr : j % s < s := Nat.mod_lt _ h0
      have h4 := List.getElem?_eq_getElem hjs
      have h5 := flat_at hfl h4 hr
      have h6 := (World.cells?_some (hxs _ _ h4).2).2.2 (j % s) hr
      rw [add_plain, add_plain, ← h5, Nat.add_assoc, show j / s * s + j % s = j by rw [Nat.mul_comm]; exact Nat.div_add_mod j s, hu] at h6
      exact h6
    · obtain ⟨i, hi⟩ := List.mem_iff_getElem?.1 hx
      exact (hxs i x hi).1
end Go.Proofs.YtjfmmingkciapaaDoor
/- Data of any depth that came in, as cells. No condition; any program. -/
namespace Go.Proofs.YtjfmmingkciapaaDoor
open Go.ChangeShapes Go.WideShapes Go.ChangeAt Go.RowKit Go.Deep
set_option linter.unusedVariables false

theorem flatG_all {α : Type} {n : Nat} : ∀ {css : List (List α)}, (∀ c ∈ css, c.length = n) → css.flatten.length = css.length * n
  | [], _ => by simp
  | c :: css, h => by
    rw [List.flatten_cons, List.length_append, flatG_all (fun d hd => h d (List.mem_cons_of_mem _ hd)), h c (List.mem_cons_self ..), List.length_cons, Nat.add_mul]
    omega
theorem flatG_at {α : Type} {n : Nat} : ∀ {css : List (List α)} {i : Nat} {c : List α}, (∀ c ∈ css, c.length = n) → css[i]? = some c → ∀ {j : Nat}, j < n → css.flatten[i * n + j]? = c[j]?
  | [], i, c, _, hi, _, _ => by simp at hi
  | d :: css, 0, c, h, hi, j, hj => by
    simp only [List.getElem?_cons_zero, Option.some.injEq] at hi
    subst hi
    rw [List.flatten_cons, Nat.zero_mul, Nat.zero_add, List.getElem?_append_left (by rw [h d (List.mem_cons_self ..)]; exact hj)]
  | d :: css, i + 1, c, h, hi, j, hj => by
    simp only [List.getElem?_cons_succ] at hi
    have hd := h d (List.mem_cons_self ..)
    rw [List.flatten_cons, List.getElem?_append_right (by rw [hd, Nat.add_mul]; omega), hd, show (i + 1) * n + j - n = i * n + j by rw [Nat.add_mul]; omega]
    exact flatG_at (fun e he => h e (List.mem_cons_of_mem _ he)) hi hj
/-- A cell of a type: integers of 64 bits, bools, slices of such, however deep. -/
inductive HasT (P : Program) : TypeId → Cell → Prop
  | num {t : TypeId} {x : Int} (h : P.underlying t = some (.int .i64)) : HasT P t (.num x)
  | flag {t : TypeId} {b : Bool} (h : P.underlying t = some .bool) : HasT P t (.flag b)
  | row {t e : TypeId} {ts : List TypeId} {n : Nat} {es : List (List Cell)} (ht : P.underlying t = some (.slice e)) (hf : flatT P 9 e = some (ts.mapIdx fun i u => (i, u))) (hn : es.length = n) (hl : ∀ (i : Nat) (e' : List Cell), es[i]? = some e' → e'.length = ts.length)
      (h : ∀ (i : Nat) (e' : List Cell), es[i]? = some e' → ∀ (j : Nat) (t' : TypeId) (c : Cell), ts[j]? = some t' → e'[j]? = some c → HasT P t' c) : HasT P t (.row n es.flatten)
theorem HasT.num_inv {P : Program} {t : TypeId} {c : Cell} (ht : P.underlying t = some (.int .i64)) (h : HasT P t c) : ∃ x, c = .num x := by
  cases h with
  | num _ => exact ⟨_, rfl⟩
  | flag h => rw [ht] at h; cases h
  | row h => rw [ht] at h; cases h
theorem HasT.flag_inv {P : Program} {t : TypeId} {c : Cell} (ht : P.underlying t = some .bool) (h : HasT P t c) : ∃ x, c = .flag x := by
  cases h with
  | num h => rw [ht] at h; cases h
  | flag _ => exact ⟨_, rfl⟩
  | row h => rw [ht] at h; cases h
theorem mapIdx_inj {ts us : List TypeId} (h : (ts.mapIdx fun i u => (i, u)) = us.mapIdx fun i u => (i, u)) : ts = us := by
  have h2 := congrArg (List.map Prod.snd) h
  simpa [List.mapIdx_eq_zipIdx_map, Function.comp_def] using h2
theorem rows_list {X : Type} {f : X → List Cell} : ∀ {es : List (List Cell)}, (∀ (i : Nat) (e' : List Cell), es[i]? = some e' → ∃ x, e' = f x) → ∃ xs : List X, es.flatten = xs.flatMap f ∧ es.length = xs.length
  | [], _ => ⟨[], rfl, rfl⟩
  | e :: es, h => by
    obtain ⟨x, hx⟩ := h 0 e rfl
    obtain ⟨xs, h1, h2⟩ := rows_list (es := es) fun i e' hi => h (i + 1) e' (by simpa using hi)
    exact ⟨x :: xs, by rw [List.flatten_cons, List.flatMap_cons, h1, hx], by simp [h2]⟩
/-- A slice's cell, by what its elements come to. -/
theorem HasT.row_inv {P : Program} {X : Type} {f : X → List Cell} {t e : TypeId} {ts : List TypeId} {c : Cell} (ht : P.underlying t = some (.slice e)) (hf : flatT P 9 e = some (ts.mapIdx fun i u => (i, u)))
    (hU : ∀ e' : List Cell, e'.length = ts.length → (∀ (j : Nat) (t' : TypeId) (c : Cell), ts[j]? = some t' → e'[j]? = some c → HasT P t' c) → ∃ x, e' = f x) (h : HasT P t c) : ∃ xs : List X, c = rowF f xs := by
  cases h with
  | num h => rw [ht] at h; cases h
  | flag h => rw [ht] at h; cases h
  | row h1 h2 hn hl hh =>
    rw [ht] at h1
    obtain rfl : e = _ := by simpa using h1
    rw [hf] at h2
    obtain rfl := mapIdx_inj (Option.some.inj h2)
    obtain ⟨xs, g1, g2⟩ := rows_list fun i e' hi => hU e' (hl i e' hi) (hh i e' hi)
    refine ⟨xs, ?_⟩
    rw [← hn, g1, g2]
theorem one_cell {e : List Cell} (h : e.length = 1) : ∃ c, e = [c] := by
  match e, h with
  | [c], _ => exact ⟨c, rfl⟩
theorem num_elem {P : Program} {t : TypeId} (ht : P.underlying t = some (.int .i64)) : ∀ e' : List Cell, e'.length = [t].length → (∀ (j : Nat) (t' : TypeId) (c : Cell), [t][j]? = some t' → e'[j]? = some c → HasT P t' c) → ∃ x : Int, e' = [Cell.num x] := by
  intro e' hl h
  obtain ⟨c, rfl⟩ := one_cell hl
  obtain ⟨x, rfl⟩ := (h 0 t c rfl rfl).num_inv ht
  exact ⟨x, rfl⟩
theorem flag_elem {P : Program} {t : TypeId} (ht : P.underlying t = some .bool) : ∀ e' : List Cell, e'.length = [t].length → (∀ (j : Nat) (t' : TypeId) (c : Cell), [t][j]? = some t' → e'[j]? = some c → HasT P t' c) → ∃ x : Bool, e' = [Cell.flag x] := by
  intro e' hl h
  obtain ⟨c, rfl⟩ := one_cell hl
  obtain ⟨x, rfl⟩ := (h 0 t c rfl rfl).flag_inv ht
  exact ⟨x, rfl⟩
/-- A set of types that is closed. -/
def OkT (P : Program) (S : TypeId → Prop) : Prop := ∀ t, S t → P.underlying t = some (.int .i64) ∨ P.underlying t = some .bool ∨
  ∃ (e : TypeId) (ts : List TypeId), P.underlying t = some (.slice e) ∧ flatT P 9 e = some (ts.mapIdx fun i u => (i, u)) ∧ P.cellsOf e = ts.length ∧ 0 < ts.length ∧ ∀ u ∈ ts, S u
section
variable {H : Type} {enc : TypeId × Value → H} {P : Program} {w : World} {base : Nat} {spare : Nat → Bool} {held : Bool}
theorem trod_flatB : ∀ (n : Nat) {t : TypeId} {l : List (Nat × TypeId)}, flatT P n t = some l → ∀ {fuel : Nat} {cs : List Value} {x : DataW H × List MemPlace}, DataW.trod enc P w base spare held fuel t cs = some x →
    ∀ p ∈ l, ∃ (v : Value) (m : Nat) (y : DataW H × List MemPlace), cs[p.1]? = some v ∧ m ≤ fuel ∧ DataW.trod enc P w base spare held m p.2 [v] = some y
  | 0, t, l, h, _, _, _, _, _, _ => by simp [flatT] at h
  | n + 1, t, l, h, fuel, cs, x, hx, p, hp => by
    unfold flatT at h
    split at h
    · rename_i fs hs
      obtain ⟨xs, m, hfu, _, hl, hxl, hf⟩ := DataW.trod_struct hs hx
      cases hm : (fs.toList.mapM fun f => (flatT P n f.type).map fun l => l.map fun p => (f.offset + p.1, p.2)) with
      | none => simp [hm] at h
      | some ls =>
        rw [hm] at h
        simp only [Option.map_some, Option.some.injEq] at h
        subst h
        obtain ⟨l1, hl1, hp1⟩ := List.mem_flatten.1 hp
        obtain ⟨i, f, hi, hfl⟩ := mapM_mem hm l1 hl1
        cases hft : flatT P n f.type with
        | none => simp [hft] at hfl
        | some l2 =>
          rw [hft] at hfl
          simp only [Option.map_some, Option.some.injEq] at hfl
          subst hfl
          obtain ⟨q, hq, rfl⟩ := List.mem_map.1 hp1
          have hi2 : fs[i]? = some f := by simpa using hi
          have h1 := hf i f hi2
          have hil : i < xs.length := by rw [hxl]; exact (Array.getElem?_eq_some_iff.1 hi2).1
          rw [List.getElem?_eq_getElem hil] at h1
          obtain ⟨v, m2, y, hv, hm2, hy⟩ := trod_flatB n hft h1 q hq
          refine ⟨v, m2, y, ?_, by omega, hy⟩
          rw [List.getElem?_take] at hv
          split at hv
          · rwa [List.getElem?_drop] at hv
          · cases hv
    · rename_i hs
      simp only [Option.some.injEq] at h
      subst h
      obtain rfl : p = (0, t) := by simpa using hp
      obtain ⟨b, rfl, _⟩ := DataW.trod_bool hs hx
      exact ⟨_, _, _, rfl, Nat.le_refl _, hx⟩
    · rename_i k hs
      simp only [Option.some.injEq] at h
      subst h
      obtain rfl : p = (0, t) := by simpa using hp
      obtain ⟨b, rfl, _⟩ := DataW.trod_int hs hx
      exact ⟨_, _, _, rfl, Nat.le_refl _, hx⟩
    · rename_i hs
      simp only [Option.some.injEq] at h
      subst h
      obtain rfl : p = (0, t) := by simpa using hp
      obtain ⟨b, rfl, _⟩ := DataW.trod_string hs hx
      exact ⟨_, _, _, rfl, Nat.le_refl _, hx⟩
    · rename_i e hs
      simp only [Option.some.injEq] at h
      subst h
      obtain rfl : p = (0, t) := by simpa using hp
      rcases DataW.trod_slice hs hx with ⟨rfl, _⟩ | ⟨a, len, cap, elems, rest, m, _, rfl, _⟩
      · exact ⟨_, _, _, rfl, Nat.le_refl _, hx⟩
      · exact ⟨_, _, _, rfl, Nat.le_refl _, hx⟩
    · cases h
theorem open_cell {S : TypeId → Prop} (hS : OkT P S) : ∀ (fuel : Nat) {t : TypeId} {v : Value} {y : DataW H × List MemPlace}, S t → DataW.trod enc P w base spare held fuel t [v] = some y → ∃ c, HasT P t c ∧ rdC w w.heap.size c v := by
  intro fuel
  induction fuel using Nat.strongRecOn with
  | ind fuel ih =>
  intro t v y hst hy
  rcases hS t hst with ht | ht | ⟨e, ts, ht, hf, hC, h0, hts⟩
  · obtain ⟨x, h1, _, h3⟩ := DataW.trod_int ht hy
    obtain rfl : v = .int .i64 x := by simpa using h1
    exact ⟨.num x, .num ht, by unfold rdC; exact ⟨rfl, h3⟩⟩
  · obtain ⟨b, h1, _⟩ := DataW.trod_bool ht hy
    obtain rfl : v = .bool b := by simpa using h1
    exact ⟨.flag b, .flag ht, by unfold rdC; rfl⟩
  · rcases DataW.trod_slice ht hy with ⟨h1, _⟩ | ⟨A, len, cap, elems, rest, n, hfu, h1, rfl, hb, hl, hm, hlen, hel, _, _⟩
    · obtain rfl : v = .slice none 0 0 := by simpa using h1
      refine ⟨.row 0 ([] : List (List Cell)).flatten, .row ht hf rfl (fun i e' h => by simp at h) (fun i e' h => by simp at h), ?_⟩
      unfold rdC
      exact ⟨none, 0, rfl, Nat.le_refl _, by decide, fun _ => rfl, fun _ => rfl, fun hp => absurd hp (Nat.lt_irrefl _)⟩
    · obtain rfl : v = .slice (some A) len cap := by simpa using h1
      have hone : ∀ i, i < len → ∃ (e' : List Cell), e'.length = ts.length ∧ ∀ j t' c, ts[j]? = some t' → e'[j]? = some c → HasT P t' c ∧ ∃ u, w.cell? ((A.add (i * ts.length)).add j) = some u ∧ rdC w w.heap.size c u := by
        intro i hi
        have h2 := hel i hi
        rw [List.getElem?_eq_getElem (by omega)] at h2
        cases h3 : w.cells? base (A.add (i * P.cellsOf e)) (P.cellsOf e) with
        | none => rw [h3] at h2; cases h2
        | some vs =>
          rw [h3] at h2
          have h4 : DataW.trod enc P w base spare held n e vs = some elems[i] := h2
          rw [hC] at h3
          obtain ⟨_, hl3, hc3⟩ := World.cells?_some h3
          obtain ⟨e', he1, he2⟩ := list_of (p := fun j c => ∀ t', ts[j]? = some t' → HasT P t' c ∧ ∃ u, w.cell? ((A.add (i * ts.length)).add j) = some u ∧ rdC w w.heap.size c u) ts.length (fun j hj => by
            have hm : (j, ts[j]) ∈ ts.mapIdx fun i u => (i, u) := by
              rw [List.mem_iff_getElem?]
              exact ⟨j, by rw [List.getElem?_mapIdx, List.getElem?_eq_getElem hj]; rfl⟩
            obtain ⟨u, m, y, hu, hmn, hy2⟩ := trod_flatB 9 hf h4 (j, ts[j]) hm
            obtain ⟨c, hc1, hc2⟩ := ih m (by omega) (hts _ (List.getElem_mem hj)) hy2
            refine ⟨c, fun t' ht' => ?_⟩
            rw [List.getElem?_eq_getElem hj] at ht'
            obtain rfl := Option.some.inj ht'
            exact ⟨hc1, u, (hc3 j hj).trans hu, hc2⟩)
          exact ⟨e', he1, fun j t' c h5 h6 => he2 j c h6 t' h5⟩
      obtain ⟨es, hes1, hes2⟩ := list_of (p := fun i (e' : List Cell) => e'.length = ts.length ∧ ∀ j t' c, ts[j]? = some t' → e'[j]? = some c → HasT P t' c ∧ ∃ u, w.cell? ((A.add (i * ts.length)).add j) = some u ∧ rdC w w.heap.size c u) len hone
      refine ⟨.row len es.flatten, .row ht hf hes1 (fun i e' h => (hes2 i e' h).1) (fun i e' h j t' c h5 h6 => ((hes2 i e' h).2 j t' c h5 h6).1), ?_⟩
      have hall : ∀ c ∈ es, c.length = ts.length := fun c hc => by
        obtain ⟨i, hi⟩ := List.mem_iff_getElem?.1 hc
        exact (hes2 i c hi).1
      unfold rdC
      refine ⟨some A, cap, rfl, hl, hm, (fun e => by cases e), fun h0 => ?_, fun hp => ?_⟩
      · have : es = [] := List.length_eq_zero_iff.mp (hes1.trans h0)
        rw [this]
        rfl
      · obtain ⟨b, off, spot⟩ := A
        have hone0 : ∀ i e' j c, es[i]? = some e' → e'[j]? = some c → ∃ u, w.cell? (((⟨b, off, spot⟩ : Addr).add (i * ts.length)).add j) = some u ∧ rdC w w.heap.size c u := fun i e' j c h5 h6 => by
          have hj : j < ts.length := by rw [← (hes2 i e' h5).1]; exact (List.getElem?_eq_some_iff.1 h6).1
          exact ((hes2 i e' h5).2 j ts[j] c (List.getElem?_eq_getElem hj) h6).2
        have he0 : es[0]? = some es[0] := List.getElem?_eq_getElem (by omega)
        have hl0 := (hes2 0 _ he0).1
        obtain ⟨u0, hu0, _⟩ := hone0 0 es[0] 0 es[0][0] he0 (List.getElem?_eq_getElem (by omega))
        have hspot : spot = none := by simpa [Addr.add] using World.cell?_spot hu0
        subst hspot
        rw [add_plain, add_plain] at hu0
        have hbk : b < w.heap.size := by
          rcases Nat.lt_or_ge b w.heap.size with h | h
          · exact h
          · simp [World.cell?, Array.getElem?_eq_none h] at hu0
        refine ⟨b, off, rfl, hbk, hbk, rdE_of fun k c hk => ?_⟩
        have hlt := (List.getElem?_eq_some_iff.1 hk).1
        rw [flatG_all hall, hes1] at hlt
        have hjs : k / ts.length < es.length := by rw [hes1]; exact Nat.div_lt_of_lt_mul (by rw [Nat.mul_comm]; exact hlt)
        have hr : k % ts.length < ts.length := Nat.mod_lt _ h0
        have h4 := List.getElem?_eq_getElem hjs
        have h5 := flatG_at hall h4 hr
        have hkk : k / ts.length * ts.length + k % ts.length = k := by rw [Nat.mul_comm]; exact Nat.div_add_mod k ts.length
        rw [hkk, hk] at h5
        have h6 := hone0 _ _ _ c h4 h5.symm
        rw [add_plain, add_plain, Nat.add_assoc, hkk] at h6
        exact h6
/-- A struct by value that came in. -/
theorem open_cells {S : TypeId → Prop} (hS : OkT P S) {ts : List TypeId} (hts : ∀ u ∈ ts, S u) {vs : List Value} (h : Leaves (Leaf enc P w base spare held) ts vs) : ∃ cs : List Cell, cs.length = ts.length ∧ (∀ (j : Nat) (t : TypeId) (c : Cell), ts[j]? = some t → cs[j]? = some c → HasT P t c) ∧ rdL w w.heap.size cs vs := by
  induction ts generalizing vs with
  | nil =>
    cases vs with
    | nil => exact ⟨[], rfl, fun j t c h => by simp at h, rfl⟩
    | cons v vs => cases h
  | cons t ts ih =>
    cases vs with
    | nil => cases h
    | cons v vs =>
      obtain ⟨⟨m, y, hy⟩, h2⟩ := h
      obtain ⟨c, hc1, hc2⟩ := open_cell hS m (hts t List.mem_cons_self) hy
      obtain ⟨cs, g1, g2, g3⟩ := ih (fun u hu => hts u (List.mem_cons_of_mem _ hu)) h2
      refine ⟨c :: cs, by simp [g1], fun j t' c' h5 h6 => ?_, v, vs, rfl, hc2, g3⟩
      cases j with
      | zero =>
        obtain rfl : t = t' := by simpa using h5
        obtain rfl : c = c' := by simpa using h6
        exact hc1
      | succ j => exact g2 j t' c' (by simpa using h5) (by simpa using h6)
/-- A slice that came in. -/
theorem open_row {S : TypeId → Prop} (hS : OkT P S) {fuel : Nat} {t : TypeId} {a : Option Addr} {l c : Nat} {d : DataW H × List MemPlace} (ht : S t) (h : DataW.trod enc P w base spare held fuel t (Value.cells (.slice a l c)).toList = some d) : ∃ x, HasT P t x ∧ rdC w w.heap.size x (.slice a l c) :=
  open_cell hS fuel ht (by simpa [Value.cells] using h)
end
end Go.Proofs.YtjfmmingkciapaaDoor
/- The laws' own comparisons of slices: bytes, and ints. -/
namespace Go.Proofs.YtjfmmingkciapaaDoor
open Go.ChangeShapes Go.WideShapes Go.ChangeAt Go.RowKit
set_option linter.unusedVariables false

end Go.Proofs.YtjfmmingkciapaaDoor
