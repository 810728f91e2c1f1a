/- Slices whose elements are several cells each: one that is read, and one that a call has made for itself; what keeps them. No condition; any program. -/
import Derived.Test.YtmgigjpkpeamjaaGreatRow
import Derived.Laws.AppendOwnNone
namespace Go.Proofs.YtmgigjpkpeamjaaGreat
open Go.ChangeShapes Go.WideShapes Go.ChangeAt Go.RowKit
set_option linter.unusedVariables false

/-! Lists of elements, laid out in cells. -/
section
variable {X : Type} {f : X → List Value} {s : Nat}
theorem flat_len (hf : ∀ x, (f x).length = s) : ∀ xs : List X, (xs.flatMap f).length = xs.length * s
  | [] => by simp
  | x :: xs => by
    rw [List.flatMap_cons, List.length_append, hf, flat_len hf xs, List.length_cons, Nat.add_mul, Nat.one_mul]
    omega
theorem flat_at (hf : ∀ x, (f x).length = s) : ∀ {xs : List X} {i : Nat} {x : X}, xs[i]? = some x → ∀ {j : Nat}, j < s → (xs.flatMap f)[i * s + j]? = (f x)[j]?
  | [], i, x, h, _, _ => by simp at h
  | y :: ys, 0, x, h, j, hj => by
    simp only [List.getElem?_cons_zero, Option.some.injEq] at h
    subst h
    rw [List.flatMap_cons, Nat.zero_mul, Nat.zero_add, List.getElem?_append_left (by rw [hf]; exact hj)]
  | y :: ys, i + 1, x, h, j, hj => by
    rw [List.getElem?_cons_succ] at h
    rw [List.flatMap_cons, List.getElem?_append_right (by rw [hf, Nat.add_mul]; omega), hf, show (i + 1) * s + j - s = i * s + j by rw [Nat.add_mul]; omega]
    exact flat_at hf h hj
theorem flat_inj (hf : ∀ x, (f x).length = s) (hs : 0 < s) (hi : ∀ x y, f x = f y → x = y) : ∀ {xs ys : List X}, xs.flatMap f = ys.flatMap f → xs = ys
  | [], [], _ => rfl
  | [], y :: ys, h => by
    have := congrArg List.length h
    rw [List.flatMap_cons, List.length_append, hf] at this
    simp at this
    omega
  | x :: xs, [], h => by
    have := congrArg List.length h
    rw [List.flatMap_cons, List.length_append, hf] at this
    simp at this
    omega
  | x :: xs, y :: ys, h => by
    rw [List.flatMap_cons, List.flatMap_cons] at h
    obtain ⟨h1, h2⟩ := List.append_inj h (by rw [hf, hf])
    rw [hi x y h1, flat_inj hf hs hi h2]
/-- Of a list of elements the first k are laid, behind them zeros. -/
def halfC (f : X → List Value) (z : List Value) (xs : List X) (k : Nat) : List Value := (xs.take k).flatMap f ++ (List.replicate (xs.length - k) z).flatten
theorem halfC_zero (z : List Value) (xs : List X) : halfC f z xs 0 = (List.replicate xs.length z).flatten := by simp [halfC]
theorem halfC_all (z : List Value) (xs : List X) : halfC f z xs xs.length = xs.flatMap f := by simp [halfC]
theorem made_zeros (z : List Value) (s : Nat) (hs : 0 < s) (hz : z.length = s) (n : Nat) : (madeCells z.toArray (n * s)).toList = (List.replicate n z).flatten := by
  have e : (List.replicate n z).flatten = (List.replicate n ()).flatMap (fun _ => z) := by rw [List.flatMap_def, List.map_replicate]
  rw [e]
  apply List.ext_getElem?
  intro i
  by_cases hi : i < n * s
  · have h1 : i / s < n := Nat.div_lt_of_lt_mul (by rw [Nat.mul_comm]; exact hi)
    have h2 : i % s < s := Nat.mod_lt _ hs
    have h3 := flat_at (f := fun (_ : Unit) => z) (s := s) (fun _ => hz) (xs := List.replicate n ()) (i := i / s) (x := ()) (by rw [List.getElem?_replicate, if_pos h1]) h2
    rw [Nat.mul_comm, Nat.div_add_mod] at h3
    rw [h3]
    have h4 : i % s < z.length := by rw [hz]; exact h2
    simp [madeCells, hi, hz]
    rw [List.getElem?_eq_getElem h4, Option.getD_some]
  · rw [List.getElem?_eq_none (by simp [madeCells]; omega), List.getElem?_eq_none (by rw [flat_len (f := fun (_ : Unit) => z) (s := s) (fun _ => hz), List.length_replicate]; omega)]
/-- Cells written in a row. -/
def setMany : List Value → Nat → List Value → List Value
  | l, _, [] => l
  | l, i, u :: us => setMany (l.set i u) (i + 1) us
theorem setMany_mid : ∀ (us : List Value) (a b c : List Value), us.length = b.length → setMany (a ++ (b ++ c)) a.length us = a ++ (us ++ c)
  | [], a, b, c, h => by
    have : b = [] := List.length_eq_zero_iff.mp (by simpa using h.symm)
    subst this
    rfl
  | u :: us, a, [], c, h => by simp at h
  | u :: us, a, x :: b, c, h => by
    have e : (a ++ (x :: b ++ c)).set a.length u = (a ++ [u]) ++ (b ++ c) := by
      rw [List.set_append_right _ _ (Nat.le_refl _), Nat.sub_self]
      simp
    unfold setMany
    rw [e, show a.length + 1 = (a ++ [u]).length by simp, setMany_mid us (a ++ [u]) b c (by simpa using h)]
    simp
theorem halfC_set (hf : ∀ x, (f x).length = s) (z : List Value) (hz : z.length = s) {xs : List X} {k : Nat} {x : X} (hx : xs[k]? = some x) : setMany (halfC f z xs k) (k * s) (f x) = halfC f z xs (k + 1) := by
  have hk : k < xs.length := (List.getElem?_eq_some_iff.1 hx).1
  have hl : ((xs.take k).flatMap f).length = k * s := by rw [flat_len hf, List.length_take]; congr 1; omega
  unfold halfC
  rw [show xs.length - k = (xs.length - (k + 1)) + 1 by omega, List.replicate_succ, List.flatten_cons, ← hl, setMany_mid _ _ _ _ (by rw [hf, hz]), List.take_add_one, hx]
  simp
theorem halfC_at (hf : ∀ x, (f x).length = s) (z : List Value) (hz : z.length = s) {xs : List X} {k : Nat} (hk : k < xs.length) {j : Nat} (hj : j < s) : (halfC f z xs k)[k * s + j]? = z[j]? := by
  have hl : ((xs.take k).flatMap f).length = k * s := by rw [flat_len hf, List.length_take]; congr 1; omega
  unfold halfC
  rw [List.getElem?_append_right (by omega), hl, Nat.add_sub_cancel_left, show xs.length - k = (xs.length - (k + 1)) + 1 by omega, List.replicate_succ, List.flatten_cons, List.getElem?_append_left (by omega)]
/-- Of two lists of elements, laid out: the first j of the second, behind them the rest of the first. -/
def mixC (f : X → List Value) (xs ys : List X) (j : Nat) : List Value := (ys.take j).flatMap f ++ (xs.drop j).flatMap f
theorem mixC_zero (xs ys : List X) : mixC f xs ys 0 = xs.flatMap f := by simp [mixC]
theorem mixC_all {xs ys : List X} (h : ys.length = xs.length) : mixC f xs ys xs.length = ys.flatMap f := by
  unfold mixC
  rw [List.take_of_length_le (by omega), List.drop_of_length_le (Nat.le_refl _)]
  simp
theorem mixC_at (hf : ∀ x, (f x).length = s) {xs ys : List X} (h : ys.length = xs.length) {j : Nat} {x : X} (hx : xs[j]? = some x) {i : Nat} (hi : i < s) : (mixC f xs ys j)[j * s + i]? = (f x)[i]? := by
  have hj : j < xs.length := (List.getElem?_eq_some_iff.1 hx).1
  have hl : ((ys.take j).flatMap f).length = j * s := by rw [flat_len hf, List.length_take]; congr 1; omega
  have hx' : xs[j] = x := (List.getElem?_eq_some_iff.1 hx).2
  unfold mixC
  rw [List.getElem?_append_right (by omega), hl, Nat.add_sub_cancel_left, List.drop_eq_getElem_cons hj, List.flatMap_cons, hx', List.getElem?_append_left (by rw [hf]; exact hi)]
theorem mixC_set (hf : ∀ x, (f x).length = s) {xs ys : List X} (h : ys.length = xs.length) {j : Nat} {y : X} (hy : ys[j]? = some y) : setMany (mixC f xs ys j) (j * s) (f y) = mixC f xs ys (j + 1) := by
  have hj : j < ys.length := (List.getElem?_eq_some_iff.1 hy).1
  have hj2 : j < xs.length := by omega
  have hl : ((ys.take j).flatMap f).length = j * s := by rw [flat_len hf, List.length_take]; congr 1; omega
  unfold mixC
  rw [List.drop_eq_getElem_cons hj2, List.flatMap_cons, ← hl, setMany_mid _ _ _ _ (by rw [hf, hf]), List.take_add_one, hy]
  simp
end

/-- The slice v of m elements, s cells each, reads as the cells cs; where it has elements they lie in one block below 'hi'. -/
structure RowC (s : Nat) (w : World) (hi : Nat) (v : Value) (m : Nat) (cs : List Value) : Prop where
  len : cs.length = m * s
  form : ∃ a c, v = .slice a m c ∧ m ≤ c ∧ c ≤ maxLen ∧ (a = none → c = 0) ∧
    (0 < m → ∃ b off, a = some ⟨b, off, none⟩ ∧ b < hi ∧ b < w.heap.size ∧ ∀ (j : Nat) (u : Value), cs[j]? = some u → w.cell? ⟨b, off + j, none⟩ = some u)
/-- The slice v is the call's own: it reads as cs, its block lies from 'lo' on and below 'hi', and it may be written. -/
structure OwnC (E : TypeId) (s : Nat) (w : World) (lo hi : Nat) (v : Value) (m : Nat) (cs : List Value) : Prop where
  row : w.ownsRow lo E s v m cs
  hi : ∀ k, v.ownBlock = some k → k < hi
section
variable {E : TypeId} {s : Nat} {w w' : World} {lo hi m : Nat} {v : Value} {cs : List Value}
theorem RowC.keep (h : RowC s w hi v m cs) (hs : w.heap.size ≤ w'.heap.size) (hb : ∀ k, k < hi → k < w.heap.size → w'.heap[k]? = w.heap[k]?) : RowC s w' hi v m cs := by
  obtain ⟨hl, a, c, rfl, h1, h2, h0, h3⟩ := h
  refine ⟨hl, a, c, rfl, h1, h2, h0, fun hp => ?_⟩
  obtain ⟨b, off, rfl, g1, g2, g3⟩ := h3 hp
  exact ⟨b, off, rfl, g1, by omega, fun j u hu => (World.cell?_of_block (w := w) (hb b g1 g2)).trans (g3 j u hu)⟩
theorem RowC.below {B : Nat} (h : RowC s w hi v m cs) (hb : Below B w w') (hB : hi ≤ B) : RowC s w' hi v m cs :=
  h.keep hb.size fun k hk _ => hb.block k (by omega)
theorem RowC.more {hi' : Nat} (h : RowC s w hi v m cs) (hB : hi ≤ hi') : RowC s w hi' v m cs := by
  obtain ⟨hl, a, c, rfl, h1, h2, h0, h3⟩ := h
  refine ⟨hl, a, c, rfl, h1, h2, h0, fun hp => ?_⟩
  obtain ⟨b, off, rfl, g1, g2, g3⟩ := h3 hp
  exact ⟨b, off, rfl, by omega, g2, g3⟩
theorem RowC.drewN (h : RowC s w hi v m cs) (n : Nat) : RowC s (w.drewN n) hi v m cs := ⟨h.len, h.form⟩
theorem OwnC.lt (h : OwnC E s w lo hi v m cs) : ∀ k, v.ownBlock = some k → lo ≤ k ∧ k < hi ∧ k < w.heap.size := fun k hk => ⟨(h.row.lt k hk).1, h.hi k hk, (h.row.lt k hk).2⟩
theorem OwnC.keep (h : OwnC E s w lo hi v m cs) (hb : ∀ k, lo ≤ k → k < hi → k < w.heap.size → w'.heap[k]? = w.heap[k]?) : OwnC E s w' lo hi v m cs := by
  have hl := h.lt
  refine ⟨⟨h.row.1, ?_⟩, h.hi⟩
  rcases h.row.2 with hn | ⟨g, cap, cur, rfl, g1, g2, rest⟩
  · exact .inl hn
  · obtain ⟨l1, l2, l3⟩ := hl g rfl
    exact .inr ⟨g, cap, cur, rfl, g1, (hb g l1 l2 l3).trans g2, rest⟩
theorem OwnC.below {B : Nat} (h : OwnC E s w lo hi v m cs) (hb : Below B w w') (hB : hi ≤ B) : OwnC E s w' lo hi v m cs :=
  h.keep fun k _ hk _ => hb.block k (by omega)
theorem OwnC.wide {lo' hi' : Nat} (h : OwnC E s w lo hi v m cs) (h1 : lo' ≤ lo) (h2 : hi ≤ hi') : OwnC E s w lo' hi' v m cs := by
  refine ⟨⟨h.row.1, ?_⟩, fun k hk => Nat.lt_of_lt_of_le (h.hi k hk) h2⟩
  rcases h.row.2 with hn | ⟨g, cap, cur, rfl, g1, g2, rest⟩
  · exact .inl hn
  · exact .inr ⟨g, cap, cur, rfl, by omega, g2, rest⟩
theorem OwnC.drewN (h : OwnC E s w lo hi v m cs) (n : Nat) : OwnC E s (w.drewN n) lo hi v m cs := ⟨h.row, h.hi⟩
/-- What is owned can be read. -/
theorem OwnC.read (h : OwnC E s w lo hi v m cs) : RowC s w hi v m cs := by
  have hl := h.lt
  have hr := h.row
  rcases hr.2 with ⟨rfl, hn⟩ | ⟨g, cap, cur, rfl, g1, g2, g3, g4, g5, g6⟩
  · exact ⟨hr.1, none, 0, by rw [hn], by omega, by decide, fun _ => rfl, fun hp => by omega⟩
  · obtain ⟨l1, l2, l3⟩ := hl g rfl
    refine ⟨hr.1, _, cap, rfl, g3, g4, (fun e => by cases e), fun hp => ⟨g, 0, rfl, l2, l3, fun j u hu => ?_⟩⟩
    have hj : j < m * s := by have := (List.getElem?_eq_some_iff.1 hu).1; have := hr.1; omega
    rw [Nat.zero_add, hr.cellAt j hj, hu]
/-- Stores into the slice itself. -/
theorem RowC.wrote {u : Value} {ys : List Value} {l h' n : Nat} {E' : TypeId} {s' : Nat} (h : RowC s w hi v m cs) (ho : OwnC E' s' w l h' u n ys) (hw : Wrote w w' u) (hd : hi ≤ l) : RowC s w' hi v m cs :=
  h.keep hw.1.size fun k hk hs => hw.1.block k hs fun e => by have := (ho.lt k e.symm).1; omega
theorem OwnC.wrote {E' : TypeId} {s' : Nat} {u : Value} {ys : List Value} {l h' n : Nat} (h : OwnC E s w lo hi v m cs) (ho : OwnC E' s' w l h' u n ys) (hw : Wrote w w' u) (hd : hi ≤ l ∨ h' ≤ lo) : OwnC E s w' lo hi v m cs :=
  h.keep fun k h1 h2 hs => hw.1.block k hs fun e => by obtain ⟨q1, q2, _⟩ := ho.lt k e.symm; omega
theorem wroteC_below {u : Value} {ys : List Value} {l h' n B : Nat} (hw : Wrote w w' u) (ho : OwnC E s w l h' u n ys) (hB : B ≤ l) (hs : B ≤ w.heap.size) : Below B w w' :=
  ⟨hw.1.os, hw.1.tape, hw.1.output, hw.1.size, fun k hk => hw.1.block k (by omega) fun e => by have := (ho.lt k e.symm).1; omega⟩
/-- Cells in a row written, in the world. -/
def wsetMany : World → Nat → Nat → List Value → World
  | w, _, _, [] => w
  | w, g, i, u :: us => wsetMany (w.setCell ⟨g, i, none⟩ u) g (i + 1) us
theorem OwnC.setMany {g cap n : Nat} : ∀ (us : List Value) {w : World} {cs : List Value} (i : Nat), OwnC E s w lo hi (.slice (some ⟨g, 0, none⟩) n cap) n cs → OwnC E s (wsetMany w g i us) lo hi (.slice (some ⟨g, 0, none⟩) n cap) n (setMany cs i us)
  | [], w, cs, i, h => h
  | u :: us, w, cs, i, h => OwnC.setMany us (i + 1) ⟨(h.row.stored i u).1, h.hi⟩
theorem Below.setMany {B g : Nat} {w0 : World} (hB : B ≤ g) : ∀ (us : List Value) {w : World} (i : Nat), Below B w0 w → Below B w0 (wsetMany w g i us)
  | [], w, i, h => h
  | u :: us, w, i, h => Below.setMany hB us (i + 1) (h.setCell (p := ⟨g, i, none⟩) hB u)
theorem wsetMany_size {g : Nat} : ∀ (us : List Value) (w : World) (i : Nat), (wsetMany w g i us).heap.size = w.heap.size
  | [], w, i => rfl
  | u :: us, w, i => (wsetMany_size us _ (i + 1)).trans (by simp [World.setCell])
theorem OwnC.setFar {g : Nat} : ∀ (us : List Value) {w : World} (i : Nat), OwnC E s w lo hi v m cs → hi ≤ g → OwnC E s (wsetMany w g i us) lo hi v m cs
  | [], w, i, h, hg => h
  | u :: us, w, i, h, hg => OwnC.setFar us (i + 1) (h.keep fun k _ hk _ => Below.heap_setCell _ _ _ _ (by show k ≠ g; omega)) hg
theorem wrote_setMany {g n cap : Nat} {w : World} : ∀ (us : List Value) {wr : World} (i : Nat), Wrote w wr (.slice (some ⟨g, 0, none⟩) n cap) → Wrote w (wsetMany wr g i us) (.slice (some ⟨g, 0, none⟩) n cap)
  | [], wr, i, h => h
  | u :: us, wr, i, h => wrote_setMany us (i + 1) (wrote_set h u)
theorem RowC.fits {n c : Nat} {a : Option Addr} (h : RowC s w hi (.slice a n c) m cs) : n ≤ c ∧ c ≤ maxLen := by
  obtain ⟨_, _, _, e, h1, h2, _⟩ := h
  injection e with e1 e2 e3
  exact ⟨by omega, by omega⟩
/-- One element in a block just made reads as a slice of one. -/
theorem rowC_one (s : Nat) (T : TypeId) (w : World) (cs : List Value) (hl : cs.length = s) : RowC s (w.alloc (.cells cs.toArray T)) (w.heap.size + 1) (.slice (some ⟨w.heap.size, 0, none⟩) 1 1) 1 cs := by
  refine ⟨by rw [hl, Nat.one_mul], _, 1, rfl, Nat.le_refl _, by decide, (fun e => by cases e), fun _ => ⟨w.heap.size, 0, rfl, by omega, by simp, fun j u hu => ?_⟩⟩
  rw [World.cell?_alloc_new, Nat.zero_add]
  simpa using hu
/-- 'append(out, b...)': out the call's own, b any slice that can be read. -/
theorem wpList_append_OwnC {P : Program} {ops : Array Oper} {rest : List Oper} {o : Oper} {a : Act} {Q : Exit → Act → World → Prop} (hgd : o.guard = none) (sl x : Operand) (t : TypeId)
    (ho : o.op = .call { callee := .builtin .append, args := #[sl, x], argTypes := #[t, t] })
    (i : TypeInfo) (z : Value) (bytes : Nat) (ht : P.underlying t = some (.slice E)) (hi' : P.info? E = some i) (hz : i.zero = some z) (hsize : i.size = s) (hby : i.bytes = bytes) (hzs : z.cells.size = s) (hs0 : 0 < s)
    (hs : a.eval sl = v) (hown : OwnC E s w lo hi v m cs)
    (top' : Nat) (u : Value) (m2 : Nat) (ds : List Value) (hx : a.eval x = u) (hr : RowC s w top' u m2 ds) (h1 : ∀ q ∈ ds, q.oneCell' = true)
    (h63 : m + m2 ≤ 1073741824) (hb8 : bytes ≤ 1024) (hbase : lo ≤ w.heap.size)
    (h : ∀ v' w', OwnC E s w' lo w'.heap.size v' (m + m2) (cs ++ ds) → Below lo w w' → wpList P ops Q rest (a.put o.dst v') w') : wpList P ops Q (o :: rest) a w := by
  have hbytes : (m + m2) * bytes ≤ 1073741824 * 1024 := Nat.mul_le_mul h63 hb8
  obtain ⟨hl, A, c, rfl, r1, r2, r0, r3⟩ := hr
  rcases A with _ | ad
  · have hm : m2 = 0 := by
      rcases Nat.eq_zero_or_pos m2 with h0 | hp
      · exact h0
      · obtain ⟨_, _, e1, _⟩ := r3 hp
        cases e1
    subst hm
    have hd : ds = [] := List.length_eq_zero_iff.mp (by simpa using hl)
    subst hd
    obtain rfl := r0 rfl
    refine wpList_append_own_none hgd sl x t ho lo E i s ht hi' v m cs hs hown.row hx (h v w ⟨by simpa using hown.row, fun k hk => (hown.lt k hk).2.2⟩ (Below.refl _ _))
  · refine wpList_append_own w hgd sl x t ho lo E i z s bytes ht hi' hz hsize hby hzs hs0 v m cs hs hown.row ad m2 c ds hx hl (fun j q hj => ?_) h1 (by unfold maxLen; omega) (by omega) hbase
      (fun v' w' g1 g2 _ => h v' w' ⟨g1, fun k hk => (g1.lt k hk).2⟩ ⟨g2.os, g2.tape, g2.output, g2.size, fun k hk => g2.block k (by omega) fun e1 => by have := (hown.lt k e1.symm).1; omega⟩)
    have hp : 0 < m2 := by
      have := (List.getElem?_eq_some_iff.1 hj).1
      rcases Nat.eq_zero_or_pos m2 with h0 | hp
      · rw [hl, h0] at this; omega
      · exact hp
    obtain ⟨b, off, e1, _, _, r4⟩ := r3 hp
    injection e1 with e1
    subst e1
    have hadd : (⟨b, off, none⟩ : Addr).add j = ⟨b, off + j, none⟩ := by unfold Addr.add; split <;> simp_all
    rw [hadd]
    exact r4 j q hj
theorem OwnC.made (E : TypeId) {s n cap : Nat} {w w' : World} {cs : List Value} (h : w'.ownsRow w.heap.size E s (.slice (some ⟨w.heap.size, 0, none⟩) n cap) n cs) : OwnC E s w' w.heap.size (w.heap.size + 1) (.slice (some ⟨w.heap.size, 0, none⟩) n cap) n cs :=
  ⟨h, fun k hk => by
    have : w.heap.size = k := by simpa [Value.ownBlock] using hk
    omega⟩
theorem OwnC.empty (E : TypeId) (s : Nat) (w : World) : OwnC E s (w.alloc (.cells #[] E)) w.heap.size (w.heap.size + 1) (.slice (some ⟨w.heap.size, 0, none⟩) 0 0) 0 [] :=
  ⟨World.ownsRow_lit w #[] 0 (Nat.le_refl _) (by decide) (by simp), fun k hk => by
    have : w.heap.size = k := by simpa [Value.ownBlock] using hk
    omega⟩
end
theorem OwnC.joined {X : Type} {f : X → List Value} {E : TypeId} {s : Nat} {w : World} {lo hi : Nat} {v : Value} {xs ys : List X} (h : OwnC E s w lo hi v (xs.length + ys.length) (xs.flatMap f ++ ys.flatMap f)) : OwnC E s w lo hi v (xs ++ ys).length ((xs ++ ys).flatMap f) := by
  rw [List.length_append, List.flatMap_append]
  exact h
theorem flat_one {X : Type} {f : X → List Value} (h : ∀ x, ∀ u ∈ f x, u.oneCell' = true) (xs : List X) : ∀ u ∈ xs.flatMap f, u.oneCell' = true := fun u hu => by
  obtain ⟨x, _, hx⟩ := List.mem_flatMap.1 hu
  exact h x u hx
end Go.Proofs.YtmgigjpkpeamjaaGreat
