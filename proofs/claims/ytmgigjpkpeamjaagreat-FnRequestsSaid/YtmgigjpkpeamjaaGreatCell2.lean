/- Data of any depth, as cells: marks, what may be put in a cell's place, rows that are built, elements of rows. No condition; any program. -/
import Derived.Test.YtmgigjpkpeamjaaGreatCell
namespace Go.Proofs.YtmgigjpkpeamjaaGreat
open Go.ChangeShapes Go.WideShapes Go.ChangeAt Go.RowKit
set_option linter.unusedVariables false

section
variable {fp fq : List Nat} {w w' a b c : World}
theorem Touch.refl (fp : List Nat) (w : World) : Touch fp w w := ⟨rfl, rfl, rfl, Nat.le_refl _, fun _ _ _ => rfl⟩
theorem Touch.trans (h : Touch fp a b) (k : Touch fp b c) : Touch fp a c :=
  ⟨k.os.trans h.os, k.tape.trans h.tape, k.output.trans h.output, Nat.le_trans h.size k.size, fun j hl hj => (k.block j (Nat.lt_of_lt_of_le hl h.size) hj).trans (h.block j hl hj)⟩
theorem Touch.sub (h : Touch fp w w') (hs : ∀ k ∈ fp, k ∈ fq) : Touch fq w w' := ⟨h.os, h.tape, h.output, h.size, fun k hl hk => h.block k hl fun hk2 => hk (hs k hk2)⟩
theorem Touch.set {g : Nat} (hg : g ∈ fp) (w : World) (i : Nat) (u : Value) : Touch fp w (w.setCell ⟨g, i, none⟩ u) :=
  ⟨rfl, rfl, rfl, by simp [World.setCell], fun k _ hk => Below.heap_setCell w ⟨g, i, none⟩ u k (by intro e; subst e; exact hk hg)⟩
theorem Touch.below {B : Nat} (h : Touch fp w w') (hf : ∀ k ∈ fp, B ≤ k) (hs : B ≤ w.heap.size) : Below B w w' :=
  ⟨h.os, h.tape, h.output, h.size, fun k hk => h.block k (Nat.lt_of_lt_of_le hk hs) fun h2 => by have := hf k h2; omega⟩
theorem Touch.of (h : Below w.heap.size w w') : Touch fp w w' := ⟨h.os, h.tape, h.output, h.size, fun k hl _ => h.block k hl⟩
end
mutual
/-- What the marks from k on leave. -/
def mkC : Cell → Int → Cell
  | .num _, k => .num k
  | .flag _, k => .flag (decide (k % 3 = 0))
  | .row n cs, k => .row n (mkE cs k)
def mkE : List Cell → Int → List Cell
  | [], _ => []
  | c :: cs, k => mkC c k :: mkE cs (k + ctC c)
/-- How many marks a cell takes. -/
def ctC : Cell → Int
  | .num _ => 1
  | .flag _ => 1
  | .row n cs => ctE cs
def ctE : List Cell → Int
  | [] => 0
  | c :: cs => ctC c + ctE cs
end
mutual
theorem ctC_nonneg : ∀ c : Cell, 0 ≤ ctC c
  | .num _ => by unfold ctC; decide
  | .flag _ => by unfold ctC; decide
  | .row n cs => by unfold ctC; exact ctE_nonneg cs
theorem ctE_nonneg : ∀ cs : List Cell, 0 ≤ ctE cs
  | [] => by unfold ctE; decide
  | c :: cs => by
    unfold ctE
    have := ctC_nonneg c
    have := ctE_nonneg cs
    omega
end
theorem ctE_nil : ctE [] = 0 := by unfold ctE; rfl
theorem ctE_cons (c : Cell) (cs : List Cell) : ctE (c :: cs) = ctC c + ctE cs := by rw [ctE]
theorem mkE_nil (k : Int) : mkE [] k = [] := by unfold mkE; rfl
theorem mkE_cons (c : Cell) (cs : List Cell) (k : Int) : mkE (c :: cs) k = mkC c k :: mkE cs (k + ctC c) := by rw [mkE]
theorem ctE_append : ∀ a b : List Cell, ctE (a ++ b) = ctE a + ctE b
  | [], b => by rw [List.nil_append, ctE_nil]; omega
  | c :: a, b => by
    rw [List.cons_append, ctE_cons, ctE_cons, ctE_append a b]
    omega
theorem mkE_append : ∀ (a b : List Cell) (k : Int), mkE (a ++ b) k = mkE a k ++ mkE b (k + ctE a)
  | [], b, k => by rw [List.nil_append, mkE_nil, ctE_nil, show k + 0 = k by omega]; rfl
  | c :: a, b, k => by
    rw [List.cons_append, mkE_cons, mkE_cons, ctE_cons, mkE_append a b, List.cons_append, show k + ctC c + ctE a = k + (ctC c + ctE a) by omega]
theorem mkE_length : ∀ (a : List Cell) (k : Int), (mkE a k).length = a.length
  | [], k => by unfold mkE; rfl
  | c :: a, k => by
    unfold mkE
    rw [List.length_cons, List.length_cons, mkE_length a]
/-- A struct by value: the rows inside are marked, nothing else. -/
def mkT : List Cell → Int → List Cell
  | [], _ => []
  | .row n cs :: r, k => .row n (mkE cs k) :: mkT r (k + ctE cs)
  | c :: r, k => c :: mkT r k
def ctT : List Cell → Int
  | [] => 0
  | .row n cs :: r => ctE cs + ctT r
  | c :: r => ctT r
theorem take_set {α : Type} (l : List α) (m i : Nat) (x : α) : (l.set i x).take m = (l.take m).set i x := by
  rw [List.take_set]
/-- A cell in the midst of a row of the call's own. -/
theorem owC.split {w : World} {n : Nat} {pre : List Cell} {c : Cell} {rest : List Cell} {v : Value} {fp : List Nat} (h : owC w (.row n (pre ++ c :: rest)) v fp) (nd : fp.Nodup) :
    ∃ g cap u f1, v = .slice (some ⟨g, 0, none⟩) n cap ∧ g ∈ fp ∧ g ∉ f1 ∧ w.cell? ⟨g, pre.length, none⟩ = some u ∧ w.frozen? ⟨g, pre.length, none⟩ = false ∧ owC w c u f1 ∧ f1.Nodup ∧ (∀ k ∈ f1, k ∈ fp) ∧
      (∀ (w' : World) (c' : Cell), owC w' c' u f1 → (∀ k ∈ fp, k ∉ f1 → w'.heap[k]? = w.heap[k]?) → owC w' (.row n (pre ++ c' :: rest)) v fp) ∧
      (∀ (c' : Cell) (x : Value), f1 = [] → (∀ W, owC W c' x []) → owC (w.setCell ⟨g, pre.length, none⟩ x) (.row n (pre ++ c' :: rest)) v fp) := by
  unfold owC at h
  rcases h with ⟨_, h, _⟩ | ⟨g, cap, cur, E, f, rfl, h1, h2, h3, rfl, h4, h5⟩
  · exact absurd h (by simp)
  · obtain ⟨n1, n2⟩ := List.nodup_cons.1 nd
    obtain ⟨u, f1, g1, g2, g3, g4, g5⟩ := owE.split h5 n2
    have hg : g ∉ f1 := fun hk => n1 (g4 g hk)
    have hl := owE.length h5
    rw [List.length_append, List.length_cons] at hl
    refine ⟨g, cap, u, f1, rfl, List.mem_cons_self, hg, cell_take h3 g1, by simp [World.frozen?, h3], g2, g3, fun k hk => List.mem_cons_of_mem _ (g4 k hk), fun w' c' h6 h7 => ?_, fun c' x hf h6 => ?_⟩
    · unfold owC
      refine .inr ⟨g, cap, cur, E, f, rfl, h1, h2, (h7 g List.mem_cons_self hg).trans h3, rfl, fun e => ?_, ?_⟩
      · have := h4 e
        simp at this
      · have h8 := g5 w' c' u h6 fun k hk hn => h7 k (List.mem_cons_of_mem _ hk) hn
        have h9 : (cur.toList.take (pre ++ c :: rest).length).set pre.length u = cur.toList.take (pre ++ c :: rest).length := by
          obtain ⟨hi, e⟩ := List.getElem?_eq_some_iff.1 g1
          rw [← e, List.set_getElem_self]
        rw [h9] at h8
        have h10 : (pre ++ c' :: rest).length = (pre ++ c :: rest).length := by simp
        rw [h10]
        exact h8
    · subst hf
      unfold owC
      have h10 : (pre ++ c' :: rest).length = (pre ++ c :: rest).length := by simp
      refine .inr ⟨g, cap, cur.setIfInBounds pre.length x, E, f, rfl, h1, h2, ?_, rfl, fun e => ?_, ?_⟩
      · simp [World.setCell, Array.getElem?_modify, h3]
      · have := h4 e
        simp at this
      · rw [h10, Array.toList_setIfInBounds, take_set]
        exact g5 _ c' x (h6 _) fun k hk _ => Below.heap_setCell w ⟨g, pre.length, none⟩ x k (by show k ≠ g; intro e; subst e; exact n1 hk)
theorem owC.num_any {x : Int} (hx : (Lit.int .i64 x).wf = true) (W : World) : owC W (.num x) (.int .i64 x) [] := by unfold owC; exact ⟨rfl, hx, rfl⟩
theorem owC.flag_any (b : Bool) (W : World) : owC W (.flag b) (.bool b) [] := by unfold owC; exact ⟨rfl, rfl⟩
/-- A number in the midst of a row: it may be written. -/
theorem owC.setNum {w : World} {n g cap : Nat} {pre : List Cell} {y : Int} {rest : List Cell} {fp : List Nat} (h : owC w (.row n (pre ++ .num y :: rest)) (.slice (some ⟨g, 0, none⟩) n cap) fp) (nd : fp.Nodup) :
    (w.cell? ⟨g, pre.length, none⟩ = some (.int .i64 y) ∧ w.frozen? ⟨g, pre.length, none⟩ = false) ∧ g ∈ fp ∧ ∀ x : Int, (Lit.int .i64 x).wf = true → owC (w.setCell ⟨g, pre.length, none⟩ (.int .i64 x)) (.row n (pre ++ .num x :: rest)) (.slice (some ⟨g, 0, none⟩) n cap) fp := by
  obtain ⟨g', cap', u, f1, e, h1, h2, h3, h4, h5, h6, h7, h8, h9⟩ := h.split nd
  injection e with e1 e2 e3
  injection e1 with e1
  injection e1 with e1
  subst e1
  unfold owC at h5
  obtain ⟨rfl, _, rfl⟩ := h5
  exact ⟨⟨h3, h4⟩, h1, fun x hx => h9 _ _ rfl fun W => owC.num_any hx W⟩
theorem owC.setFlag {w : World} {n g cap : Nat} {pre : List Cell} {y : Bool} {rest : List Cell} {fp : List Nat} (h : owC w (.row n (pre ++ .flag y :: rest)) (.slice (some ⟨g, 0, none⟩) n cap) fp) (nd : fp.Nodup) :
    (w.cell? ⟨g, pre.length, none⟩ = some (.bool y) ∧ w.frozen? ⟨g, pre.length, none⟩ = false) ∧ g ∈ fp ∧ ∀ x : Bool, owC (w.setCell ⟨g, pre.length, none⟩ (.bool x)) (.row n (pre ++ .flag x :: rest)) (.slice (some ⟨g, 0, none⟩) n cap) fp := by
  obtain ⟨g', cap', u, f1, e, h1, h2, h3, h4, h5, h6, h7, h8, h9⟩ := h.split nd
  injection e with e1 e2 e3
  injection e1 with e1
  injection e1 with e1
  subst e1
  unfold owC at h5
  obtain ⟨rfl, rfl⟩ := h5
  exact ⟨⟨h3, h4⟩, h1, fun x => h9 _ _ rfl fun W => owC.flag_any x W⟩
/-- A row in the midst of a row: what a call that turns nothing but its blocks leaves. -/
theorem owC.sub {w : World} {n g cap m : Nat} {pre cs : List Cell} {rest : List Cell} {fp : List Nat} (h : owC w (.row n (pre ++ .row m cs :: rest)) (.slice (some ⟨g, 0, none⟩) n cap) fp) (nd : fp.Nodup) :
    ∃ u f1, w.cell? ⟨g, pre.length, none⟩ = some u ∧ owC w (.row m cs) u f1 ∧ f1.Nodup ∧ (∀ k ∈ f1, k ∈ fp) ∧ ∀ (w' : World) (ds : List Cell), owC w' (.row m ds) u f1 → Touch f1 w w' → owC w' (.row n (pre ++ .row m ds :: rest)) (.slice (some ⟨g, 0, none⟩) n cap) fp := by
  obtain ⟨g', cap', u, f1, e, h1, h2, h3, h4, h5, h6, h7, h8, h9⟩ := h.split nd
  injection e with e1 e2 e3
  injection e1 with e1
  injection e1 with e1
  subst e1
  have hl := owC.lt h
  exact ⟨u, f1, h3, h5, h6, h7, fun w' ds h10 ht => h8 w' _ h10 fun k hk2 hk => ht.block k (hl k hk2) hk⟩
/-- A row that reads: its form, and one element's cells. -/
theorem rdC.form {w : World} {hi n : Nat} {cs : List Cell} {v : Value} (h : rdC w hi (.row n cs) v) : ∃ a c, v = .slice a n c ∧ n ≤ c ∧ c ≤ maxLen := by
  unfold rdC at h
  obtain ⟨a, c, rfl, h1, h2, _⟩ := h
  exact ⟨a, c, rfl, h1, h2⟩
theorem flatG_len {X α : Type} {f : X → List α} {s : Nat} (hf : ∀ x, (f x).length = s) : ∀ xs : List X, (xs.flatMap f).length = xs.length * s
  | [] => by simp
  | x :: xs => by
    rw [List.flatMap_cons, List.length_append, hf, flatG_len hf xs, List.length_cons, Nat.add_mul, Nat.one_mul]
    omega
theorem rdC.at {X : Type} {f : X → List Cell} {s : Nat} {w : World} {hi c k : Nat} {a : Option Addr} {xs : List X} {x : X} (hf : ∀ x, (f x).length = s) (h : rdC w hi (.row xs.length (xs.flatMap f)) (.slice a xs.length c)) (hx : xs[k]? = some x) :
    ∃ vs b off, rdL w hi (f x) vs ∧ a = some ⟨b, off, none⟩ ∧ b < hi ∧ b < w.heap.size ∧ ∀ (j : Nat) (u : Value), vs[j]? = some u → ∀ (B : Nat) (w' : World), b < B → Below B w w' → w'.cell? ⟨b, off + k * s + j, none⟩ = some u := by
  have hk : k < xs.length := (List.getElem?_eq_some_iff.1 hx).1
  unfold rdC at h
  obtain ⟨a', c', e, _, _, _, _, h5⟩ := h
  injection e with e1 e2 e3
  subst e1
  obtain ⟨b, off, rfl, g1, g2, g3⟩ := h5 (by omega)
  have hsp : xs.flatMap f = (xs.take k).flatMap f ++ (f x ++ (xs.drop (k + 1)).flatMap f) := by
    have h6 : xs = xs.take k ++ x :: xs.drop (k + 1) := by
      have h7 := (List.getElem?_eq_some_iff.1 hx).2
      rw [← h7, List.getElem_cons_drop, List.take_append_drop]
    have h8 : xs.flatMap f = (xs.take k ++ x :: xs.drop (k + 1)).flatMap f := congrArg (List.flatMap f) h6
    rw [h8, List.flatMap_append, List.flatMap_cons]
  rw [hsp] at g3
  obtain ⟨vs, q1, q2⟩ := rdE.list (rdE.drop g3)
  have hl : ((xs.take k).flatMap f).length = k * s := by rw [flatG_len hf, List.length_take, Nat.min_eq_left (by omega)]
  rw [hl] at q2
  exact ⟨vs, b, off, q1, rfl, g1, g2, fun j u hj B w' hB hb => (hb.cell (p := ⟨b, _, none⟩) hB).trans (q2 j u hj)⟩
mutual
/-- How many elements the rows of a datum have, together. -/
def szC : Cell → Int
  | .num _ => 0
  | .flag _ => 0
  | .row n cs => n + szE cs
def szE : List Cell → Int
  | [] => 0
  | c :: cs => szC c + szE cs
end
mutual
theorem szC_nonneg : ∀ c : Cell, 0 ≤ szC c
  | .num _ => by unfold szC; decide
  | .flag _ => by unfold szC; decide
  | .row n cs => by
    unfold szC
    have := szE_nonneg cs
    omega
theorem szE_nonneg : ∀ cs : List Cell, 0 ≤ szE cs
  | [] => by unfold szE; decide
  | c :: cs => by
    unfold szE
    have := szC_nonneg c
    have := szE_nonneg cs
    omega
end
theorem szE_nil : szE [] = 0 := by unfold szE; rfl
theorem szE_cons (c : Cell) (cs : List Cell) : szE (c :: cs) = szC c + szE cs := by rw [szE]
theorem szE_append : ∀ a b : List Cell, szE (a ++ b) = szE a + szE b
  | [], b => by rw [List.nil_append, szE_nil]; omega
  | c :: a, b => by
    rw [List.cons_append, szE_cons, szE_cons, szE_append a b]
    omega
/-- What the laws' sizes answer. -/
def leftOver (left n : Int) : Int := if n ≤ left then left - n else -1
/-- A row that is being built: its first cells stand, zeros behind them. -/
structure Made (E : TypeId) (s : Nat) (z : List Value) (w : World) (g n k : Nat) (cs : List Cell) (us : List Value) (f : List Nat) : Prop where
  row : OwnC E s w g (g + 1) (.slice (some ⟨g, 0, none⟩) n n) n (us ++ (List.replicate k z).flatten)
  own : owE w cs us f
  nd : f.Nodup
  gt : ∀ x ∈ f, g < x
section
variable {E : TypeId} {s g n k : Nat} {z us : List Value} {w w' : World} {cs : List Cell} {f : List Nat}
theorem Made.start (E : TypeId) {s n : Nat} {z : List Value} {w w' : World} (hs : 0 < s) (hz : z.length = s) (h : w'.ownsRow w.heap.size E s (.slice (some ⟨w.heap.size, 0, none⟩) n n) n ((madeCells z.toArray (n * s)).toList)) : Made E s z w' w.heap.size n n [] [] [] := by
  rw [made_zeros z s hs hz] at h
  exact ⟨OwnC.made E h, by unfold owE; exact ⟨rfl, rfl⟩, List.nodup_nil, fun x h => by cases h⟩
theorem Made.below {B : Nat} (h : Made E s z w g n k cs us f) (hb : Below B w w') (hg : g < B) (hf : ∀ x ∈ f, x < B) : Made E s z w' g n k cs us f :=
  ⟨h.row.below hb (by omega), h.own.keep fun x hx => hb.block x (hf x hx), h.nd, h.gt⟩
theorem Made.lt (h : Made E s z w g n k cs us f) : g < w.heap.size ∧ ∀ x ∈ f, x < w.heap.size := ⟨(h.row.lt g rfl).2.2, h.own.lt⟩
/-- The next element is stored. -/
theorem Made.put {ds : List Cell} {vs : List Value} {f2 : List Nat} (h : Made E s z w g n (k + 1) cs us f) (hz : z.length = s) (hl : vs.length = s) (ho : owE w ds vs f2) (hn : f2.Nodup) (hg : ∀ x ∈ f2, g < x) (hd : ∀ x ∈ f, ∀ y ∈ f2, x < y) :
    Made E s z (wsetMany w g us.length vs) g n k (cs ++ ds) (us ++ vs) (f ++ f2) := by
  have hk : ∀ x, g < x → (wsetMany w g us.length vs).heap[x]? = w.heap[x]? := fun x hx => by
    have : ∀ (vs : List Value) (w : World) (i : Nat), (wsetMany w g i vs).heap[x]? = w.heap[x]? := by
      intro vs
      induction vs with
      | nil => intro w i; rfl
      | cons v vs ih =>
        intro w i
        show (wsetMany (w.setCell ⟨g, i, none⟩ v) g (i + 1) vs).heap[x]? = _
        rw [ih]
        exact Below.heap_setCell w ⟨g, i, none⟩ v x (by show x ≠ g; omega)
    exact this vs w us.length
  refine ⟨?_, (h.own.keep fun x hx => hk x (h.gt x hx)).append (ho.keep fun x hx => hk x (hg x hx)), List.nodup_append.2 ⟨h.nd, hn, fun x hx y hy e => by have := hd x hx y hy; omega⟩, fun x hx => ?_⟩
  · have h1 := OwnC.setMany vs us.length h.row
    rw [List.replicate_succ, List.flatten_cons, setMany_mid vs us z _ (hl.trans hz.symm), ← List.append_assoc] at h1
    exact h1
  · rcases List.mem_append.1 hx with hx | hx
    · exact h.gt x hx
    · exact hg x hx
/-- The row is built. -/
theorem Made.done (h : Made E s z w g n 0 cs us f) (hn : n = 0 → cs = []) : owC w (.row n cs) (.slice (some ⟨g, 0, none⟩) n n) (g :: f) ∧ (g :: f).Nodup := by
  have h1 := h.row
  rw [List.replicate_zero, List.flatten_nil, List.append_nil] at h1
  have hl := owE.length h.own
  refine ⟨?_, List.nodup_cons.2 ⟨fun hg => Nat.lt_irrefl _ (h.gt g hg), h.nd⟩⟩
  unfold owC
  rcases h1.row.2 with ⟨e, _⟩ | ⟨g', cap, cur, e, _, h3, h4, h5, _, h7⟩
  · cases e
  · injection e with e1 e2 e3
    injection e1 with e1
    injection e1 with e1
    subst e1
    subst e3
    refine .inr ⟨g, n, cur, E, f, rfl, h4, h5, h3, rfl, hn, ?_⟩
    have h8 : us.length = n * s := h1.row.1
    rw [← hl, h8, h7]
    exact h.own
end
/-! Cells one by one. -/
theorem rdC_num {w : World} {hi : Nat} {x : Int} {v : Value} : rdC w hi (.num x) v ↔ v = .int .i64 x ∧ (Lit.int .i64 x).wf = true := by unfold rdC; exact Iff.rfl
theorem rdC_flag {w : World} {hi : Nat} {b : Bool} {v : Value} : rdC w hi (.flag b) v ↔ v = .bool b := by unfold rdC; exact Iff.rfl
theorem owE_nil {w : World} {us : List Value} {f : List Nat} : owE w [] us f ↔ us = [] ∧ f = [] := by unfold owE; exact Iff.rfl
theorem owE_cons {w : World} {c : Cell} {cs : List Cell} {us : List Value} {f : List Nat} : owE w (c :: cs) us f ↔ ∃ u us' f1 f2, us = u :: us' ∧ f = f1 ++ f2 ∧ owC w c u f1 ∧ owE w cs us' f2 := by
  constructor
  · intro h
    unfold owE at h
    exact h
  · intro h
    unfold owE
    exact h
theorem owC_num {w : World} {x : Int} {v : Value} {f : List Nat} : owC w (.num x) v f ↔ v = .int .i64 x ∧ (Lit.int .i64 x).wf = true ∧ f = [] := by unfold owC; exact Iff.rfl
theorem owC_flag {w : World} {b : Bool} {v : Value} {f : List Nat} : owC w (.flag b) v f ↔ v = .bool b ∧ f = [] := by unfold owC; exact Iff.rfl
theorem ctC_num (x : Int) : ctC (.num x) = 1 := by unfold ctC; rfl
theorem ctC_flag (b : Bool) : ctC (.flag b) = 1 := by unfold ctC; rfl
theorem ctC_row (n : Nat) (cs : List Cell) : ctC (.row n cs) = ctE cs := by rw [ctC]
theorem mkC_num (x k : Int) : mkC (.num x) k = .num k := by unfold mkC; rfl
theorem mkC_flag (b : Bool) (k : Int) : mkC (.flag b) k = .flag (decide (k % 3 = 0)) := by unfold mkC; rfl
theorem mkC_row (n : Nat) (cs : List Cell) (k : Int) : mkC (.row n cs) k = .row n (mkE cs k) := by rw [mkC]
theorem szC_num (x : Int) : szC (.num x) = 0 := by unfold szC; rfl
theorem szC_flag (b : Bool) : szC (.flag b) = 0 := by unfold szC; rfl
theorem szC_row (n : Nat) (cs : List Cell) : szC (.row n cs) = n + szE cs := by rw [szC]
/-- A row of elements. -/
abbrev rowF {X : Type} (f : X → List Cell) (xs : List X) : Cell := .row xs.length (xs.flatMap f)
/-- Of a row that reads as marked: one element's cells. -/
theorem rdC.atMarked {X : Type} {f : X → List Cell} {s : Nat} {w : World} {hi c k : Nat} {q : Int} {a : Option Addr} {xs : List X} {x : X} (hf : ∀ x, (f x).length = s) (h : rdC w hi (.row xs.length (mkE (xs.flatMap f) q)) (.slice a xs.length c)) (hx : xs[k]? = some x) :
    ∃ vs b off, rdL w hi (mkE (f x) (q + ctE ((xs.take k).flatMap f))) vs ∧ a = some ⟨b, off, none⟩ ∧ b < hi ∧ b < w.heap.size ∧ ∀ (j : Nat) (u : Value), vs[j]? = some u → ∀ (B : Nat) (w' : World), b < B → Below B w w' → w'.cell? ⟨b, off + k * s + j, none⟩ = some u := by
  have hk : k < xs.length := (List.getElem?_eq_some_iff.1 hx).1
  unfold rdC at h
  obtain ⟨a', c', e, _, _, _, _, h5⟩ := h
  injection e with e1 e2 e3
  subst e1
  obtain ⟨b, off, rfl, g1, g2, g3⟩ := h5 (by omega)
  have hsp : xs.flatMap f = (xs.take k).flatMap f ++ (f x ++ (xs.drop (k + 1)).flatMap f) := by
    have h6 : xs = xs.take k ++ x :: xs.drop (k + 1) := by
      have h7 := (List.getElem?_eq_some_iff.1 hx).2
      rw [← h7, List.getElem_cons_drop, List.take_append_drop]
    have h8 : xs.flatMap f = (xs.take k ++ x :: xs.drop (k + 1)).flatMap f := congrArg (List.flatMap f) h6
    rw [h8, List.flatMap_append, List.flatMap_cons]
  rw [hsp, mkE_append, mkE_append] at g3
  obtain ⟨vs, q1, q2⟩ := rdE.list (rdE.drop g3)
  have hl : (mkE ((xs.take k).flatMap f) q).length = k * s := by rw [mkE_length, flatG_len hf, List.length_take, Nat.min_eq_left (by omega)]
  rw [hl] at q2
  exact ⟨vs, b, off, q1, rfl, g1, g2, fun j u hj B w' hB hb => (hb.cell (p := ⟨b, _, none⟩) hB).trans (q2 j u hj)⟩
theorem take_flat_succ {X : Type} (f : X → List Cell) {xs : List X} {k : Nat} {x : X} (hx : xs[k]? = some x) : (xs.take (k + 1)).flatMap f = (xs.take k).flatMap f ++ f x := by
  rw [List.take_add_one, hx, List.flatMap_append]
  simp
theorem drop_flat {X : Type} (f : X → List Cell) {xs : List X} {k : Nat} {x : X} (hx : xs[k]? = some x) : (xs.drop k).flatMap f = f x ++ (xs.drop (k + 1)).flatMap f := by
  have hk : k < xs.length := (List.getElem?_eq_some_iff.1 hx).1
  have h7 := (List.getElem?_eq_some_iff.1 hx).2
  rw [List.drop_eq_getElem_cons hk, List.flatMap_cons, h7]
/-- What a row's size comes to, from an element on. -/
theorem szE_take {X : Type} (f : X → List Cell) {xs : List X} {k : Nat} {x : X} (hx : xs[k]? = some x) : szE ((xs.take (k + 1)).flatMap f) = szE ((xs.take k).flatMap f) + szE (f x) := by rw [take_flat_succ f hx, szE_append]
theorem szE_split {X : Type} (f : X → List Cell) (xs : List X) (k : Nat) : szE (xs.flatMap f) = szE ((xs.take k).flatMap f) + szE ((xs.drop k).flatMap f) := by
  have h : xs.flatMap f = (xs.take k ++ xs.drop k).flatMap f := by rw [List.take_append_drop]
  rw [h, List.flatMap_append, szE_append]
theorem ctE_take {X : Type} (f : X → List Cell) {xs : List X} {k : Nat} {x : X} (hx : xs[k]? = some x) : ctE ((xs.take (k + 1)).flatMap f) = ctE ((xs.take k).flatMap f) + ctE (f x) := by rw [take_flat_succ f hx, ctE_append]
theorem ctE_split {X : Type} (f : X → List Cell) (xs : List X) (k : Nat) : ctE (xs.flatMap f) = ctE ((xs.take k).flatMap f) + ctE ((xs.drop k).flatMap f) := by
  have h : xs.flatMap f = (xs.take k ++ xs.drop k).flatMap f := by rw [List.take_append_drop]
  rw [h, List.flatMap_append, ctE_append]
theorem leftOver_yes {left n : Int} (h : n ≤ left) : leftOver left n = left - n := if_pos h
theorem leftOver_no {left n : Int} (h : ¬ n ≤ left) : leftOver left n = -1 := if_neg h
theorem szE_elem {X : Type} (f : X → List Cell) {xs : List X} {k : Nat} {x : X} (hx : xs[k]? = some x) : szE (f x) ≤ szE (xs.flatMap f) := by
  rw [szE_split f xs k, drop_flat f hx, szE_append]
  have h1 := szE_nonneg ((xs.take k).flatMap f)
  have h2 := szE_nonneg ((xs.drop (k + 1)).flatMap f)
  omega
theorem ctE_elem {X : Type} (f : X → List Cell) {xs : List X} {k : Nat} {x : X} (hx : xs[k]? = some x) : ctE ((xs.take k).flatMap f) + ctE (f x) ≤ ctE (xs.flatMap f) := by
  rw [ctE_split f xs k, drop_flat f hx, ctE_append]
  have h2 := ctE_nonneg ((xs.drop (k + 1)).flatMap f)
  omega
/-- Flat elements have no rows inside. -/
theorem szE_flat {X : Type} {f : X → List Cell} (h : ∀ x, szE (f x) = 0) : ∀ xs : List X, szE (xs.flatMap f) = 0
  | [] => by rw [List.flatMap_nil, szE_nil]
  | x :: xs => by rw [List.flatMap_cons, szE_append, h, szE_flat h xs]; rfl
theorem owC.form {w : World} {n : Nat} {cs : List Cell} {v : Value} {fp : List Nat} (h : owC w (.row n cs) v fp) : ∃ a c, v = .slice a n c ∧ n ≤ c ∧ c ≤ maxLen := by
  unfold owC at h
  rcases h with ⟨rfl, _, rfl, _⟩ | ⟨g, cap, cur, E, f, rfl, h1, h2, _⟩
  · exact ⟨none, 0, rfl, Nat.le_refl _, by decide⟩
  · exact ⟨_, cap, rfl, h1, h2⟩
theorem owC.block {w : World} {n : Nat} {pre : List Cell} {c : Cell} {rest : List Cell} {v : Value} {fp : List Nat} (h : owC w (.row n (pre ++ c :: rest)) v fp) : ∃ g cap, v = .slice (some ⟨g, 0, none⟩) n cap ∧ n ≤ cap ∧ cap ≤ maxLen := by
  unfold owC at h
  rcases h with ⟨_, h, _⟩ | ⟨g, cap, cur, E, f, rfl, h1, h2, _⟩
  · exact absurd h (by simp)
  · exact ⟨g, cap, rfl, h1, h2⟩
/-- All blocks from lo on that were there are as they were. -/
structure Keeps (lo : Nat) (w w' : World) : Prop where
  size : w.heap.size ≤ w'.heap.size
  block : ∀ k, lo ≤ k → k < w.heap.size → w'.heap[k]? = w.heap[k]?
theorem Keeps.of {lo : Nat} {w w' : World} (h : Below w.heap.size w w') : Keeps lo w w' := ⟨h.size, fun k _ hk => h.block k hk⟩
theorem Keeps.set {lo g : Nat} (hg : g < lo) (w : World) (i : Nat) (u : Value) : Keeps lo w (w.setCell ⟨g, i, none⟩ u) :=
  ⟨by simp [World.setCell], fun k hk _ => Below.heap_setCell w ⟨g, i, none⟩ u k (by show k ≠ g; omega)⟩
theorem Keeps.many {lo g : Nat} (hg : g < lo) : ∀ (us : List Value) (w : World) (i : Nat), Keeps lo w (wsetMany w g i us)
  | [], w, i => ⟨Nat.le_refl _, fun _ _ _ => rfl⟩
  | u :: us, w, i => by
    have h1 := Keeps.set hg w i u
    have h2 := Keeps.many hg us (w.setCell ⟨g, i, none⟩ u) (i + 1)
    exact ⟨Nat.le_trans h1.size h2.size, fun k a b => (h2.block k a (Nat.lt_of_lt_of_le b h1.size)).trans (h1.block k a b)⟩
theorem owC.keeps {lo : Nat} {w w' : World} {c : Cell} {v : Value} {fp : List Nat} (h : owC w c v fp) (hk : Keeps lo w w') (hf : ∀ k ∈ fp, lo ≤ k) : owC w' c v fp := by
  have hl := owC.lt h
  exact h.keep fun k hk2 => hk.block k (hf k hk2) (hl k hk2)
theorem owE.keeps {lo : Nat} {w w' : World} {cs : List Cell} {us : List Value} {fp : List Nat} (h : owE w cs us fp) (hk : Keeps lo w w') (hf : ∀ k ∈ fp, lo ≤ k) : owE w' cs us fp := by
  have hl := owE.lt h
  exact h.keep fun k hk2 => hk.block k (hf k hk2) (hl k hk2)
theorem blkZ_many {f : Nat} {T : TypeId} : ∀ (us : List Value) {w : World} {cs : Array Value} (i : Nat), w.heap[f]? = some (.cells cs T) → (wsetMany w f i us).heap[f]? = some (.cells (setMany cs.toList i us).toArray T)
  | [], w, cs, i, h => by
    show w.heap[f]? = _
    rw [h]
    simp [setMany]
  | u :: us, w, cs, i, h => by
    have hs : (w.setCell ⟨f, i, none⟩ u).heap[f]? = some (.cells (cs.setIfInBounds i u) T) := by simp [World.setCell, Array.getElem?_modify, h]
    have h1 := blkZ_many us (i + 1) hs
    rw [Array.toList_setIfInBounds] at h1
    exact h1
theorem blkZ_far {f g : Nat} {o : Obj} (hg : g ≠ f) : ∀ (us : List Value) {w : World} (i : Nat), w.heap[g]? = some o → (wsetMany w f i us).heap[g]? = some o
  | [], w, i, h => h
  | u :: us, w, i, h => blkZ_far hg us (i + 1) ((Below.heap_setCell _ _ _ _ hg).trans h)
theorem nd_app {f g : List Nat} {m : Nat} (hf : f.Nodup) (hg : g.Nodup) (h1 : ∀ k ∈ f, k < m) (h2 : ∀ k ∈ g, m ≤ k) : (f ++ g).Nodup :=
  List.nodup_append.2 ⟨hf, hg, fun x hx y hy e => by have := h1 x hx; have := h2 y hy; omega⟩
theorem Made.cell {E : TypeId} {s g n k j : Nat} {z us : List Value} {w : World} {cs : List Cell} {f : List Nat} (h : Made E s z w g n (k + 1) cs us f) (hz : z.length = s) (hj : j < s) : w.cell? ⟨g, us.length + j, none⟩ = z[j]? ∧ w.frozen? ⟨g, us.length + j, none⟩ = false := by
  have hr := h.row.row
  have hl : (us ++ (List.replicate (k + 1) z).flatten).length = n * s := hr.1
  have hlt : us.length + j < n * s := by
    rw [← hl, List.length_append, List.replicate_succ, List.flatten_cons, List.length_append]
    omega
  refine ⟨(hr.cellAt (us.length + j) hlt).trans ?_, hr.frozenAt _⟩
  rw [List.getElem?_append_right (by omega), Nat.add_sub_cancel_left, List.replicate_succ, List.flatten_cons, List.getElem?_append_left (by omega)]
/-- A piece of a struct's cells: what may be put in its place. -/
theorem owE.mid {w : World} : ∀ {pre mid rest : List Cell} {up um ur : List Value} {f : List Nat}, up.length = pre.length → um.length = mid.length → owE w (pre ++ (mid ++ rest)) (up ++ (um ++ ur)) f → f.Nodup →
    ∃ fm, owE w mid um fm ∧ fm.Nodup ∧ (∀ k ∈ fm, k ∈ f) ∧ ∀ (w' : World) (mid' : List Cell), owE w' mid' um fm → (∀ k ∈ f, k ∉ fm → w'.heap[k]? = w.heap[k]?) → owE w' (pre ++ (mid' ++ rest)) (up ++ (um ++ ur)) f
  | [], mid, rest, up, um, ur, f, hp, hm, h, nd => by
    obtain rfl : up = [] := List.length_eq_zero_iff.mp hp
    rw [List.nil_append, List.nil_append] at h
    have key : ∀ {mid : List Cell} {um : List Value} {f : List Nat}, um.length = mid.length → owE w (mid ++ rest) (um ++ ur) f → ∃ fm fr, f = fm ++ fr ∧ owE w mid um fm ∧ owE w rest ur fr := by
      intro mid
      induction mid with
      | nil =>
        intro um f hm h
        obtain rfl : um = [] := List.length_eq_zero_iff.mp hm
        exact ⟨[], f, rfl, owE_nil.2 ⟨rfl, rfl⟩, h⟩
      | cons c mid ih =>
        intro um f hm h
        cases um with
        | nil => cases hm
        | cons u um =>
          rw [List.cons_append, List.cons_append] at h
          obtain ⟨u', us', f1, f2, e, rfl, h1, h2⟩ := owE_cons.1 h
          injection e with e1 e2
          subst e1
          subst e2
          obtain ⟨fm, fr, rfl, h3, h4⟩ := ih (by simpa using hm) h2
          exact ⟨f1 ++ fm, fr, by simp, owE_cons.2 ⟨u, um, f1, fm, rfl, rfl, h1, h3⟩, h4⟩
    obtain ⟨fm, fr, rfl, h1, h2⟩ := key hm h
    obtain ⟨n1, n2, n3⟩ := List.nodup_append.1 nd
    refine ⟨fm, h1, n1, fun k hk => List.mem_append_left _ hk, fun w' mid' h3 h4 => ?_⟩
    rw [List.nil_append, List.nil_append]
    exact h3.append (h2.keep fun k hk => h4 k (List.mem_append_right _ hk) fun hk1 => n3 k hk1 k hk rfl)
  | c :: pre, mid, rest, up, um, ur, f, hp, hm, h, nd => by
    cases up with
    | nil => cases hp
    | cons u up =>
      rw [List.cons_append, List.cons_append] at h
      obtain ⟨u', us', f1, f2, e, rfl, h1, h2⟩ := owE_cons.1 h
      injection e with e1 e2
      subst e1
      subst e2
      obtain ⟨n1, n2, n3⟩ := List.nodup_append.1 nd
      obtain ⟨fm, g1, g2, g3, g4⟩ := owE.mid (by simpa using hp) hm h2 n2
      refine ⟨fm, g1, g2, fun k hk => List.mem_append_right _ (g3 k hk), fun w' mid' h3 h4 => ?_⟩
      rw [List.cons_append, List.cons_append]
      exact owE_cons.2 ⟨u, _, f1, f2, rfl, rfl, h1.keep fun k hk => h4 k (List.mem_append_left _ hk) fun hk1 => n3 k hk k (g3 k hk1) rfl, g4 w' mid' h3 fun k hk hn => h4 k (List.mem_append_right _ hk) hn⟩
theorem Touch.allocd {fp : List Nat} {w : World} (o : Obj) : Touch fp w (w.alloc o) := Touch.of ((Below.refl _ _).alloc (Nat.le_refl _) o)
theorem owE.touch {w w' : World} {cs : List Cell} {us : List Value} {f g : List Nat} (h : owE w cs us f) (t : Touch g w w') (hd : ∀ k ∈ f, k ∉ g) : owE w' cs us f := by
  have hl := owE.lt h
  exact h.keep fun k hk => t.block k (hl k hk) (hd k hk)
theorem owC.touch {w w' : World} {c : Cell} {v : Value} {f g : List Nat} (h : owC w c v f) (t : Touch g w w') (hd : ∀ k ∈ f, k ∉ g) : owC w' c v f := by
  have hl := owC.lt h
  exact h.keep fun k hk => t.block k (hl k hk) (hd k hk)
theorem ctT_le : ∀ cs : List Cell, 0 ≤ ctT cs ∧ ctT cs ≤ ctE cs
  | [] => ⟨by unfold ctT; decide, by unfold ctT; rw [ctE_nil]; decide⟩
  | .num x :: cs => by
    have h := ctT_le cs
    rw [ctE_cons, ctC_num]
    show 0 ≤ ctT cs ∧ ctT cs ≤ _
    omega
  | .flag x :: cs => by
    have h := ctT_le cs
    rw [ctE_cons, ctC_flag]
    show 0 ≤ ctT cs ∧ ctT cs ≤ _
    omega
  | .row m ds :: cs => by
    have h := ctT_le cs
    have h2 := ctE_nonneg ds
    rw [ctE_cons, ctC_row]
    show 0 ≤ ctE ds + ctT cs ∧ ctE ds + ctT cs ≤ _
    omega
end Go.Proofs.YtmgigjpkpeamjaaGreat
