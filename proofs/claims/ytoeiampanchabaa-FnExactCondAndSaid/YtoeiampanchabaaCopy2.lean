/- Conditions (chapter 15): copyOf at conditions; what 'copied' keeps between two rounds. No condition but the bounds of what came in. -/
import Derived.Test.YtoeiampanchabaaCopy1
namespace Go.Proofs.Ytoeiampanchabaa
open Go.ChangeShapes Go.WideShapes Go.ChangeAt Go.RowKit
set_option linter.unusedVariables false

theorem rdL_split {W : World} {hi : Nat} : ∀ {a b : List Cell} {us : List Value}, rdL W hi (a ++ b) us → ∃ ua ub, us = ua ++ ub ∧ rdL W hi a ua ∧ rdL W hi b ub
  | [], b, us, h => ⟨[], us, rfl, rfl, h⟩
  | c :: a, b, us, h => by
    obtain ⟨v, vs, rfl, h1, h2⟩ := h
    obtain ⟨ua, ub, rfl, h3, h4⟩ := rdL_split h2
    exact ⟨v :: ua, ub, rfl, ⟨v, ua, rfl, h1, h3⟩, h4⟩
theorem rdL_kid {W : World} {hi : Nat} : ∀ {es : List CondD} {us : List Value} {k : Nat} {e : CondD}, rdL W hi (es.flatMap CondD.c) us → es[k]? = some e → ∃ vs, rdL W hi (CondD.c e) vs ∧ ∀ j u, vs[j]? = some u → us[k * 4 + j]? = some u
  | [], us, k, e, _, h => by simp at h
  | x :: es, us, 0, e, h, hk => by
    obtain rfl : x = e := by simpa using hk
    rw [List.flatMap_cons] at h
    obtain ⟨ua, ub, rfl, h1, h2⟩ := rdL_split h
    refine ⟨ua, h1, fun j u hj => ?_⟩
    rw [Nat.zero_mul, Nat.zero_add, List.getElem?_append_left (List.getElem?_eq_some_iff.1 hj).1]
    exact hj
  | x :: es, us, k + 1, e, h, hk => by
    rw [List.flatMap_cons] at h
    obtain ⟨ua, ub, rfl, h1, h2⟩ := rdL_split h
    obtain ⟨vs, h3, h4⟩ := rdL_kid h2 (show es[k]? = some e by simpa using hk)
    have hl : ua.length = 4 := by rw [rdL.length h1, CondD.c_len]
    refine ⟨vs, h3, fun j u hj => ?_⟩
    rw [List.getElem?_append_right (by rw [hl]; omega), hl, show (k + 1) * 4 + j - 4 = k * 4 + j by omega]
    exact h4 j u hj
/-- The arguments of a condition that came in, as raw cells. -/
theorem row_raw {W : World} {hi : Nat} {es : List CondD} {v : Value} (h : rdC W hi (rowF CondD.c es) v) : ∃ us, RowC 4 W hi v es.length us ∧ rdL W hi (es.flatMap CondD.c) us := by
  unfold rowF rdC at h
  obtain ⟨a, c, rfl, h1, h2, h3, h4, h5⟩ := h
  by_cases hp : 0 < es.length
  · obtain ⟨b, off, rfl, g1, g2, g3⟩ := h5 hp
    obtain ⟨vs, r1, r2⟩ := rdE.list (rest := []) (by rw [List.append_nil]; exact g3)
    exact ⟨vs, ⟨by rw [rdL.length r1, flatC_len], _, c, rfl, h1, h2, h3, fun _ => ⟨b, off, rfl, g1, g2, r2⟩⟩, r1⟩
  · have he : es = [] := List.length_eq_zero_iff.mp (by omega)
    subst he
    exact ⟨[], ⟨rfl, a, c, rfl, h1, h2, h3, fun hp => absurd hp (by simp)⟩, rfl⟩
set_option maxHeartbeats 1000000 in
theorem impl_copyConds (w : World) (hi c n : Nat) (a : Option Addr) (us : List Value) (h : RowC 4 w hi (.slice a n c) n us) (h1 : ∀ u ∈ us, u.oneCell' = true) (hh : hi ≤ w.heap.size) (hn : n ≤ 1000000000) :
    Calls Try.prog 66 #[.slice a n c] w fun e w' => ∃ u, e = .returned u ∧ w'.ownsRow w.heap.size 26 4 u n us ∧ Below w.heap.size w w' := by
  obtain ⟨i0, hi0, hz0, hz1, hz2⟩ := info_parts infoCond15
  have hE := OwnC.empty 26 4 w
  have hb0 : Below w.heap.size w (w.alloc (.cells #[] 26)) := (Below.refl _ _).alloc (Nat.le_refl _) _
  have hr := h.below hb0 hh
  go_enter Try.func66, Try.ntmps66
  go_wp2_with (at_builtin; refine wpList_append_OwnC rfl _ _ _ rfl i0 (.agg #[.int .i64 0, .int .i64 0, .int .i64 0, .slice none 0 0]) 48 Try.underlying24 hi0 hz0 hz1 hz2 rfl (by decide) rfl hE _ _ _ _ rfl hr h1 (by omega) (by decide) (by simp) ?_; intro v w' ho hb)
  go_ret
  refine ⟨_, rfl, ?_, hb0.trans hb⟩
  have hr2 := ho.row
  rw [Nat.zero_add, List.nil_append] at hr2
  exact hr2
/-- A node ahead: its cells, and its arguments as they came in. -/
structure PdN (W : World) (hi : Nat) (x : Nd) : Prop where
  rd : ∃ A c, rdL W hi (CondD.c x.d) [.int .i64 x.d.Op, .int .i64 x.d.A, .int .i64 x.d.B, .slice A x.d.Args.length c] ∧
    W.cell? ⟨x.b, x.off, none⟩ = some (.int .i64 x.d.Op) ∧ W.cell? ⟨x.b, x.off + 1, none⟩ = some (.int .i64 x.d.A) ∧ W.cell? ⟨x.b, x.off + 2, none⟩ = some (.int .i64 x.d.B) ∧ W.cell? ⟨x.b, x.off + 3, none⟩ = some (.slice A x.d.Args.length c)
theorem PdN.keep {A B : World} {hi : Nat} {x : Nd} (h : PdN A hi x) (hs : A.heap.size ≤ B.heap.size) (hb : ∀ k, k < hi → k < A.heap.size → B.heap[k]? = A.heap[k]?) (hx : ∀ j, j < 4 → B.cell? ⟨x.b, x.off + j, none⟩ = A.cell? ⟨x.b, x.off + j, none⟩) : PdN B hi x := by
  obtain ⟨P, c, h0, h1, h2, h3, h4⟩ := h.rd
  exact ⟨P, c, h0.keep hs hb, (hx 0 (by decide)).trans h1, (hx 1 (by decide)).trans h2, (hx 2 (by decide)).trans h3, (hx 3 (by decide)).trans h4⟩
/-- What 'copied' keeps between two rounds. -/
structure InC (x0 : CondD) (hi lo D : Nat) (w : World) (T : List Nd) (M : List Nat) (V : World) : Prop where
  len : (todo T).length ≤ (preC x0).length
  bel : Below lo w V
  res : V.heap[lo + 1]? = some (.cells #[.int .i64 0, .int .i64 0, .int .i64 0, .slice none 0 0] 26)
  wd : ∃ Dl, Wand lo x0 Dl T V ∧ lo ∈ Dl ∧ (∀ y ∈ T, y.b ∈ Dl) ∧ ∀ k ∈ Dl, (k = lo ∨ D + 2 ≤ k) ∧ k ∉ M ∧ k < V.heap.size ∧ ∃ cs E, V.heap[k]? = some (.cells cs E)
  pd : ∀ y ∈ T, PdN V hi y
  al : ∀ y ∈ T, y.off % 4 = 0
  dis : T.Pairwise (fun a b => ¬ (b.b = a.b ∧ b.off = a.off))
section
variable {x0 : CondD} {hi lo D : Nat} {w V Vc X Y : World} {T : List Nd} {M M' : List Nat}
theorem InC.abides (h : InC x0 hi lo D w T M X) (hD : lo + 3 = D) (hhi : hi ≤ lo) (hz : D ≤ X.heap.size) (hM : ∀ k ∈ M, D + 2 ≤ k) (ht : Touch (D :: (D + 1) :: M) X Y) (hm : ∀ k ∈ M', (k ∈ M ∨ X.heap.size ≤ k) ∧ k < Y.heap.size) : InC x0 hi lo D w T M' Y := by
  have hk : ∀ k, k < D → Y.heap[k]? = X.heap[k]? := fun k hk => ht.block k (by omega) (fun h => by
    rcases List.mem_cons.1 h with h | h
    · omega
    rcases List.mem_cons.1 h with h | h
    · omega
    · have := hM _ h; omega)
  obtain ⟨Dl, q1, q2, q3, q4⟩ := h.wd
  have hkD : ∀ k ∈ Dl, Y.heap[k]? = X.heap[k]? := fun k hk2 => by
    obtain ⟨a1, a2, a3, _⟩ := q4 k hk2
    refine ht.block k a3 (fun h => ?_)
    rcases List.mem_cons.1 h with h | h
    · omega
    rcases List.mem_cons.1 h with h | h
    · omega
    · exact a2 h
  refine ⟨h.len, h.bel.trans ⟨ht.os, ht.tape, ht.output, ht.size, fun k h => hk k (by omega)⟩, (hk _ (by omega)).trans h.res, ⟨Dl, q1.keep ht.size hkD, q2, q3, fun k hk2 => ?_⟩, fun y hy => ?_, h.al, h.dis⟩
  · obtain ⟨a1, a2, a3, cs, E, a4⟩ := q4 k hk2
    refine ⟨a1, fun h => ?_, Nat.lt_of_lt_of_le a3 ht.size, cs, E, (hkD k hk2).trans a4⟩
    rcases (hm k h).1 with h | h
    · exact a2 h
    · omega
  · exact (h.pd y hy).keep ht.size (fun k h1 _ => hk k (by omega)) (fun j _ => World.cell?_of_block (hkD _ (q3 y hy)))
theorem InC.step {x : Nd} {rest : List Nd} {u : Value} {us : List Value} {N : Nat} (h : InC x0 hi lo D w (x :: rest) M V) (hD : lo + 3 = D) (hhi : hi ≤ lo) (hz : D + 2 ≤ V.heap.size) (hM : ∀ k ∈ M, D + 2 ≤ k ∧ k < V.heap.size) (hN : (preC x0).length ≤ N)
    (hc : Below V.heap.size V Vc) (hrow : Vc.ownsRow V.heap.size 26 4 u x.d.Args.length us) (hus : rdL V hi (x.d.Args.flatMap CondD.c) us) :
    Same (D :: (D + 1) :: M) V (Vc.setCell ⟨x.b, x.off + 3, none⟩ u) ∧ ∃ T', stepN N (x :: rest) T' M (Vc.setCell ⟨x.b, x.off + 3, none⟩ u) ∧ InC x0 hi lo D w T' M (Vc.setCell ⟨x.b, x.off + 3, none⟩ u) := by
  obtain ⟨Dl, q1, q2, q3, q4⟩ := h.wd
  obtain ⟨P, c, h0, h1, h2, h3, h4⟩ := (h.pd x List.mem_cons_self).rd
  obtain ⟨hdx, hdr⟩ := List.pairwise_cons.1 h.dis
  have hxD := q3 x List.mem_cons_self
  have hxl := (q4 _ hxD).2.2.1
  have hwf : (Lit.int .i64 x.d.Op).wf = true ∧ (Lit.int .i64 x.d.A).wf = true ∧ (Lit.int .i64 x.d.B).wf = true := by
    obtain ⟨xb, xo, ⟨o, a, b, es⟩⟩ := x
    exact cond_wf h0
  obtain ⟨Dl1, g, hw1, hcase⟩ := q1.step h1 h2 h3 h4 hwf hxD (fun k hk => (q4 k hk).2.2.1) (fun k hk => (q4 k hk).2.2.2) (fun y hy => q3 y (List.mem_cons_of_mem _ hy)) ⟨h.al x List.mem_cons_self, fun y hy => h.al y (List.mem_cons_of_mem _ hy)⟩ (fun y hy => hdx y hy) hc hrow
  have hs1 : (Vc.setCell ⟨x.b, x.off + 3, none⟩ u).heap.size = Vc.heap.size := by simp [World.setCell]
  have hkV : ∀ k, k < V.heap.size → k ≠ x.b → (Vc.setCell ⟨x.b, x.off + 3, none⟩ u).heap[k]? = V.heap[k]? := fun k hk hn => (Below.heap_setCell Vc ⟨x.b, x.off + 3, none⟩ u k hn).trans (hc.block k hk)
  have hcu : (Vc.setCell ⟨x.b, x.off + 3, none⟩ u).cell? ⟨x.b, x.off + 3, none⟩ = some u := World.cell?_setCell_same' _ _ _ (by rw [(hc.cell (p := ⟨x.b, x.off + 3, none⟩) hxl), h4]; rfl)
  have hxb : x.b = lo ∨ D + 2 ≤ x.b := (q4 _ hxD).1
  have hsame : Same (D :: (D + 1) :: M) V (Vc.setCell ⟨x.b, x.off + 3, none⟩ u) := ⟨by rw [hs1]; exact hc.size, fun k hk => by
    rcases List.mem_cons.1 hk with rfl | hk
    · exact hkV _ (by omega) (by omega)
    rcases List.mem_cons.1 hk with rfl | hk
    · exact hkV _ (by omega) (by omega)
    · exact hkV k (hM k hk).2 (fun e => (q4 _ hxD).2.1 (e ▸ hk))⟩
  have hul : us.length = x.d.Args.length * 4 := hrow.1
  have htodo : (todo (kidsAt g 0 x.d.Args ++ rest)).length + 1 = (todo (x :: rest)).length := by rw [todo_step x rest g 0]; rfl
  have hlen := h.len
  -- a cell elsewhere
  have hoth : ∀ (b o : Nat), b < V.heap.size → ¬ (b = x.b ∧ o = x.off + 3) → (Vc.setCell ⟨x.b, x.off + 3, none⟩ u).cell? ⟨b, o, none⟩ = V.cell? ⟨b, o, none⟩ := fun b o hb hne => by
    rw [World.cell?_setCell_other _ _ _ _ (fun e => hne (by cases e; exact ⟨rfl, rfl⟩))]
    exact hc.cell (p := ⟨b, o, none⟩) hb
  have hlow : ∀ k, k < hi → k < V.heap.size → (Vc.setCell ⟨x.b, x.off + 3, none⟩ u).heap[k]? = V.heap[k]? := fun k h5 h6 => hkV k h6 (by omega)
  have hrest : ∀ y ∈ rest, PdN (Vc.setCell ⟨x.b, x.off + 3, none⟩ u) hi y := fun y hy => (h.pd y (List.mem_cons_of_mem _ hy)).keep hsame.size hlow (fun j hj => hoth _ _ (q4 _ (q3 y (List.mem_cons_of_mem _ hy))).2.2.1 (fun e => by
    have e1 := h.al y (List.mem_cons_of_mem _ hy)
    have e2 := h.al x List.mem_cons_self
    exact hdx y hy ⟨e.1, by omega⟩))
  have hbel : Below lo w (Vc.setCell ⟨x.b, x.off + 3, none⟩ u) := h.bel.trans ((hc.mono (by omega)).setCell (p := ⟨x.b, x.off + 3, none⟩) (by show lo ≤ x.b; omega) u)
  have hres := (hkV (lo + 1) (by omega) (by omega)).trans h.res
  have hDl : ∀ k ∈ Dl, (k = lo ∨ D + 2 ≤ k) ∧ k ∉ M ∧ k < (Vc.setCell ⟨x.b, x.off + 3, none⟩ u).heap.size ∧ ∃ cs E, (Vc.setCell ⟨x.b, x.off + 3, none⟩ u).heap[k]? = some (.cells cs E) := fun k hk => by
    obtain ⟨a1, a2, a3, cs, E, a4⟩ := q4 k hk
    refine ⟨a1, a2, by rw [hs1]; exact Nat.lt_of_lt_of_le a3 hc.size, ?_⟩
    by_cases he : k = x.b
    · subst he
      exact ⟨_, E, blk_set ((hc.block _ a3).trans a4) (i := x.off + 3) u⟩
    · exact ⟨cs, E, (hkV k a3 he).trans a4⟩
  rcases hcase with ⟨rfl, he, rfl⟩ | ⟨rfl, g1, g2, cap, rfl, g3, g4⟩
  · refine ⟨hsame, kidsAt g 0 x.d.Args ++ rest, ⟨x, rest, g, 0, none, 0, rfl, rfl, by have := todo_len (kidsAt g 0 x.d.Args ++ rest); omega, (q4 _ hxD).2.1, by rw [he] at *; exact hcu, by rw [he]; exact Nat.le_refl _, fun hp => absurd hp (by rw [he]; simp), fun k hk => absurd hk (by rw [he]; simp)⟩, by omega, hbel, hres, ⟨Dl1, hw1, q2, ?_, hDl⟩, ?_, ?_, ?_⟩
    all_goals rw [he]
    · exact fun y hy => q3 y (List.mem_cons_of_mem _ hy)
    · exact hrest
    · exact fun y hy => h.al y (List.mem_cons_of_mem _ hy)
    · exact hdr
  · have hgM : g ∉ M := fun hk => by have := (hM g hk).2; omega
    have hgx : g ≠ x.b := by omega
    have hg1 : ∀ j q, us[j]? = some q → (Vc.setCell ⟨x.b, x.off + 3, none⟩ (.slice (some ⟨g, 0, none⟩) x.d.Args.length cap)).cell? ⟨g, j, none⟩ = some q := fun j q hj => by
      rw [World.cell?_setCell_other _ _ _ _ (fun e => hgx (by cases e; rfl))]
      exact g4 j q hj
    refine ⟨hsame, kidsAt g 0 x.d.Args ++ rest, ⟨x, rest, g, 0, some ⟨g, 0, none⟩, cap, rfl, rfl, by have := todo_len (kidsAt g 0 x.d.Args ++ rest); omega, (q4 _ hxD).2.1, hcu, g3, fun _ => ⟨rfl, hgM⟩, fun k hk j hj => ?_⟩, by omega, hbel, hres, ⟨g :: Dl, hw1, List.mem_cons_of_mem _ q2, fun y hy => ?_, fun k hk => ?_⟩, fun y hy => ?_, fun y hy => ?_, ?_⟩
    · have hlt : k * 4 + j < us.length := by omega
      refine ⟨us[k * 4 + j], ?_⟩
      rw [Nat.zero_add]
      exact hg1 _ _ (List.getElem?_eq_getElem hlt)
    · rcases List.mem_append.1 hy with hy | hy
      · rw [(kids_b hy).1]
        exact List.mem_cons_self
      · exact List.mem_cons_of_mem _ (q3 y (List.mem_cons_of_mem _ hy))
    · rcases List.mem_cons.1 hk with rfl | hk
      · refine ⟨.inr (by omega), hgM, by rw [hs1]; exact g2, ?_⟩
        have hb := Below.heap_setCell Vc ⟨x.b, x.off + 3, none⟩ (.slice (some ⟨k, 0, none⟩) x.d.Args.length cap) k hgx
        rcases hrow.2 with ⟨h0, _⟩ | ⟨g', cap', cur, e, _, hcur, _⟩
        · cases h0
        · injection e with e1 _ _
          injection e1 with e1
          injection e1 with e1
          subst e1
          exact ⟨cur, _, hb.trans hcur⟩
      · exact hDl k hk
    · rcases List.mem_append.1 hy with hy | hy
      · obtain ⟨hyb, k, hyo, hyd⟩ := kids_b hy
        obtain ⟨yb, yo, ⟨o, a, b, es⟩⟩ := y
        simp only at hyb hyo hyd
        subst hyb hyo
        obtain ⟨vs, r1, r2⟩ := rdL_kid hus hyd
        obtain ⟨A', c', rfl, f1, f2, hr⟩ := cond_in r1
        have hc4 : ∀ j q, [Value.int .i64 o, .int .i64 a, .int .i64 b, .slice A' es.length c'][j]? = some q → (Vc.setCell ⟨x.b, x.off + 3, none⟩ (.slice (some ⟨yb, 0, none⟩) x.d.Args.length cap)).cell? ⟨yb, 0 + k * 4 + j, none⟩ = some q := fun j q hj => by
          rw [Nat.zero_add]
          exact hg1 _ _ (r2 j q hj)
        exact ⟨A', c', r1.keep hsame.size hlow, hc4 0 _ rfl, hc4 1 _ rfl, hc4 2 _ rfl, hc4 3 _ rfl⟩
      · exact hrest y hy
    · rcases List.mem_append.1 hy with hy | hy
      · obtain ⟨_, k, hyo, _⟩ := kids_b hy
        omega
      · exact h.al y (List.mem_cons_of_mem _ hy)
    · refine List.pairwise_append.2 ⟨?_, hdr, fun y hy z hz hh => ?_⟩
      · have hpk : ∀ (es : List CondD) (off : Nat), (kidsAt g off es).Pairwise (fun a b => ¬ (b.b = a.b ∧ b.off = a.off)) := fun es => by
          induction es with
          | nil => exact fun off => List.Pairwise.nil
          | cons e es ih =>
            intro off
            refine List.pairwise_cons.2 ⟨fun z hz hh => ?_, ih (off + 4)⟩
            obtain ⟨_, k, hk, _⟩ := kids_b hz
            have := hh.2
            simp only at this
            omega
        exact hpk _ _
      · have e1 := (kids_b hy).1
        have e2 := (q4 _ (q3 z (List.mem_cons_of_mem _ hz))).2.2.1
        have := hh.1
        omega
end
end Go.Proofs.Ytoeiampanchabaa
