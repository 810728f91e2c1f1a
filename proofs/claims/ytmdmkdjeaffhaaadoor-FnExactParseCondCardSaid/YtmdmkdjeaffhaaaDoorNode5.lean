/- Conditions (chapter 15): nodes that are read while a range over them runs; SizeOf as landed. No condition but the bounds of what came in. -/
import Derived.Test.YtmdmkdjeaffhaaaDoorNode4
import Derived.Test.YtmdmkdjeaffhaaaDoorCond3
namespace Go.Proofs.YtmdmkdjeaffhaaaDoor
open Go.ChangeShapes Go.WideShapes Go.ChangeAt Go.RowKit Go.Shelf
set_option linter.unusedVariables false
attribute [local go_sem] Oper.semAt_some

/-- A node that reads as it should, below hi. -/
structure RdN (W : World) (hi : Nat) (x : Nd) : Prop where
  rd : ∃ A c, rdL W hi (CondD.c x.d) [.int .i64 x.d.Op, .int .i64 x.d.A, .int .i64 x.d.B, .slice A x.d.Args.length c] ∧
    W.cell? ⟨x.b, x.off, none⟩ = some (.int .i64 x.d.Op) ∧ W.cell? ⟨x.b, x.off + 1, none⟩ = some (.int .i64 x.d.A) ∧ W.cell? ⟨x.b, x.off + 2, none⟩ = some (.int .i64 x.d.B) ∧ W.cell? ⟨x.b, x.off + 3, none⟩ = some (.slice A x.d.Args.length c)
  lt : x.b < hi ∧ x.b < W.heap.size
section
variable {W W' : World} {hi : Nat} {x : Nd}
theorem RdN.below (h : RdN W hi x) (hb : Below hi W W') : RdN W' hi x := by
  obtain ⟨A, c, h0, h1, h2, h3, h4⟩ := h.rd
  exact ⟨⟨A, c, h0.below hb (Nat.le_refl _), (hb.cell (p := ⟨x.b, x.off, none⟩) h.lt.1).trans h1, (hb.cell (p := ⟨x.b, x.off + 1, none⟩) h.lt.1).trans h2, (hb.cell (p := ⟨x.b, x.off + 2, none⟩) h.lt.1).trans h3, (hb.cell (p := ⟨x.b, x.off + 3, none⟩) h.lt.1).trans h4⟩, h.lt.1, Nat.lt_of_lt_of_le h.lt.2 hb.size⟩
theorem RdN.kids (h : RdN W hi x) : ∃ A c b off, W.cell? ⟨x.b, x.off + 3, none⟩ = some (.slice A x.d.Args.length c) ∧ x.d.Args.length ≤ c ∧ (0 < x.d.Args.length → A = some ⟨b, off, none⟩ ∧ b < hi) ∧ (∀ k, k < x.d.Args.length → ∀ j, j < 4 → ∃ u, W.cell? ⟨b, off + k * 4 + j, none⟩ = some u) ∧ ∀ y ∈ kidsAt b off x.d.Args, RdN W hi y := by
  obtain ⟨A, c, h0, h1, h2, h3, h4⟩ := h.rd
  obtain ⟨xb, xo, ⟨o, a, b, es⟩⟩ := x
  obtain ⟨A', c', e, f1, f2, hr⟩ := cond_in h0
  simp only [List.cons.injEq, Value.slice.injEq, and_true, true_and] at e
  obtain ⟨rfl, rfl⟩ := e
  by_cases h0 : 0 < es.length
  · obtain ⟨⟨o0, a0, b0, fs⟩, hy⟩ : ∃ y, es[0]? = some y := ⟨_, List.getElem?_eq_getElem h0⟩
    obtain ⟨b', off, A1, c1, rfl, m1, m2, hr1, HC⟩ := cond_at hr hy
    have hall : ∀ k (hk : k < es.length), RdN W hi ⟨b', off + k * 4, es[k]⟩ := fun k hk => by
      have hz : es[k]? = some es[k] := List.getElem?_eq_getElem hk
      generalize es[k] = z at hz ⊢
      obtain ⟨o2, a2, b2, gs⟩ := z
      obtain ⟨b3, off3, A3, c3, e3, n1, n2, hr3, HC3⟩ := cond_at hr hz
      injection e3 with e3
      injection e3 with e4 e5
      subst e4 e5
      have q := HC3 hi W n1 (Below.refl _ _)
      exact ⟨⟨A3, c3, hr3, q.1, q.2.1, q.2.2.1, q.2.2.2⟩, n1, n2⟩
    refine ⟨_, c, b', off, h4, f1, fun _ => ⟨rfl, m1⟩, fun k hk j hj => ?_, fun y hy2 => ?_⟩
    · obtain ⟨A3, c3, -, q0, q1, q2, q3⟩ := (hall k hk).rd
      match j, hj with
      | 0, _ => exact ⟨_, q0⟩
      | 1, _ => exact ⟨_, q1⟩
      | 2, _ => exact ⟨_, q2⟩
      | 3, _ => exact ⟨_, q3⟩
    · obtain ⟨k, hk⟩ := List.getElem?_of_mem hy2
      rw [kidsAt_at] at hk
      by_cases hkl : k < es.length
      · rw [List.getElem?_eq_getElem hkl] at hk
        simp only [Option.map_some, Option.some.injEq] at hk
        subst hk
        exact hall k hkl
      · rw [show es[k]? = none from List.getElem?_eq_none (by omega)] at hk
        simp at hk
  · have he : es = [] := List.length_eq_zero_iff.mp (by omega)
    subst he
    exact ⟨_, c, 0, 0, h4, f1, fun h => absurd h (by simp), fun k hk => absurd hk (by simp), fun y hy => by simp [kidsAt] at hy⟩
end
/-- What a range over a condition's nodes that only reads keeps: vis have come, T are ahead. -/
structure InT (x0 : CondD) (hi : Nat) (W1 : World) (vis : List CondD) (T : List Nd) (V : World) : Prop where
  all : vis ++ todo T = preC x0
  rd : ∀ y ∈ T, RdN V hi y
  bel : Below hi W1 V
section
variable {x0 : CondD} {hi : Nat} {W1 V V' : World} {vis : List CondD} {T : List Nd}
theorem InT.below (h : InT x0 hi W1 vis T V) (hb : Below hi V V') : InT x0 hi W1 vis T V' := ⟨h.all, fun y hy => (h.rd y hy).below hb, h.bel.trans hb⟩
theorem InT.len (h : InT x0 hi W1 vis T V) : vis.length + (todo T).length = (preC x0).length := by rw [← h.all, List.length_append]
theorem InT.step {x : Nd} {rest : List Nd} {M : List Nat} {N : Nat} (h : InT x0 hi W1 vis (x :: rest) V) (hM : ∀ k ∈ M, hi ≤ k) (hN : (preC x0).length ≤ N) : ∃ T', stepN N (x :: rest) T' M V ∧ InT x0 hi W1 (vis ++ [x.d]) T' V := by
  obtain ⟨A, c, b, off, h1, h2, h3, h4, h5⟩ := (h.rd x List.mem_cons_self).kids
  have hall : (vis ++ [x.d]) ++ todo (kidsAt b off x.d.Args ++ rest) = preC x0 := by rw [List.append_assoc, List.singleton_append, ← todo_step, h.all]
  refine ⟨kidsAt b off x.d.Args ++ rest, ⟨x, rest, b, off, A, c, rfl, rfl, ?_, fun hk => ?_, h1, h2, fun hp => ⟨(h3 hp).1, fun hk => ?_⟩, h4⟩, hall, fun y hy => ?_, h.bel⟩
  · have := congrArg List.length hall
    rw [List.length_append] at this
    have := todo_len (kidsAt b off x.d.Args ++ rest)
    omega
  · have := hM _ hk; have := (h.rd x List.mem_cons_self).lt.1; omega
  · have := hM _ hk; have := (h3 hp).2; omega
  · rcases List.mem_append.1 hy with hy | hy
    · exact h5 y hy
    · exact h.rd y (List.mem_cons_of_mem _ hy)
theorem InT.start {w : World} {hi0 : Nat} {b : Nat} {vs : List Value} (hr : rdL w hi0 (CondD.c x0) vs) (hh : hi0 ≤ w.heap.size) (hb : W1.heap[w.heap.size]? = some (.cells vs.toArray 29)) (hw : Below w.heap.size w W1) : InT x0 (w.heap.size + 1) W1 [] [⟨w.heap.size, 0, x0⟩] W1 := by
  refine ⟨by simp [todo], fun y hy => ?_, Below.refl _ _⟩
  obtain rfl : y = ⟨w.heap.size, 0, x0⟩ := by simpa using hy
  obtain ⟨o, a, b, es⟩ := x0
  have hr' := (hr.below hw hh).more (hi' := w.heap.size + 1) (by omega)
  obtain ⟨A, c, rfl, f1, f2, h3⟩ := cond_in hr'
  exact ⟨⟨A, c, hr', blk_cell hb 0 rfl, blk_cell hb 1 rfl, blk_cell hb 2 rfl, blk_cell hb 3 rfl⟩, by simp, blk_lt hb⟩
end
set_option maxHeartbeats 1000000 in
theorem nodes_make (F : Fence) (n : Nat) (h5 : F.fn 29) (hro : F.round = none) (p : Option Addr) (w : World) :
    CallsIn F n Tryd.prog 29 #[.pointer p] w fun e w' => e = .returned (.func (.func 42) #[] #[.pointer (some ⟨w.heap.size, 0, none⟩)]) ∧ w' = w.alloc (.cells #[.pointer p] 50) := by
  refine callsIn_of_wp Tryd.func29 rfl h5 ?_ hro
  simp only [Tryd.ntmps29, List.size_toArray, List.length_cons, List.length_nil, Nat.reduceAdd, Nat.reduceSub, Array.replicate_succ, Array.replicate_zero, List.push_toArray, List.append_toArray, List.nil_append, List.cons_append]
  gi_wp2
  go_ret
  exact ⟨rfl, rfl⟩
def headN (T : List Nd) : Value := match T with | [] => .pointer none | x :: _ => x.ptr
theorem encN_eq (T : List Nd) : encN T = #[headN T] := by cases T <;> rfl
theorem below_put {B : Nat} (A : World) (l : Nat) (o : Obj) (h : B ≤ l) : Below B A (A.putObj l o) := ⟨rfl, rfl, rfl, by simp, fun k hk => World.putObj_heap_other (by omega)⟩
theorem wrap_small {n : Nat} (h : n ≤ 1073741824) : wrap64 ((n : Int) + 1) = ((n + 1 : Nat) : Int) := by unfold wrap64; omega
end Go.Proofs.YtmdmkdjeaffhaaaDoor
