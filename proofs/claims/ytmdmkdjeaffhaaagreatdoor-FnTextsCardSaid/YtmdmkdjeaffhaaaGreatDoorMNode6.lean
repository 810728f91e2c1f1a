/- Some texts in one: Node5, Node6. -/
import Derived.Test.YtmdmkdjeaffhaaaGreatDoorNode4
import Derived.Test.YtmdmkdjeaffhaaaGreatDoorCond3
/- Conditions (chapter 15): nodes that are read while a range over them runs; SizeOf as landed. No condition but the bounds of what came in. -/
namespace Go.Proofs.YtmdmkdjeaffhaaaGreatDoor
open Go.ChangeShapes Go.WideShapes Go.ChangeAt Go.RowKit Go.Shelf
set_option linter.unusedVariables false
attribute [local go_sem] Oper.semAt_some

/-- A node that reads as it should, below hi. -/
structure RdN (W : World) (hi : Nat) (x : Nd) : Prop where
  rd : ∃ A c, rdL W hi (CondD.c x.d) [.int .i64 x.d.Op, .int .i64 x.d.A, .int .i64 x.d.B, .slice A x.d.Args.length c] ∧
    W.cell? ⟨x.b, x.off, none⟩ = some (.int .i64 x.d.Op) ∧ W.cell? ⟨x.b, x.off + 1, none⟩ = some (.int .i64 x.d.A) ∧ W.cell? ⟨x.b, x.off + 2, none⟩ = some (.int .i64 x.d.B) ∧ W.cell? ⟨x.b, x.off + 3, none⟩ = some (.slice A x.d.Args.length c)
  lt : x.b < hi ∧ x.b < W.heap.size
section
variable {W W' : World} {hi : Nat} {x : Nd}
theorem RdN.below (h : RdN W hi x) (hb : Below hi W W') : RdN W' hi x := by
  obtain ⟨A, c, h0, h1, h2, h3, h4⟩ := h.rd
  exact ⟨⟨A, c, h0.below hb (Nat.le_refl _), (hb.cell (p := ⟨x.b, x.off, none⟩) h.lt.1).trans h1, (hb.cell (p := ⟨x.b, x.off + 1, none⟩) h.lt.1).trans h2, (hb.cell (p := ⟨x.b, x.off + 2, none⟩) h.lt.1).trans h3, (hb.cell (p := ⟨x.b, x.off + 3, none⟩) h.lt.1).trans h4⟩, h.lt.1, Nat.lt_of_lt_of_le h.lt.2 hb.size⟩
theorem RdN.kids (h : RdN W hi x) : ∃ A c b off, W.cell? ⟨x.b, x.off + 3, none⟩ = some (.slice A x.d.Args.length c) ∧ x.d.Args.length ≤ c ∧ (0 < x.d.Args.length → A = some ⟨b, off, none⟩ ∧ b < hi) ∧ (∀ k, k < x.d.Args.length → ∀ j, j < 4 → ∃ u, W.cell? ⟨b, off + k * 4 + j, none⟩ = some u) ∧ ∀ y ∈ kidsAt b off x.d.Args, RdN W hi y := by
  obtain ⟨A, c, h0, h1, h2, h3, h4⟩ := h.rd
  obtain ⟨xb, xo, ⟨o, a, b, es⟩⟩ := x
  obtain ⟨A', c', e, f1, f2, hr⟩ := cond_in h0
  simp only [List.cons.injEq, Value.slice.injEq, and_true, true_and] at e
  obtain ⟨rfl, rfl⟩ := e
  by_cases h0 : 0 < es.length
  · obtain ⟨⟨o0, a0, b0, fs⟩, hy⟩ : ∃ y, es[0]? = some y := ⟨_, List.getElem?_eq_getElem h0⟩
    obtain ⟨b', off, A1, c1, rfl, m1, m2, hr1, HC⟩ := cond_at hr hy
    have hall : ∀ k (hk : k < es.length), RdN W hi ⟨b', off + k * 4, es[k]⟩ := fun k hk => by
      have hz : es[k]? = some es[k] := List.getElem?_eq_getElem hk
      generalize es[k] = z at hz ⊢
      obtain ⟨o2, a2, b2, gs⟩ := z
      obtain ⟨b3, off3, A3, c3, e3, n1, n2, hr3, HC3⟩ := cond_at hr hz
      injection e3 with e3
      injection e3 with e4 e5
      subst e4 e5
      have q := HC3 hi W n1 (Below.refl _ _)
      exact ⟨⟨A3, c3, hr3, q.1, q.2.1, q.2.2.1, q.2.2.2⟩, n1, n2⟩
    refine ⟨_, c, b', off, h4, f1, fun _ => ⟨rfl, m1⟩, fun k hk j hj => ?_, fun y hy2 => ?_⟩
    · obtain ⟨A3, c3, -, q0, q1, q2, q3⟩ := (hall k hk).rd
      match j, hj with
      | 0, _ => exact ⟨_, q0⟩
      | 1, _ => exact ⟨_, q1⟩
      | 2, _ => exact ⟨_, q2⟩
      | 3, _ => exact ⟨_, q3⟩
    · obtain ⟨k, hk⟩ := List.getElem?_of_mem hy2
      rw [kidsAt_at] at hk
      by_cases hkl : k < es.length
      · rw [List.getElem?_eq_getElem hkl] at hk
        simp only [Option.map_some, Option.some.injEq] at hk
        subst hk
        exact hall k hkl
      · rw [show es[k]? = none from List.getElem?_eq_none (by omega)] at hk
        simp at hk
  · have he : es = [] := List.length_eq_zero_iff.mp (by omega)
    subst he
    exact ⟨_, c, 0, 0, h4, f1, fun h => absurd h (by simp), fun k hk => absurd hk (by simp), fun y hy => by simp [kidsAt] at hy⟩
end
/-- What a range over a condition's nodes that only reads keeps: vis have come, T are ahead. -/
structure InT (x0 : CondD) (hi : Nat) (W1 : World) (vis : List CondD) (T : List Nd) (V : World) : Prop where
  all : vis ++ todo T = preC x0
  rd : ∀ y ∈ T, RdN V hi y
  bel : Below hi W1 V
section
variable {x0 : CondD} {hi : Nat} {W1 V V' : World} {vis : List CondD} {T : List Nd}
theorem InT.below (h : InT x0 hi W1 vis T V) (hb : Below hi V V') : InT x0 hi W1 vis T V' := ⟨h.all, fun y hy => (h.rd y hy).below hb, h.bel.trans hb⟩
theorem InT.len (h : InT x0 hi W1 vis T V) : vis.length + (todo T).length = (preC x0).length := by rw [← h.all, List.length_append]
theorem InT.step {x : Nd} {rest : List Nd} {M : List Nat} {N : Nat} (h : InT x0 hi W1 vis (x :: rest) V) (hM : ∀ k ∈ M, hi ≤ k) (hN : (preC x0).length ≤ N) : ∃ T', stepN N (x :: rest) T' M V ∧ InT x0 hi W1 (vis ++ [x.d]) T' V := by
  obtain ⟨A, c, b, off, h1, h2, h3, h4, h5⟩ := (h.rd x List.mem_cons_self).kids
  have hall : (vis ++ [x.d]) ++ todo (kidsAt b off x.d.Args ++ rest) = preC x0 := by rw [List.append_assoc, List.singleton_append, ← todo_step, h.all]
  refine ⟨kidsAt b off x.d.Args ++ rest, ⟨x, rest, b, off, A, c, rfl, rfl, ?_, fun hk => ?_, h1, h2, fun hp => ⟨(h3 hp).1, fun hk => ?_⟩, h4⟩, hall, fun y hy => ?_, h.bel⟩
  · have := congrArg List.length hall
    rw [List.length_append] at this
    have := todo_len (kidsAt b off x.d.Args ++ rest)
    omega
  · have := hM _ hk; have := (h.rd x List.mem_cons_self).lt.1; omega
  · have := hM _ hk; have := (h3 hp).2; omega
  · rcases List.mem_append.1 hy with hy | hy
    · exact h5 y hy
    · exact h.rd y (List.mem_cons_of_mem _ hy)
theorem InT.start {w : World} {hi0 : Nat} {b : Nat} {vs : List Value} (hr : rdL w hi0 (CondD.c x0) vs) (hh : hi0 ≤ w.heap.size) (hb : W1.heap[w.heap.size]? = some (.cells vs.toArray 27)) (hw : Below w.heap.size w W1) : InT x0 (w.heap.size + 1) W1 [] [⟨w.heap.size, 0, x0⟩] W1 := by
  refine ⟨by simp [todo], fun y hy => ?_, Below.refl _ _⟩
  obtain rfl : y = ⟨w.heap.size, 0, x0⟩ := by simpa using hy
  obtain ⟨o, a, b, es⟩ := x0
  have hr' := (hr.below hw hh).more (hi' := w.heap.size + 1) (by omega)
  obtain ⟨A, c, rfl, f1, f2, h3⟩ := cond_in hr'
  exact ⟨⟨A, c, hr', blk_cell hb 0 rfl, blk_cell hb 1 rfl, blk_cell hb 2 rfl, blk_cell hb 3 rfl⟩, by simp, blk_lt hb⟩
end
set_option maxHeartbeats 1000000 in
theorem nodes_make (F : Fence) (n : Nat) (h5 : F.fn 20) (hro : F.round = none) (p : Option Addr) (w : World) :
    CallsIn F n Tryz.prog 20 #[.pointer p] w fun e w' => e = .returned (.func (.func 40) #[] #[.pointer (some ⟨w.heap.size, 0, none⟩)]) ∧ w' = w.alloc (.cells #[.pointer p] 45) := by
  refine callsIn_of_wp Tryz.func20 rfl h5 ?_ hro
  simp only [Tryz.ntmps20, List.size_toArray, List.length_cons, List.length_nil, Nat.reduceAdd, Nat.reduceSub, Array.replicate_succ, Array.replicate_zero, List.push_toArray, List.append_toArray, List.nil_append, List.cons_append]
  gi_wp2
  go_ret
  exact ⟨rfl, rfl⟩
def headN (T : List Nd) : Value := match T with | [] => .pointer none | x :: _ => x.ptr
theorem encN_eq (T : List Nd) : encN T = #[headN T] := by cases T <;> rfl
theorem below_put {B : Nat} (A : World) (l : Nat) (o : Obj) (h : B ≤ l) : Below B A (A.putObj l o) := ⟨rfl, rfl, rfl, by simp, fun k hk => World.putObj_heap_other (by omega)⟩
theorem wrap_small {n : Nat} (h : n ≤ 1073741824) : wrap64 ((n : Int) + 1) = ((n + 1 : Nat) : Int) := by unfold wrap64; omega
end Go.Proofs.YtmdmkdjeaffhaaaGreatDoor
/- Conditions (chapter 15): what nodes look like, as landed: formOf, ArityOf, hasForm. No condition. -/
namespace Go.Proofs.YtmdmkdjeaffhaaaGreatDoor
open Go.ChangeShapes Go.WideShapes Go.ChangeAt Go.RowKit
set_option linter.unusedVariables false

inductive Frm where
  | leaf (a b : Int)
  | inner (n : Int)
  | none
def frmOf (o : Int) : Frm := if o = 1 then .leaf 0 0 else if o = 2 then .leaf 5 10000 else if o = 3 then .leaf 0 10000 else if o = 4 ∨ o = 5 then .leaf 3 10000 else if o = 6 then .leaf 10000 0 else if o = 7 then .inner 1 else if o = 8 ∨ o = 9 then .inner 2 else .none
def Frm.val : Frm → Value
  | .leaf a b => .iface 78 (.agg #[.int .i64 a, .int .i64 b])
  | .inner n => .iface 81 (.agg #[.int .i64 n])
  | .none => Value.nilIface
def Frm.ok (f : Frm) (a b : Int) (n : Nat) : Bool := match f with
  | .leaf x y => decide (0 ≤ a ∧ a ≤ x) && (decide (0 ≤ b ∧ b ≤ y) && decide ((n : Int) = 0))
  | .inner k => decide (a = 0) && (decide (b = 0) && decide ((n : Int) = k))
  | .none => false
def Frm.arity : Frm → Int
  | .leaf _ _ => 0
  | .inner n => n
  | .none => -1
theorem op_cases (o : Int) : o = 1 ∨ o = 2 ∨ o = 3 ∨ o = 4 ∨ o = 5 ∨ o = 6 ∨ o = 7 ∨ o = 8 ∨ o = 9 ∨ (o < 1 ∨ 9 < o) := by omega
theorem frmOf_no {o : Int} (h : o < 1 ∨ 9 < o) : frmOf o = .none := by
  unfold frmOf
  rw [if_neg (by omega), if_neg (by omega), if_neg (by omega), if_neg (by omega), if_neg (by omega), if_neg (by omega), if_neg (by omega)]
theorem frm_arity (o : Int) : (frmOf o).arity = arityD o := by
  rcases op_cases o with rfl | rfl | rfl | rfl | rfl | rfl | rfl | rfl | rfl | h
  any_goals rfl
  rw [frmOf_no h]
  unfold arityD
  rw [if_neg (by omega), if_neg (by omega), if_neg (by omega)]
  rfl
theorem beq_dec (a b : Int) : (a == b) = decide (a = b) := by
  cases h : a == b
  · exact (decide_eq_false (beq_eq_false_iff_ne.1 h)).symm
  · exact (decide_eq_true (beq_iff_eq.1 h)).symm
theorem frm_ok (o a b : Int) (n : Nat) : (frmOf o).ok a b n = nodeOk o a b n := by
  have hz : ∀ x : Int, decide (0 ≤ x ∧ x ≤ 0) = decide (x = 0) := fun x => by rw [decide_eq_decide]; omega
  unfold nodeOk
  rw [← frm_arity, beq_dec]
  rcases op_cases o with rfl | rfl | rfl | rfl | rfl | rfl | rfl | rfl | rfl | h
  any_goals (simp [frmOf, Frm.ok, Frm.arity, nodeA, nodeB, hz, beq_dec]; done)
  rw [frmOf_no h]
  simp [Frm.ok, Frm.arity]
theorem as_leaf_leaf (v : Value) (w : World) : (Instr.typeAssert (.iface 78 v) 75 78 true).run Tryz.prog w = .ok (.tuple #[v, .bool true]) w := by kernel_rfl
theorem as_inner_leaf (v : Value) (w : World) : (Instr.typeAssert (.iface 81 v) 75 78 true).run Tryz.prog w = .ok (.tuple #[.agg #[.int .i64 0, .int .i64 0], .bool false]) w := by kernel_rfl
theorem as_inner_inner (v : Value) (w : World) : (Instr.typeAssert (.iface 81 v) 75 81 true).run Tryz.prog w = .ok (.tuple #[v, .bool true]) w := by kernel_rfl
theorem as_nil_leaf (w : World) : (Instr.typeAssert Value.nilIface 75 78 true).run Tryz.prog w = .ok (.tuple #[.agg #[.int .i64 0, .int .i64 0], .bool false]) w := by kernel_rfl
theorem as_nil_inner (w : World) : (Instr.typeAssert Value.nilIface 75 81 true).run Tryz.prog w = .ok (.tuple #[.agg #[.int .i64 0], .bool false]) w := by kernel_rfl
theorem impl_formOf (o : Int) (w : World) : Calls Tryz.prog 42 #[.int .i64 o] w fun e w' => e = .returned (frmOf o).val ∧ w = w' := by
  rcases op_cases o with rfl | rfl | rfl | rfl | rfl | rfl | rfl | rfl | rfl | h
  · skip
    go_enter Tryz.func42, Tryz.ntmps42
    go_wp2
    go_ret
    exact ⟨rfl, rfl⟩
  · skip
    go_enter Tryz.func42, Tryz.ntmps42
    go_wp2
    go_ret
    exact ⟨rfl, rfl⟩
  · skip
    go_enter Tryz.func42, Tryz.ntmps42
    go_wp2
    go_ret
    exact ⟨rfl, rfl⟩
  · skip
    go_enter Tryz.func42, Tryz.ntmps42
    go_wp2
    go_ret
    exact ⟨rfl, rfl⟩
  · skip
    go_enter Tryz.func42, Tryz.ntmps42
    go_wp2
    go_ret
    exact ⟨rfl, rfl⟩
  · skip
    go_enter Tryz.func42, Tryz.ntmps42
    go_wp2
    go_ret
    exact ⟨rfl, rfl⟩
  · skip
    go_enter Tryz.func42, Tryz.ntmps42
    go_wp2
    go_ret
    exact ⟨rfl, rfl⟩
  · skip
    go_enter Tryz.func42, Tryz.ntmps42
    go_wp2
    go_ret
    exact ⟨rfl, rfl⟩
  · skip
    go_enter Tryz.func42, Tryz.ntmps42
    go_wp2
    go_ret
    exact ⟨rfl, rfl⟩
  · have HF := Lib.hid (frmOf_no h)
    have HW := Lib.hid h
    have e1 : (o == 1) = false := beq_eq_false_iff_ne.2 (by omega)
    have e2 : (o == 2) = false := beq_eq_false_iff_ne.2 (by omega)
    have e3 : (o == 3) = false := beq_eq_false_iff_ne.2 (by omega)
    have e4 : (o == 4) = false := beq_eq_false_iff_ne.2 (by omega)
    have e5 : (o == 5) = false := beq_eq_false_iff_ne.2 (by omega)
    have e6 : (o == 6) = false := beq_eq_false_iff_ne.2 (by omega)
    have e7 : (o == 7) = false := beq_eq_false_iff_ne.2 (by omega)
    have e8 : (o == 8) = false := beq_eq_false_iff_ne.2 (by omega)
    have e9 : (o == 9) = false := beq_eq_false_iff_ne.2 (by omega)
    clear h
    go_enter Tryz.func42, Tryz.ntmps42
    go_wp2
    go_ret
    exact ⟨by rw [HF.out]; rfl, rfl⟩
set_option maxHeartbeats 1000000 in
theorem impl_hasForm (o a b : Int) (A : Option Addr) (n c : Nat) (w : World) :
    Calls Tryz.prog 21 #[.agg #[.int .i64 o, .int .i64 a, .int .i64 b, .slice A n c]] w fun e w' => e = .returned (.bool (nodeOk o a b n)) ∧ Below w.heap.size w w' := by
  have HF := Lib.hid (fun W => impl_formOf o W)
  have t1 := as_leaf_leaf
  have t2 := as_inner_leaf
  have t3 := as_inner_inner
  have t4 := as_nil_leaf
  have t5 := as_nil_inner
  rw [← frm_ok o a b n]
  generalize frmOf o = f at HF ⊢
  cases f with
  | leaf x y =>
    obtain ⟨fa, hfa⟩ : ∃ fa, fa = decide (0 ≤ a ∧ a ≤ x) := ⟨_, rfl⟩
    obtain ⟨fb, hfb⟩ : ∃ fb, fb = decide (0 ≤ b ∧ b ≤ y) := ⟨_, rfl⟩
    have HA := Lib.hid (fun W => show Calls Tryz.prog 43 #[.int .i64 a, .int .i64 0, .int .i64 x] W fun e w' => e = .returned (.bool fa) ∧ W = w' from hfa ▸ impl_range a 0 x W)
    have HB := Lib.hid (fun W => show Calls Tryz.prog 43 #[.int .i64 b, .int .i64 0, .int .i64 y] W fun e w' => e = .returned (.bool fb) ∧ W = w' from hfb ▸ impl_range b 0 y W)
    obtain ⟨R, hR⟩ : ∃ R, (Frm.leaf x y).ok a b n = R := ⟨_, rfl⟩
    have HR := Lib.hid (show R = (fa && (fb && decide ((n : Int) = 0))) by rw [← hR, hfa, hfb]; rfl)
    rw [hR]
    clear hR hfa hfb
    cases fa
    · skip
      go_enter Tryz.func21, Tryz.ntmps21
      go_wp2_with (first | (go_at_call 42; refine (HF.out _).mono ?_; rintro e w' ⟨rfl, rfl⟩; simp only [Frm.val]) | (go_at_call 43; (with_reducible refine (HA.out _).mono ?_); rintro e w' ⟨rfl, rfl⟩))
      go_ret
      exact ⟨ret_b (by rw [HR.out]; rfl), by go_grown⟩
    · cases fb
      · skip
        go_enter Tryz.func21, Tryz.ntmps21
        go_wp2_with (first | (go_at_call 42; refine (HF.out _).mono ?_; rintro e w' ⟨rfl, rfl⟩; simp only [Frm.val]) | (go_at_call 43; first | ((with_reducible refine (HA.out _).mono ?_); rintro e w' ⟨rfl, rfl⟩) | ((with_reducible refine (HB.out _).mono ?_); rintro e w' ⟨rfl, rfl⟩)))
        go_ret
        exact ⟨ret_b (by rw [HR.out]; rfl), by go_grown⟩
      · skip
        go_enter Tryz.func21, Tryz.ntmps21
        go_wp2_with (first | (go_at_call 42; refine (HF.out _).mono ?_; rintro e w' ⟨rfl, rfl⟩; simp only [Frm.val]) | (go_at_call 43; first | ((with_reducible refine (HA.out _).mono ?_); rintro e w' ⟨rfl, rfl⟩) | ((with_reducible refine (HB.out _).mono ?_); rintro e w' ⟨rfl, rfl⟩)))
        go_ret
        exact ⟨ret_b (by rw [HR.out]; first | rfl | simp | (simp [beq_dec])), by go_grown⟩
  | inner k =>
    obtain ⟨R, hR⟩ : ∃ R, (Frm.inner k).ok a b n = R := ⟨_, rfl⟩
    have HR := Lib.hid (show R = (decide (a = 0) && (decide (b = 0) && decide ((n : Int) = k))) from hR.symm)
    rw [hR]
    clear hR
    by_cases ha : a = 0
    · subst ha
      by_cases hb : b = 0
      · subst hb
        go_enter Tryz.func21, Tryz.ntmps21
        go_wp2_with (first | (go_at_call 42; refine (HF.out _).mono ?_; rintro e w' ⟨rfl, rfl⟩; simp only [Frm.val]))
        go_ret
        exact ⟨ret_b (by rw [HR.out]; first | rfl | simp | (simp [beq_dec])), by go_grown⟩
      · have hb0 : (b == 0) = false := beq_eq_false_iff_ne.2 hb
        have HR2 := Lib.hid (show R = false by rw [HR.out, decide_eq_false hb]; rfl)
        clear hb
        go_enter Tryz.func21, Tryz.ntmps21
        go_wp2_with (first | (go_at_call 42; refine (HF.out _).mono ?_; rintro e w' ⟨rfl, rfl⟩; simp only [Frm.val]))
        go_ret
        exact ⟨ret_b (by rw [HR2.out]), by go_grown⟩
    · have ha0 : (a == 0) = false := beq_eq_false_iff_ne.2 ha
      have HR2 := Lib.hid (show R = false by rw [HR.out, decide_eq_false ha]; rfl)
      clear ha
      go_enter Tryz.func21, Tryz.ntmps21
      go_wp2_with (first | (go_at_call 42; refine (HF.out _).mono ?_; rintro e w' ⟨rfl, rfl⟩; simp only [Frm.val]))
      go_ret
      exact ⟨ret_b (by rw [HR2.out]), by go_grown⟩
  | none =>
    go_enter Tryz.func21, Tryz.ntmps21
    go_wp2_with (go_at_call 42; refine (HF.out _).mono ?_; rintro e w' ⟨rfl, rfl⟩; simp only [Frm.val])
    go_ret
    exact ⟨rfl, by go_grown⟩
end Go.Proofs.YtmdmkdjeaffhaaaGreatDoor
