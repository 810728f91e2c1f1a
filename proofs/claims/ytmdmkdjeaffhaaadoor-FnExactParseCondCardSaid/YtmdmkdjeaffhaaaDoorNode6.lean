/- Conditions (chapter 15): what nodes look like, as landed: formOf, ArityOf, hasForm. No condition. -/
import Derived.Test.YtmdmkdjeaffhaaaDoorNode5
namespace Go.Proofs.YtmdmkdjeaffhaaaDoor
open Go.ChangeShapes Go.WideShapes Go.ChangeAt Go.RowKit
set_option linter.unusedVariables false

inductive Frm where
  | leaf (a b : Int)
  | inner (n : Int)
  | none
def frmOf (o : Int) : Frm := if o = 1 then .leaf 0 0 else if o = 2 then .leaf 5 10000 else if o = 3 then .leaf 0 10000 else if o = 4 ∨ o = 5 then .leaf 3 10000 else if o = 6 then .leaf 10000 0 else if o = 7 then .inner 1 else if o = 8 ∨ o = 9 then .inner 2 else .none
def Frm.val : Frm → Value
  | .leaf a b => .iface 75 (.agg #[.int .i64 a, .int .i64 b])
  | .inner n => .iface 77 (.agg #[.int .i64 n])
  | .none => Value.nilIface
def Frm.ok (f : Frm) (a b : Int) (n : Nat) : Bool := match f with
  | .leaf x y => decide (0 ≤ a ∧ a ≤ x) && (decide (0 ≤ b ∧ b ≤ y) && decide ((n : Int) = 0))
  | .inner k => decide (a = 0) && (decide (b = 0) && decide ((n : Int) = k))
  | .none => false
def Frm.arity : Frm → Int
  | .leaf _ _ => 0
  | .inner n => n
  | .none => -1
theorem op_cases (o : Int) : o = 1 ∨ o = 2 ∨ o = 3 ∨ o = 4 ∨ o = 5 ∨ o = 6 ∨ o = 7 ∨ o = 8 ∨ o = 9 ∨ (o < 1 ∨ 9 < o) := by omega
theorem frmOf_no {o : Int} (h : o < 1 ∨ 9 < o) : frmOf o = .none := by
  unfold frmOf
  rw [if_neg (by omega), if_neg (by omega), if_neg (by omega), if_neg (by omega), if_neg (by omega), if_neg (by omega), if_neg (by omega)]
theorem frm_arity (o : Int) : (frmOf o).arity = arityD o := by
  rcases op_cases o with rfl | rfl | rfl | rfl | rfl | rfl | rfl | rfl | rfl | h
  any_goals rfl
  rw [frmOf_no h]
  unfold arityD
  rw [if_neg (by omega), if_neg (by omega), if_neg (by omega)]
  rfl
theorem beq_dec (a b : Int) : (a == b) = decide (a = b) := by
  cases h : a == b
  · exact (decide_eq_false (beq_eq_false_iff_ne.1 h)).symm
  · exact (decide_eq_true (beq_iff_eq.1 h)).symm
theorem frm_ok (o a b : Int) (n : Nat) : (frmOf o).ok a b n = nodeOk o a b n := by
  have hz : ∀ x : Int, decide (0 ≤ x ∧ x ≤ 0) = decide (x = 0) := fun x => by rw [decide_eq_decide]; omega
  unfold nodeOk
  rw [← frm_arity, beq_dec]
  rcases op_cases o with rfl | rfl | rfl | rfl | rfl | rfl | rfl | rfl | rfl | h
  any_goals (simp [frmOf, Frm.ok, Frm.arity, nodeA, nodeB, hz, beq_dec]; done)
  rw [frmOf_no h]
  simp [Frm.ok, Frm.arity]
theorem as_leaf_leaf (v : Value) (w : World) : (Instr.typeAssert (.iface 75 v) 72 75 true).run Tryd.prog w = .ok (.tuple #[v, .bool true]) w := by kernel_rfl
theorem as_inner_leaf (v : Value) (w : World) : (Instr.typeAssert (.iface 77 v) 72 75 true).run Tryd.prog w = .ok (.tuple #[.agg #[.int .i64 0, .int .i64 0], .bool false]) w := by kernel_rfl
theorem as_inner_inner (v : Value) (w : World) : (Instr.typeAssert (.iface 77 v) 72 77 true).run Tryd.prog w = .ok (.tuple #[v, .bool true]) w := by kernel_rfl
theorem as_nil_leaf (w : World) : (Instr.typeAssert Value.nilIface 72 75 true).run Tryd.prog w = .ok (.tuple #[.agg #[.int .i64 0, .int .i64 0], .bool false]) w := by kernel_rfl
theorem as_nil_inner (w : World) : (Instr.typeAssert Value.nilIface 72 77 true).run Tryd.prog w = .ok (.tuple #[.agg #[.int .i64 0], .bool false]) w := by kernel_rfl
theorem impl_formOf (o : Int) (w : World) : Calls Tryd.prog 44 #[.int .i64 o] w fun e w' => e = .returned (frmOf o).val ∧ w = w' := by
  rcases op_cases o with rfl | rfl | rfl | rfl | rfl | rfl | rfl | rfl | rfl | h
  · skip
    go_enter Tryd.func44, Tryd.ntmps44
    go_wp2
    go_ret
    exact ⟨rfl, rfl⟩
  · skip
    go_enter Tryd.func44, Tryd.ntmps44
    go_wp2
    go_ret
    exact ⟨rfl, rfl⟩
  · skip
    go_enter Tryd.func44, Tryd.ntmps44
    go_wp2
    go_ret
    exact ⟨rfl, rfl⟩
  · skip
    go_enter Tryd.func44, Tryd.ntmps44
    go_wp2
    go_ret
    exact ⟨rfl, rfl⟩
  · skip
    go_enter Tryd.func44, Tryd.ntmps44
    go_wp2
    go_ret
    exact ⟨rfl, rfl⟩
  · skip
    go_enter Tryd.func44, Tryd.ntmps44
    go_wp2
    go_ret
    exact ⟨rfl, rfl⟩
  · skip
    go_enter Tryd.func44, Tryd.ntmps44
    go_wp2
    go_ret
    exact ⟨rfl, rfl⟩
  · skip
    go_enter Tryd.func44, Tryd.ntmps44
    go_wp2
    go_ret
    exact ⟨rfl, rfl⟩
  · skip
    go_enter Tryd.func44, Tryd.ntmps44
    go_wp2
    go_ret
    exact ⟨rfl, rfl⟩
  · have HF := Lib.hid (frmOf_no h)
    have HW := Lib.hid h
    have e1 : (o == 1) = false := beq_eq_false_iff_ne.2 (by omega)
    have e2 : (o == 2) = false := beq_eq_false_iff_ne.2 (by omega)
    have e3 : (o == 3) = false := beq_eq_false_iff_ne.2 (by omega)
    have e4 : (o == 4) = false := beq_eq_false_iff_ne.2 (by omega)
    have e5 : (o == 5) = false := beq_eq_false_iff_ne.2 (by omega)
    have e6 : (o == 6) = false := beq_eq_false_iff_ne.2 (by omega)
    have e7 : (o == 7) = false := beq_eq_false_iff_ne.2 (by omega)
    have e8 : (o == 8) = false := beq_eq_false_iff_ne.2 (by omega)
    have e9 : (o == 9) = false := beq_eq_false_iff_ne.2 (by omega)
    clear h
    go_enter Tryd.func44, Tryd.ntmps44
    go_wp2
    go_ret
    exact ⟨by rw [HF.out]; rfl, rfl⟩
set_option maxHeartbeats 1000000 in
theorem impl_hasForm (o a b : Int) (A : Option Addr) (n c : Nat) (w : World) :
    Calls Tryd.prog 30 #[.agg #[.int .i64 o, .int .i64 a, .int .i64 b, .slice A n c]] w fun e w' => e = .returned (.bool (nodeOk o a b n)) ∧ Below w.heap.size w w' := by
  have HF := Lib.hid (fun W => impl_formOf o W)
  have t1 := as_leaf_leaf
  have t2 := as_inner_leaf
  have t3 := as_inner_inner
  have t4 := as_nil_leaf
  have t5 := as_nil_inner
  rw [← frm_ok o a b n]
  generalize frmOf o = f at HF ⊢
  cases f with
  | leaf x y =>
    obtain ⟨fa, hfa⟩ : ∃ fa, fa = decide (0 ≤ a ∧ a ≤ x) := ⟨_, rfl⟩
    obtain ⟨fb, hfb⟩ : ∃ fb, fb = decide (0 ≤ b ∧ b ≤ y) := ⟨_, rfl⟩
    have HA := Lib.hid (fun W => show Calls Tryd.prog 45 #[.int .i64 a, .int .i64 0, .int .i64 x] W fun e w' => e = .returned (.bool fa) ∧ W = w' from hfa ▸ impl_range a 0 x W)
    have HB := Lib.hid (fun W => show Calls Tryd.prog 45 #[.int .i64 b, .int .i64 0, .int .i64 y] W fun e w' => e = .returned (.bool fb) ∧ W = w' from hfb ▸ impl_range b 0 y W)
    obtain ⟨R, hR⟩ : ∃ R, (Frm.leaf x y).ok a b n = R := ⟨_, rfl⟩
    have HR := Lib.hid (show R = (fa && (fb && decide ((n : Int) = 0))) by rw [← hR, hfa, hfb]; rfl)
    rw [hR]
    clear hR hfa hfb
    cases fa
    · skip
      go_enter Tryd.func30, Tryd.ntmps30
      go_wp2_with (first | (go_at_call 44; refine (HF.out _).mono ?_; rintro e w' ⟨rfl, rfl⟩; simp only [Frm.val]) | (go_at_call 45; (with_reducible refine (HA.out _).mono ?_); rintro e w' ⟨rfl, rfl⟩))
      go_ret
      exact ⟨ret_b (by rw [HR.out]; rfl), by go_grown⟩
    · cases fb
      · skip
        go_enter Tryd.func30, Tryd.ntmps30
        go_wp2_with (first | (go_at_call 44; refine (HF.out _).mono ?_; rintro e w' ⟨rfl, rfl⟩; simp only [Frm.val]) | (go_at_call 45; first | ((with_reducible refine (HA.out _).mono ?_); rintro e w' ⟨rfl, rfl⟩) | ((with_reducible refine (HB.out _).mono ?_); rintro e w' ⟨rfl, rfl⟩)))
        go_ret
        exact ⟨ret_b (by rw [HR.out]; rfl), by go_grown⟩
      · skip
        go_enter Tryd.func30, Tryd.ntmps30
        go_wp2_with (first | (go_at_call 44; refine (HF.out _).mono ?_; rintro e w' ⟨rfl, rfl⟩; simp only [Frm.val]) | (go_at_call 45; first | ((with_reducible refine (HA.out _).mono ?_); rintro e w' ⟨rfl, rfl⟩) | ((with_reducible refine (HB.out _).mono ?_); rintro e w' ⟨rfl, rfl⟩)))
        go_ret
        exact ⟨ret_b (by rw [HR.out]; first | rfl | simp | (simp [beq_dec])), by go_grown⟩
  | inner k =>
    obtain ⟨R, hR⟩ : ∃ R, (Frm.inner k).ok a b n = R := ⟨_, rfl⟩
    have HR := Lib.hid (show R = (decide (a = 0) && (decide (b = 0) && decide ((n : Int) = k))) from hR.symm)
    rw [hR]
    clear hR
    by_cases ha : a = 0
    · subst ha
      by_cases hb : b = 0
      · subst hb
        go_enter Tryd.func30, Tryd.ntmps30
        go_wp2_with (first | (go_at_call 44; refine (HF.out _).mono ?_; rintro e w' ⟨rfl, rfl⟩; simp only [Frm.val]))
        go_ret
        exact ⟨ret_b (by rw [HR.out]; first | rfl | simp | (simp [beq_dec])), by go_grown⟩
      · have hb0 : (b == 0) = false := beq_eq_false_iff_ne.2 hb
        have HR2 := Lib.hid (show R = false by rw [HR.out, decide_eq_false hb]; rfl)
        clear hb
        go_enter Tryd.func30, Tryd.ntmps30
        go_wp2_with (first | (go_at_call 44; refine (HF.out _).mono ?_; rintro e w' ⟨rfl, rfl⟩; simp only [Frm.val]))
        go_ret
        exact ⟨ret_b (by rw [HR2.out]), by go_grown⟩
    · have ha0 : (a == 0) = false := beq_eq_false_iff_ne.2 ha
      have HR2 := Lib.hid (show R = false by rw [HR.out, decide_eq_false ha]; rfl)
      clear ha
      go_enter Tryd.func30, Tryd.ntmps30
      go_wp2_with (first | (go_at_call 44; refine (HF.out _).mono ?_; rintro e w' ⟨rfl, rfl⟩; simp only [Frm.val]))
      go_ret
      exact ⟨ret_b (by rw [HR2.out]), by go_grown⟩
  | none =>
    go_enter Tryd.func30, Tryd.ntmps30
    go_wp2_with (go_at_call 44; refine (HF.out _).mono ?_; rintro e w' ⟨rfl, rfl⟩; simp only [Frm.val])
    go_ret
    exact ⟨rfl, by go_grown⟩
end Go.Proofs.YtmdmkdjeaffhaaaDoor
