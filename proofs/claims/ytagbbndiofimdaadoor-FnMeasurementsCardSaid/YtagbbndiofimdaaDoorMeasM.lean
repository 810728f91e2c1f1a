/- Measurements (chapter 12): mathematics: a register tells everything that was started. No condition. -/
import Derived.Test.YtagbbndiofimdaaDoorMeas
namespace Go.Proofs.YtagbbndiofimdaaDoor
set_option linter.unusedVariables false

theorem hsh2_left {r r' m : Int} (h0 : 0 ≤ r) (h1 : r < 2147483647) (h2 : 0 ≤ r') (h3 : r' < 2147483647) (h : r ≠ r') : hsh [r, m] ≠ hsh [r', m] :=
  hsh_changed [] [m] r r' (by omega)
theorem hsh2_right (r : Int) {m m' : Int} (h : m % 2147483647 ≠ m' % 2147483647) : hsh [r, m] ≠ hsh [r, m'] := hsh_changed [r] [] m m' h
theorem regFrom_ne : ∀ (l : List Int) {r r' : Int}, 0 ≤ r → r < 2147483647 → 0 ≤ r' → r' < 2147483647 → r ≠ r' → regFrom r l ≠ regFrom r' l
  | [], _, _, _, _, _, _, h => h
  | m :: l, r, r', h0, h1, h2, h3, h => by
    have a := hsh_bd [r, m]
    have b := hsh_bd [r', m]
    exact regFrom_ne l a.1 a.2 b.1 b.2 (hsh2_left h0 h1 h2 h3 h)
theorem regFrom_app (r : Int) (a b : List Int) : regFrom r (a ++ b) = regFrom (regFrom r a) b := by unfold regFrom; rw [List.foldl_append]
theorem regOf_app (a b : List Int) : regOf (a ++ b) = regFrom (regOf a) b := regFrom_app 0 a b
/-- A log with another element has another register. -/
theorem regOf_changed {l : List Int} {i : Nat} {x : Int} (hx : l[i]? = some x) (y : Int) (h : x % 2147483647 ≠ y % 2147483647) : regOf (l.set i y) ≠ regOf l := by
  have hi : i < l.length := (List.getElem?_eq_some_iff.1 hx).1
  have e1 : l.set i y = l.take i ++ y :: l.drop (i + 1) := List.set_eq_take_append_cons_drop .. |>.trans (by rw [if_pos hi])
  have e2 : l = l.take i ++ x :: l.drop (i + 1) := by
    have := List.drop_eq_getElem_cons hi
    rw [List.getElem?_eq_getElem hi] at hx
    rw [Option.some.inj hx] at this
    rw [← this, List.take_append_drop]
  have b := regOf_bd (l.take i)
  have c := hsh_bd [regOf (l.take i), x]
  have d := hsh_bd [regOf (l.take i), y]
  have h2 := regFrom_ne (l.drop (i + 1)) d.1 d.2 c.1 c.2 (fun e => hsh2_right (regOf (l.take i)) h e.symm)
  rw [e1, regOf_app]
  conv => rhs; rw [e2, regOf_app]
  exact h2
end Go.Proofs.YtagbbndiofimdaaDoor
