/- Whether numbers stand in a strictly ascending order: the landed helper of chapter 8. No condition but the bounds of what came in. -/
import Derived.Test.YtjfmmingkciapaaLit
import Derived.Test.YtjfmmingkciapaaAbs
import Derived.Test.YtjfmmingkciapaaInts
import Derived.BigQuiet
import Derived.Deep.QuietTactic
import Derived.LoopTactic
namespace Go.Proofs.Ytjfmmingkciapaa
open Go.ChangeShapes Go.WideShapes Go.ChangeAt Go.RowKit
set_option linter.unusedVariables false

/-- A number stands above the one before it. -/
def ascAt (ks : List Int) (i : Nat) : Bool := i == 0 || match ks[i - 1]?, ks[i]? with
  | some j, some k => decide (j < k)
  | _, _ => true
def ascTo (ks : List Int) (n : Nat) : Bool := (List.range n).all (ascAt ks)
theorem ascTo_succ (ks : List Int) (n : Nat) : ascTo ks (n + 1) = (ascTo ks n && ascAt ks n) := by simp [ascTo, List.range_succ]
theorem ascTo_no {ks : List Int} {k n : Nat} (h : k < n) (hk : ascAt ks k = false) : ascTo ks n = false := by
  rw [ascTo, List.all_eq_false]
  exact ⟨k, List.mem_range.2 h, by simp [hk]⟩
theorem ascTo_less {ks : List Int} {k n : Nat} (h : n ≤ k) (hk : ascTo ks k = true) : ascTo ks n = true := by
  rw [ascTo, List.all_eq_true] at hk ⊢
  exact fun i hi => hk i (List.mem_range.2 (Nat.lt_of_lt_of_le (List.mem_range.1 hi) h))
set_option maxHeartbeats 2000000 in
theorem impl_isAscending (w : World) (hi c : Nat) (a : Option Addr) (ks : List Int) (h : Row .i64 w hi (.slice a ks.length c) ks) :
    Calls Try.prog 128 #[.slice a ks.length c] w fun e w' => e = .returned (.bool (ascTo ks ks.length)) ∧ Below w.heap.size w w' := by
  obtain ⟨a', c', e0, h1, h2, -⟩ := id h.form
  injection e0 with e0 e1 e2
  subst e0 e2
  unfold maxLen at h2
  have H := Lib.hid h
  clear h
  go_enter Try.func128, Try.ntmps128
  go_wp2
  go_loopw [3] (fun i wr => ∃ k : Nat, (k ≤ ks.length ∨ k = 1) ∧ 1 ≤ k ∧ i = .int .i64 (k : Int) ∧ Hid (ascTo ks k = true) ∧ Below w.heap.size w wr) (fun i _ => ks.length - (intOf i).toNat)
  case atStart => exact ⟨1, .inr rfl, Nat.le_refl _, rfl, Lib.hid (by rfl), Below.refl _ _⟩
  case round =>
    obtain ⟨k, hk, hk1, rfl, HS, hb⟩ := hrel
    by_cases hlt : k < ks.length
    · have hk0 : k - 1 < ks.length := by omega
      obtain ⟨x, hx⟩ : ∃ x, ks[k]? = some x := ⟨_, List.getElem?_eq_getElem hlt⟩
      obtain ⟨y, hy⟩ : ∃ y, ks[k - 1]? = some y := ⟨_, List.getElem?_eq_getElem hk0⟩
      have HA := Lib.hid (show ascAt ks k = decide (y < x) by
        unfold ascAt
        rw [hx, hy]
        simp
        omega)
      obtain ⟨b, off, rfl, g1, g2, c0⟩ := Row.cellAt H.out hx
      obtain ⟨b', off', e0, _, _, d0⟩ := Row.cellAt H.out hy
      injection e0 with e0
      injection e0 with e1 e2
      subst e1 e2
      have c1 := (hb.cell (p := ⟨b, off + k, none⟩) g2).trans c0
      have d1 := (hb.cell (p := ⟨b, off + (k - 1), none⟩) g2).trans d0
      have hw : IntKind.i64.wrap ((k : Int) - 1) = ((k - 1 : Nat) : Int) := by rw [IntKind.wrap_i64]; omega
      have hj1 : (0 : Int) ≤ ((k - 1 : Nat) : Int) := by omega
      have hj2 : ((k - 1 : Nat) : Int) < (ks.length : Int) := by omega
      clear hx hy c0 d0 hk0
      generalize k - 1 = j at hw hj1 hj2 d1
      have hbD := hb.drew
      by_cases hq : y < x
      · have hgt : decide (x ≤ y) = false := decide_eq_false (by omega)
        have HF := Lib.hid (show ascTo ks (k + 1) = true by rw [ascTo_succ, HS.out, HA.out, decide_eq_true hq]; rfl)
        clear hq
        go_wp2_with fail
        go_quiet (fail)
        go_wp2
        exact ⟨⟨k + 1, by omega, by omega, by go_num, HF.out, bDrew hb _⟩, by simp only [intOf]; omega⟩
      · have hgt : decide (x ≤ y) = true := decide_eq_true (by omega)
        have HF := Lib.hid (show ascTo ks ks.length = false from ascTo_no hlt (by rw [HA.out, decide_eq_false hq]))
        clear hq
        go_wp2_with fail
        go_quiet (fail)
        go_wp2
        go_ret
        exact ⟨ret_b HF.out.symm, bDrew hb _⟩
    · have HF := Lib.hid (show ascTo ks ks.length = true from ascTo_less (by omega) HS.out)
      go_wp2
      go_ret
      exact ⟨ret_b HF.out.symm, hb⟩
end Go.Proofs.Ytjfmmingkciapaa
