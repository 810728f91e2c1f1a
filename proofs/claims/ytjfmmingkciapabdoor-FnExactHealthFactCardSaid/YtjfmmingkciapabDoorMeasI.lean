/- Measurements (chapter 12): contracts of the landed functions: registers, logs. No condition but the bounds of what came in. -/
import Derived.Test.YtjfmmingkciapabDoorFold
namespace Go.Proofs.YtjfmmingkciapabDoor
open Go.ChangeShapes Go.WideShapes Go.ChangeAt Go.RowKit
set_option linter.unusedVariables false

theorem impl_registerOf (w : World) (hi c : Nat) (a : Option Addr) (l : List Int) (h : Row .i64 w hi (.slice a l.length c) l) (hh : hi ≤ w.heap.size) (hn : l.length ≤ 1099511627776) :
    Calls Tryd.prog 52 #[.slice a l.length c] w fun e w' => e = .returned (.int .i64 (regOf l)) ∧ Below w.heap.size w w' := by
  have CH := Lib.hid (show Calls Tryd.prog 64 #[.int .i64 0, .slice a l.length c] w (fun e w' => e = .returned (.int .i64 (regOf l)) ∧ Below w.heap.size w w') from impl_extended 0 w hi c a l (by decide) h hh hn)
  generalize regOf l = q at CH ⊢
  clear h
  go_enter Tryd.func52, Tryd.ntmps52
  go_wp2_with (go_at_call 64; refine CH.out.mono ?_; rintro e u ⟨rfl, hw⟩)
  go_ret
  exact ⟨rfl, hw⟩
set_option maxHeartbeats 1000000 in
theorem impl_isLog (w : World) (hi c : Nat) (a : Option Addr) (l : List Int) (h : Row .i64 w hi (.slice a l.length c) l) :
    Calls Tryd.prog 51 #[.slice a l.length c] w fun e w' => e = .returned (.bool (logB l)) ∧ Below w.heap.size w w' := by
  obtain ⟨a', c', e0, h1, h2, -⟩ := id h.form
  injection e0 with e0 e1 e2
  subst e0 e2
  unfold maxLen at h2
  have H := Lib.hid h
  clear h
  obtain ⟨R, hR⟩ : ∃ R, logB l = R := ⟨_, rfl⟩
  rw [hR]
  have HR := Lib.hid hR
  clear hR
  go_enter Tryd.func51, Tryd.ntmps51
  go_wp2
  go_loopw [7] (fun i wr => ∃ k : Nat, k ≤ l.length ∧ i = .int .i64 (k : Int) ∧ Hid (R = ((l.drop k).all (fun x => decide (0 ≤ x ∧ x ≤ 99)) && decide (l.length ≤ 8))) ∧ Below w.heap.size w wr) (fun i _ => l.length - (intOf i).toNat)
  case atStart => exact ⟨0, Nat.zero_le _, rfl, Lib.hid HR.out.symm, Below.refl _ _⟩
  case round =>
    obtain ⟨k, hk, rfl, HI, hb⟩ := hrel
    by_cases hlt : k < l.length
    · obtain ⟨x, hx⟩ : ∃ x, l[k]? = some x := ⟨_, List.getElem?_eq_getElem hlt⟩
      have HS := Lib.hid (all_drop (p := fun x => decide (0 ≤ x ∧ x ≤ 99)) hx)
      obtain ⟨v, hv⟩ : ∃ v, decide (0 ≤ x ∧ x ≤ 99) = v := ⟨_, rfl⟩
      have CI := Lib.hid (fun W => show Calls Tryd.prog 31 #[.int .i64 x, .int .i64 0, .int .i64 99] W fun e w' => e = .returned (.bool v) ∧ W = w' from hv ▸ impl_range x 0 99 W)
      rw [hv] at HS
      obtain ⟨b, off, rfl, g1, g2, c0⟩ := Row.cellAt H.out hx
      have c1 := (hb.cell (p := ⟨b, off + k, none⟩) g2).trans c0
      clear hx c0 hv
      cases v
      · have HF := Lib.hid (show R = false by rw [HI.out, HS.out]; rfl)
        go_wp2_with (go_at_call 31; refine (CI.out _).mono ?_; rintro e u ⟨rfl, rfl⟩)
        go_ret
        exact ⟨ret_b HF.out.symm, hb⟩
      · have HF := Lib.hid (show R = ((l.drop (k + 1)).all (fun x => decide (0 ≤ x ∧ x ≤ 99)) && decide (l.length ≤ 8)) by rw [HI.out, HS.out]; rfl)
        go_wp2_with (go_at_call 31; refine (CI.out _).mono ?_; rintro e u ⟨rfl, rfl⟩)
        exact ⟨⟨k + 1, by omega, by go_num, HF, hb⟩, by simp only [intOf]; omega⟩
    · obtain rfl : k = l.length := by omega
      have HF := Lib.hid (show R = decide ((l.length : Int) ≤ 8) by
        rw [HI.out, List.drop_of_length_le (Nat.le_refl _)]
        show (true && _) = _
        rw [Bool.true_and]
        exact decide_eq_decide.2 (by omega))
      go_wp2
      go_ret
      exact ⟨ret_b HF.out.symm, hb⟩
end Go.Proofs.YtjfmmingkciapabDoor
