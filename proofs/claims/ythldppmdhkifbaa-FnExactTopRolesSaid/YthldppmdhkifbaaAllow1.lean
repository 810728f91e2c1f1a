/- Appraisal (chapter 13): contracts of the model: lists of numbers. No condition but the bounds of what came in. -/
import Derived.Test.YthldppmdhkifbaaAllowM
import Derived.Test.YthldppmdhkifbaaRow
import Derived.Test.YthldppmdhkifbaaHash2
import Derived.Deep.DeepCutAuto
import Derived.Outline
namespace Go.Proofs.Ythldppmdhkifbaa
open Go.ChangeShapes Go.WideShapes Go.ChangeAt Go.RowKit
set_option linter.unusedVariables false

set_option maxHeartbeats 1000000 in
theorem spec_l13Has (w : World) (hi c : Nat) (a : Option Addr) (l : List Int) (n : Int) (h : Row .i64 w hi (.slice a l.length c) l) :
    Calls Try.prog 53 #[.slice a l.length c, .int .i64 n] w fun e w' => e = .returned (.bool (hasI l n)) ∧ Below w.heap.size w w' := by
  obtain ⟨a', c', e0, h1, h2, -⟩ := id h.form
  injection e0 with e0 e1 e2
  subst e0 e2
  unfold maxLen at h2
  have H := Lib.hid h
  clear h
  obtain ⟨R, hR⟩ : ∃ R, hasI l n = R := ⟨_, rfl⟩
  rw [hR]
  have HR := Lib.hid hR
  clear hR
  go_enter Try.func53, Try.ntmps53
  go_wp2
  go_loopw [5] (fun i wr => ∃ k : Nat, k ≤ l.length ∧ i = .int .i64 (k : Int) ∧ Hid (R = hasI (l.drop k) n) ∧ Below w.heap.size w wr) (fun i _ => l.length - (intOf i).toNat)
  case atStart => exact ⟨0, Nat.zero_le _, rfl, Lib.hid HR.out.symm, Below.refl _ _⟩
  case round =>
    obtain ⟨k, hk, rfl, HI, hb⟩ := hrel
    by_cases hlt : k < l.length
    · obtain ⟨x, hx⟩ : ∃ x, l[k]? = some x := ⟨_, List.getElem?_eq_getElem hlt⟩
      have HS := Lib.hid (hasI_drop (n := n) hx)
      obtain ⟨v, hv⟩ : ∃ v, (x == n) = v := ⟨_, rfl⟩
      rw [hv] at HS
      obtain ⟨b, off, rfl, g1, g2, c0⟩ := Row.cellAt H.out hx
      have c1 := (hb.cell (p := ⟨b, off + k, none⟩) g2).trans c0
      clear hx c0
      cases v
      · have HF := Lib.hid (show R = hasI (l.drop (k + 1)) n by rw [HI.out, HS.out]; rfl)
        go_wp2
        exact ⟨⟨k + 1, by omega, by go_num, HF, hb⟩, by simp only [intOf]; omega⟩
      · have HF := Lib.hid (show R = true by rw [HI.out, HS.out]; rfl)
        go_wp2
        go_ret
        exact ⟨ret_b HF.out.symm, hb⟩
    · obtain rfl : k = l.length := by omega
      have HF := Lib.hid (show R = false by rw [HI.out, List.drop_of_length_le (Nat.le_refl _)]; rfl)
      go_wp2
      go_ret
      exact ⟨ret_b HF.out.symm, hb⟩
end Go.Proofs.Ythldppmdhkifbaa
