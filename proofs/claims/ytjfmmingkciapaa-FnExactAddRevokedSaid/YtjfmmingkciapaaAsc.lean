/- Whether numbers stand in order (chapter 10's variadic helper). No condition but the bounds of what came in. -/
import Derived.Test.YtjfmmingkciapaaLit
import Derived.Test.YtjfmmingkciapaaAbs
import Derived.BigQuiet
import Derived.Deep.QuietTactic
import Derived.LoopTactic
namespace Go.Proofs.Ytjfmmingkciapaa
open Go.ChangeShapes Go.WideShapes Go.ChangeAt Go.RowKit
set_option linter.unusedVariables false

def ascB : List Int → Bool
  | a :: b :: t => decide (a ≤ b) && ascB (b :: t)
  | _ => true
theorem ascB_at {l : List Int} {k : Nat} {a b : Int} (ha : l[k]? = some a) (hb : l[k + 1]? = some b) : ascB (l.drop k) = (decide (a ≤ b) && ascB (l.drop (k + 1))) := by
  obtain ⟨h1, e1⟩ := List.getElem?_eq_some_iff.1 ha
  obtain ⟨h2, e2⟩ := List.getElem?_eq_some_iff.1 hb
  rw [List.drop_eq_getElem_cons h1, List.drop_eq_getElem_cons h2, e1, e2, ascB]
theorem ascB_end {l : List Int} {k : Nat} (h : l.length ≤ k + 1) : ascB (l.drop k) = true := by
  have : (l.drop k).length ≤ 1 := by rw [List.length_drop]; omega
  match l.drop k, this with
  | [], _ => rfl
  | [_], _ => rfl
  | _ :: _ :: _, h => simp at h
set_option maxHeartbeats 1000000 in
theorem impl_asc (w : World) (hi c : Nat) (A : Option Addr) (l : List Int) (h : Row .i64 w hi (.slice A l.length c) l) (hh : hi ≤ w.heap.size) :
    Calls Try.prog 124 #[.slice A l.length c] w fun e w' => e = .returned (.bool (ascB l)) ∧ Below w.heap.size w w' := by
  obtain ⟨a', c', e0, h1, h2, -⟩ := id h.form
  injection e0 with e0 e1 e2
  subst e0 e2
  unfold maxLen at h2
  obtain ⟨R, hR⟩ : ∃ R, ascB l = R := ⟨_, rfl⟩
  rw [hR]
  have HR := Lib.hid hR
  have H := Lib.hid h
  have hB := Below.refl w.heap.size w
  clear h hR
  go_enter Try.func124, Try.ntmps124
  go_wp2
  go_loopw [7] (fun i wr => ∃ k : Nat, (k ≤ l.length) ∧ i = .int .i64 (k : Int) ∧ Hid (R = ascB (l.drop k)) ∧ Below w.heap.size w wr) (fun i _ => l.length - (intOf i).toNat)
  case atStart => exact ⟨0, Nat.zero_le _, rfl, Lib.hid HR.out.symm, hB⟩
  case round =>
    obtain ⟨k, hk, rfl, HS, hb⟩ := hrel
    have hw1 : IntKind.i64.wrap ((l.length : Int) - 1) = (l.length : Int) - 1 := by rw [IntKind.wrap_i64]; omega
    by_cases hlt : k + 1 < l.length
    · obtain ⟨x, hx⟩ : ∃ x, l[k]? = some x := ⟨_, List.getElem?_eq_getElem (by omega)⟩
      obtain ⟨y, hy⟩ : ∃ y, l[k + 1]? = some y := ⟨_, List.getElem?_eq_getElem hlt⟩
      have HA := Lib.hid (ascB_at hx hy)
      obtain ⟨b, off, rfl, g1, g2, c0⟩ := Row.cellAt H.out hx
      obtain ⟨b', off', e0, _, _, d0⟩ := Row.cellAt H.out hy
      injection e0 with e0
      injection e0 with e1 e2
      subst e1 e2
      have c1 := (hb.cell (p := ⟨b, off + k, none⟩) g2).trans c0
      have d1 := (hb.cell (p := ⟨b, off + (k + 1), none⟩) g2).trans d0
      have hw2 : IntKind.i64.wrap ((k : Int) + 1) = ((k + 1 : Nat) : Int) := by rw [IntKind.wrap_i64]; omega
      have hj2 : ((k + 1 : Nat) : Int) < (l.length : Int) := by omega
      have hbD := hb.drew
      clear hx hy c0 d0
      by_cases hq : x ≤ y
      · have hgt : decide (y < x) = false := decide_eq_false (by omega)
        have HF := Lib.hid (show R = ascB (l.drop (k + 1)) by rw [HS.out, HA.out, decide_eq_true hq]; rfl)
        clear hq
        go_wp2_with fail
        go_quiet (fail)
        go_wp2
        exact ⟨⟨k + 1, by omega, rfl, HF, bDrew hb _⟩, by simp only [intOf]; omega⟩
      · have hgt : decide (y < x) = true := decide_eq_true (by omega)
        have HF := Lib.hid (show R = false by rw [HS.out, HA.out, decide_eq_false hq]; rfl)
        clear hq
        go_wp2_with fail
        go_quiet (fail)
        go_wp2
        go_ret
        exact ⟨ret_b HF.out.symm, bDrew hb _⟩
    · have HF := Lib.hid (show R = true by rw [HS.out, ascB_end (by omega)])
      go_wp2
      go_ret
      exact ⟨ret_b HF.out.symm, hb⟩
end Go.Proofs.Ytjfmmingkciapaa
