/- Facts (chapter 6): their text. -/
import Derived.Test.YtmgigjpkpeamjaaDoorFacts
import Derived.Test.YtmgigjpkpeamjaaDoorFmt
import Derived.Deep.RegionHeld3
namespace Go.Proofs.YtmgigjpkpeamjaaDoor
open Go.ChangeShapes Go.WideShapes Go.ChangeAt Go.RowKit
set_option linter.unusedVariables false

def numS (n : Int) : ByteArray := ⟨(Lib.itoa n).toArray⟩
def sp : ByteArray := ⟨#[32]⟩
/-- A fact's text. -/
def factS (f : FactD) : ByteArray := if factB f = true then kindS f.Kind ++ sp ++ nameS f.Subject ++ sp ++ (if f.Kind = 2 then nameS f.Value else numS f.Value) ++ sp ++ numS f.Issuer ++ sp ++ numS f.At ++ sp ++ numS f.Until else ⟨#[]⟩
/-- '+' of two strings, named: for a region that draws its order. -/
theorem add_named {P : Program} {a b t : ByteArray} {n m k : Nat} (h : a ++ b = t) (ha : a.size ≤ n) (hb : b.size ≤ m) (hk : n + m ≤ k) (hk2 : k ≤ 1000000) :
    t.size ≤ k ∧ ∀ w : World, (Op.stringOp .add a b).run P w = .ok (.string t) w := by
  subst h
  refine ⟨by rw [ByteArray.size_append]; omega, fun w => run_string_add_sum w a b (by omega)⟩
theorem kindS_le (k : Int) : (kindS k).size ≤ 20 := by
  unfold kindS
  split
  · exact (by decide : (4 : Nat) ≤ 20)
  · split
    · exact (by decide : (4 : Nat) ≤ 20)
    · split
      · exact (by decide : (6 : Nat) ≤ 20)
      · split
        · exact (by decide : (5 : Nat) ≤ 20)
        · exact (by decide : (0 : Nat) ≤ 20)
theorem nameS_le20 (x : Int) : (nameS x).size ≤ 20 := by
  unfold nameS
  split
  · exact (by decide : (2 : Nat) ≤ 20)
  · exact (by decide : (0 : Nat) ≤ 20)
theorem numS_le {n : Int} (h0 : 0 ≤ n) (h1 : n ≤ 10000) : (numS n).size ≤ 20 := by
  show (Lib.itoa n).length ≤ 20
  by_cases hz : n = 0
  · subst hz; decide +kernel
  · rw [itoa_plus n (by omega)]
    exact leftDigits_le _ (by omega)
theorem kindS_pos {k : Int} (h : k = 1 ∨ k = 2 ∨ k = 3 ∨ k = 4) : 0 < (kindS k).size := by
  rcases h with rfl | rfl | rfl | rfl <;> decide
theorem factS_empty (f : FactD) : (factS f).toList.isEmpty = !factB f := by
  unfold factS
  cases hF : factB f
  · simp [ByteArray.toList_eq]
  · rw [if_pos rfl]
    have hP := (factB_iff f).1 hF
    have hk := kindS_pos (k := f.Kind) (by have := hP.1; simp only [kindP] at this; omega)
    rw [ByteArray.toList_eq, Bool.not_true, List.isEmpty_eq_false_iff, ← List.length_pos_iff]
    show 0 < (_ : ByteArray).size
    simp only [ByteArray.size_append]
    omega
end Go.Proofs.YtmgigjpkpeamjaaDoor
