/- Names (chapter 5): mathematics, and contracts of the model. -/
import Derived.Test.YtagbbndiofimdaaShared
import Derived.Test.YtagbbndiofimdaaStr
import Derived.Test.YtagbbndiofimdaaAbs
import Derived.Deep.RegionWith
import Derived.Deep.DeepCutAuto
namespace Go.Proofs.Ytagbbndiofimdaa
open Go.ChangeShapes Go.WideShapes Go.ChangeAt Go.RowKit
set_option linter.unusedVariables false

def isN (x : Int) : Prop := 10 ≤ x ∧ x ≤ 49
instance (x : Int) : Decidable (isN x) := inferInstanceAs (Decidable (10 ≤ x ∧ x ≤ 49))
def makeOf (k n : Int) : Int := if (1 ≤ k ∧ k ≤ 4) ∧ 0 ≤ n ∧ n ≤ 9 then k * 10 + n else -1
def kindOf (x : Int) : Int := if isN x then x / 10 else 0
def hasOf (x k : Int) : Bool := decide (isN x ∧ x / 10 = k)
def letter (k : Int) : UInt8 := if k = 1 then 112 else if k = 2 then 100 else if k = 3 then 103 else 111
/-- A name's text. -/
def nameS (x : Int) : ByteArray := if isN x then ⟨#[letter (x / 10), UInt8.ofNat (48 + (x % 10).toNat)]⟩ else ⟨#[]⟩
/-- What a literal's block holds behind a draw and a call. -/
theorem lit_after {w w1 : World} {cs : Array Value} {T : TypeId} {v : Value} (hb : Below ((w.alloc (.cells cs T)).drew).heap.size ((w.alloc (.cells cs T)).drew) w1) (k : Nat) (hk : cs[k]? = some v) : w1.cell? ⟨w.heap.size, k, none⟩ = some v := by
  refine (hb.cell (p := ⟨w.heap.size, k, none⟩) (by show w.heap.size < (w.heap.push _).size; simp)).trans ?_
  show (w.alloc (.cells cs T)).cell? ⟨w.heap.size, k, none⟩ = some v
  rw [World.cell?_alloc_new]
  exact hk
end Go.Proofs.Ytagbbndiofimdaa
