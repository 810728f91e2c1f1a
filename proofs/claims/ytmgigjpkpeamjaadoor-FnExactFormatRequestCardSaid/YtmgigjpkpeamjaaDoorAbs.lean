/- Contracts that end in 'e = .. and Below', as a law's walk takes them: the frame is carried from the law's own start. No condition. -/
import Derived.Test.YtmgigjpkpeamjaaDoorRows
import Derived.WalkKit
import Derived.ProofKit
import Derived.Below
namespace Go.Proofs.YtmgigjpkpeamjaaDoor
open Go.RowKit
set_option linter.unusedVariables false

/-- A call that turns nothing below a number leaves what held below it. -/
theorem absorb {P : Program} {f : FuncId} {args : Array Value} {w W : World} {r : Ending} (h : Calls P f args W fun e w' => e = r ∧ Below W.heap.size W w') (hb : Below w.heap.size w W) : Calls P f args W fun e w' => e = r ∧ Below w.heap.size w w' :=
  h.mono fun e w' he => ⟨he.1, hb.trans (he.2.mono hb.size)⟩
theorem bBelow {B : Nat} {w w' : World} (h : w = w') : Below B w w' := by rw [h]; exact Below.refl _ _
theorem as_bool {P : Program} {f : FuncId} {args : Array Value} {w W : World} {b c : Bool} (h : Calls P f args W fun e w' => e = .returned (.bool b) ∧ Below W.heap.size W w') (hb : Below w.heap.size w W) (e : b = c) : Calls P f args W fun e w' => e = .returned (.bool c) ∧ Below w.heap.size w w' := by
  subst e
  exact absorb h hb
theorem as_int {P : Program} {f : FuncId} {args : Array Value} {w W : World} {b c : Int} (h : Calls P f args W fun e w' => e = .returned (.int .i64 b) ∧ Below W.heap.size W w') (hb : Below w.heap.size w W) (e : b = c) : Calls P f args W fun e w' => e = .returned (.int .i64 c) ∧ Below w.heap.size w w' := by
  subst e
  exact absorb h hb
theorem as_str {P : Program} {f : FuncId} {args : Array Value} {w W : World} {b c : ByteArray} (h : Calls P f args W fun e w' => e = .returned (.string b) ∧ Below W.heap.size W w') (hb : Below w.heap.size w W) (e : b = c) : Calls P f args W fun e w' => e = .returned (.string c) ∧ Below w.heap.size w w' := by
  subst e
  exact absorb h hb
theorem as_val {P : Program} {f : FuncId} {args : Array Value} {w W : World} {b c : Value} (h : Calls P f args W fun e w' => e = .returned b ∧ Below W.heap.size W w') (hb : Below w.heap.size w W) (e : b = c) : Calls P f args W fun e w' => e = .returned c ∧ Below w.heap.size w w' := by
  subst e
  exact absorb h hb
end Go.Proofs.YtmgigjpkpeamjaaDoor
