/- Some texts in one: Abs, IncludesT. -/
import Derived.Test.YthldppmdhkifbaaRows
import Derived.WalkKit
import Derived.ProofKit
import Derived.Below
import Derived.Test.YthldppmdhkifbaaFlat
import Derived.Handy
/- Contracts that end in 'e = .. and Below', as a law's walk takes them: the frame is carried from the law's own start. No condition. -/
namespace Go.Proofs.Ythldppmdhkifbaa
open Go.RowKit
set_option linter.unusedVariables false

/-- A call that turns nothing below a number leaves what held below it. -/
theorem absorb {P : Program} {f : FuncId} {args : Array Value} {w W : World} {r : Ending} (h : Calls P f args W fun e w' => e = r ∧ Below W.heap.size W w') (hb : Below w.heap.size w W) : Calls P f args W fun e w' => e = r ∧ Below w.heap.size w w' :=
  h.mono fun e w' he => ⟨he.1, hb.trans (he.2.mono hb.size)⟩
theorem bBelow {B : Nat} {w w' : World} (h : w = w') : Below B w w' := by rw [h]; exact Below.refl _ _
theorem as_bool {P : Program} {f : FuncId} {args : Array Value} {w W : World} {b c : Bool} (h : Calls P f args W fun e w' => e = .returned (.bool b) ∧ Below W.heap.size W w') (hb : Below w.heap.size w W) (e : b = c) : Calls P f args W fun e w' => e = .returned (.bool c) ∧ Below w.heap.size w w' := by
  subst e
  exact absorb h hb
theorem as_int {P : Program} {f : FuncId} {args : Array Value} {w W : World} {b c : Int} (h : Calls P f args W fun e w' => e = .returned (.int .i64 b) ∧ Below W.heap.size W w') (hb : Below w.heap.size w W) (e : b = c) : Calls P f args W fun e w' => e = .returned (.int .i64 c) ∧ Below w.heap.size w w' := by
  subst e
  exact absorb h hb
theorem as_str {P : Program} {f : FuncId} {args : Array Value} {w W : World} {b c : ByteArray} (h : Calls P f args W fun e w' => e = .returned (.string b) ∧ Below W.heap.size W w') (hb : Below w.heap.size w W) (e : b = c) : Calls P f args W fun e w' => e = .returned (.string c) ∧ Below w.heap.size w w' := by
  subst e
  exact absorb h hb
theorem as_val {P : Program} {f : FuncId} {args : Array Value} {w W : World} {b c : Value} (h : Calls P f args W fun e w' => e = .returned b ∧ Below W.heap.size W w') (hb : Below w.heap.size w W) (e : b = c) : Calls P f args W fun e w' => e = .returned c ∧ Below w.heap.size w w' := by
  subst e
  exact absorb h hb
end Go.Proofs.Ythldppmdhkifbaa
/- The program's type Includes as data, and the laws' own copier of it. No condition. -/
namespace Go.Proofs.Ythldppmdhkifbaa
open Go.ChangeShapes Go.WideShapes Go.ChangeAt Go.RowKit
set_option linter.unusedVariables false

structure IncludesD where
  Greater : Int
  Lesser : Int
def IncludesD.val (x : IncludesD) : Go.Value := .agg #[.int .i64 x.Greater, .int .i64 x.Lesser]
def IncludesD.cells (x : IncludesD) : List Go.Value := [.int .i64 x.Greater, .int .i64 x.Lesser]
theorem IncludesD.cells_len (x : IncludesD) : x.cells.length = 2 := rfl
theorem IncludesD.cells_inj (x y : IncludesD) (h : x.cells = y.cells) : x = y := by
  obtain ⟨a0, a1⟩ := x
  obtain ⟨b0, b1⟩ := y
  simp [IncludesD.cells] at h
  simp [h]
def IncludesD.wf (x : IncludesD) : Prop := (Lit.int .i64 x.Greater).wf = true ∧ (Lit.int .i64 x.Lesser).wf = true
theorem IncludesD.val_mk (c_Greater : Int) (c_Lesser : Int) : (IncludesD.val ⟨c_Greater, c_Lesser⟩) = .agg #[.int .i64 c_Greater, .int .i64 c_Lesser] := rfl
theorem IncludesD.wf_mk {c_Greater : Int} {c_Lesser : Int} (hc_Greater : -9223372036854775808 ≤ c_Greater ∧ c_Greater ≤ 9223372036854775807) (hc_Lesser : -9223372036854775808 ≤ c_Lesser ∧ c_Lesser ≤ 9223372036854775807) : (IncludesD.wf ⟨c_Greater, c_Lesser⟩) := ⟨wf_i64 hc_Greater.1 hc_Greater.2, wf_i64 hc_Lesser.1 hc_Lesser.2⟩
theorem IncludesD.of_leaves {H : Type} {enc : TypeId × Go.Value → H} {P : Program} {w : World} {base : Nat} {spare : Nat → Bool} {held : Bool} {ti : TypeId} (hti : P.underlying ti = some (.int .i64)) {vs : List Go.Value} (h : Leaves (Leaf enc P w base spare held) [ti, ti] vs) :
    ∃ x : IncludesD, Go.Value.agg vs.toArray = x.val ∧ x.wf := by
  match vs, h with
  | [v0, v1], ⟨h0, h1, _⟩ =>
    obtain ⟨c_Greater, rfl, w0⟩ := h0.int hti
    obtain ⟨c_Lesser, rfl, w1⟩ := h1.int hti
    exact ⟨⟨c_Greater, c_Lesser⟩, rfl, ⟨w0, w1⟩⟩
set_option maxHeartbeats 2000000 in
theorem to_IncludesC (c0 : Int) (c1 : Int) (w : World) : Calls Try.prog 54 #[.agg #[.int .i64 c0, .int .i64 c1]] w fun e w' => e = .returned (IncludesD.val ⟨c0, c1⟩) ∧ Below w.heap.size w w' := by
  rw [IncludesD.val_mk]
  go_enter Try.func54, Try.ntmps54
  go_wp2
  refine bodyPost_ret (v := .agg #[.int .i64 c0, .int .i64 c1]) (by simp [results, Try.results54, go_sem]) rfl ⟨rfl, ?_⟩
  go_grown
theorem to_Includes (x : IncludesD) (w : World) : Calls Try.prog 54 #[x.val] w fun e w' => e = .returned x.val ∧ Below w.heap.size w w' := by
  obtain ⟨c0, c1⟩ := x
  exact to_IncludesC c0 c1 w
end Go.Proofs.Ythldppmdhkifbaa
