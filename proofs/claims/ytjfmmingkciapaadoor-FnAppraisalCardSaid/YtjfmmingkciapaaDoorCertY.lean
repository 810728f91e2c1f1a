/- Some texts in one: CertT, Cert, Cert2, Seal. -/
import Derived.Test.YtjfmmingkciapaaDoorGround
import Derived.Handy
import Derived.Test.YtjfmmingkciapaaDoorMeasA
import Derived.Test.YtjfmmingkciapaaDoorDraws
import Derived.Test.YtjfmmingkciapaaDoorMathZ
import Derived.Deep.DeepCutAuto
import Derived.Outline
import Derived.Laws.StructEq
import Derived.Deep.RegionHeld3
/- The program's type Cert as data, and the laws' own copier of it. No condition. -/
namespace Go.Proofs.YtjfmmingkciapaaDoor
open Go.ChangeShapes Go.WideShapes Go.ChangeAt Go.RowKit
set_option linter.unusedVariables false

structure CertD where
  Serial : Int
  Subject : Int
  Key : Int
  From : Int
  Until : Int
  Mark : Int
def CertD.val (x : CertD) : Go.Value := .agg #[.int .i64 x.Serial, .int .i64 x.Subject, .int .i64 x.Key, .int .i64 x.From, .int .i64 x.Until, .int .i64 x.Mark]
def CertD.cells (x : CertD) : List Go.Value := [.int .i64 x.Serial, .int .i64 x.Subject, .int .i64 x.Key, .int .i64 x.From, .int .i64 x.Until, .int .i64 x.Mark]
theorem CertD.cells_len (x : CertD) : x.cells.length = 6 := rfl
theorem CertD.cells_inj (x y : CertD) (h : x.cells = y.cells) : x = y := by
  obtain ⟨a0, a1, a2, a3, a4, a5⟩ := x
  obtain ⟨b0, b1, b2, b3, b4, b5⟩ := y
  simp [CertD.cells] at h
  simp [h]
def CertD.wf (x : CertD) : Prop := (Lit.int .i64 x.Serial).wf = true ∧ (Lit.int .i64 x.Subject).wf = true ∧ (Lit.int .i64 x.Key).wf = true ∧ (Lit.int .i64 x.From).wf = true ∧ (Lit.int .i64 x.Until).wf = true ∧ (Lit.int .i64 x.Mark).wf = true
theorem CertD.val_mk (c_Serial : Int) (c_Subject : Int) (c_Key : Int) (c_From : Int) (c_Until : Int) (c_Mark : Int) : (CertD.val ⟨c_Serial, c_Subject, c_Key, c_From, c_Until, c_Mark⟩) = .agg #[.int .i64 c_Serial, .int .i64 c_Subject, .int .i64 c_Key, .int .i64 c_From, .int .i64 c_Until, .int .i64 c_Mark] := rfl
theorem CertD.wf_mk {c_Serial : Int} {c_Subject : Int} {c_Key : Int} {c_From : Int} {c_Until : Int} {c_Mark : Int} (hc_Serial : -9223372036854775808 ≤ c_Serial ∧ c_Serial ≤ 9223372036854775807) (hc_Subject : -9223372036854775808 ≤ c_Subject ∧ c_Subject ≤ 9223372036854775807) (hc_Key : -9223372036854775808 ≤ c_Key ∧ c_Key ≤ 9223372036854775807) (hc_From : -9223372036854775808 ≤ c_From ∧ c_From ≤ 9223372036854775807) (hc_Until : -9223372036854775808 ≤ c_Until ∧ c_Until ≤ 9223372036854775807) (hc_Mark : -9223372036854775808 ≤ c_Mark ∧ c_Mark ≤ 9223372036854775807) : (CertD.wf ⟨c_Serial, c_Subject, c_Key, c_From, c_Until, c_Mark⟩) := ⟨wf_i64 hc_Serial.1 hc_Serial.2, wf_i64 hc_Subject.1 hc_Subject.2, wf_i64 hc_Key.1 hc_Key.2, wf_i64 hc_From.1 hc_From.2, wf_i64 hc_Until.1 hc_Until.2, wf_i64 hc_Mark.1 hc_Mark.2⟩
theorem CertD.of_leaves {H : Type} {enc : TypeId × Go.Value → H} {P : Program} {w : World} {base : Nat} {spare : Nat → Bool} {held : Bool} {ti : TypeId} (hti : P.underlying ti = some (.int .i64)) {vs : List Go.Value} (h : Leaves (Leaf enc P w base spare held) [ti, ti, ti, ti, ti, ti] vs) :
    ∃ x : CertD, Go.Value.agg vs.toArray = x.val ∧ x.wf := by
  match vs, h with
  | [v0, v1, v2, v3, v4, v5], ⟨h0, h1, h2, h3, h4, h5, _⟩ =>
    obtain ⟨c_Serial, rfl, w0⟩ := h0.int hti
    obtain ⟨c_Subject, rfl, w1⟩ := h1.int hti
    obtain ⟨c_Key, rfl, w2⟩ := h2.int hti
    obtain ⟨c_From, rfl, w3⟩ := h3.int hti
    obtain ⟨c_Until, rfl, w4⟩ := h4.int hti
    obtain ⟨c_Mark, rfl, w5⟩ := h5.int hti
    exact ⟨⟨c_Serial, c_Subject, c_Key, c_From, c_Until, c_Mark⟩, rfl, ⟨w0, w1, w2, w3, w4, w5⟩⟩
end Go.Proofs.YtjfmmingkciapaaDoor
/- Certificates (chapter 10): mathematics, and contracts of the model. No condition but the bounds of what came in. -/
namespace Go.Proofs.YtjfmmingkciapaaDoor
open Go.ChangeShapes Go.WideShapes Go.ChangeAt Go.RowKit
set_option linter.unusedVariables false

def certP (x : CertD) : Prop := (1 ≤ x.Serial ∧ x.Serial ≤ 9999) ∧ isN x.Subject ∧ (1 ≤ x.Key ∧ x.Key ≤ 2147483646) ∧ isT x.From ∧ isT x.Until ∧ x.From ≤ x.Until ∧ x.Until - x.From ≤ 50
instance (x : CertD) : Decidable (certP x) := by unfold certP isN isT; infer_instance
def certB (x : CertD) : Bool := decide (certP x)
theorem certB_iff (x : CertD) : certB x = true ↔ certP x := decide_eq_true_iff
def certL (x : CertD) : List Int := [x.Serial, x.Subject, x.Key, x.From, x.Until]
theorem certL_wf {x : CertD} (h : x.wf) : ∀ y ∈ certL x, (Lit.int .i64 y).wf = true := by
  obtain ⟨h0, h1, h2, h3, h4, h5⟩ := h
  intro y hy
  simp only [certL, List.mem_cons, List.not_mem_nil, or_false] at hy
  rcases hy with rfl | rfl | rfl | rfl | rfl <;> assumption
def markC (s : Int) (x : CertD) : CertD := ⟨x.Serial, x.Subject, x.Key, x.From, x.Until, keyed s (certL x)⟩
def checkC (s : Int) (x : CertD) (now : Int) : Bool := certB x && (withinOf x.From x.Until now && (keyed s (certL x) == x.Mark))
def proveC (k n : Int) : Int := keyed k [n]
def provedC (s : Int) (x : CertD) (n a now : Int) : Bool := checkC s x now && (a == proveC x.Key n)
def newC (n p k f sp : Int) : CertD := ⟨n, p, k, f, endOf f sp, 0⟩
def okIssue (s n p k f sp : Int) : Bool := validKey s && (decide (0 ≤ sp) && certB (newC n p k f sp))
def issueC (s n p k f sp : Int) : CertD := if okIssue s n p k f sp then markC s (newC n p k f sp) else ⟨0, 0, 0, 0, 0, 0⟩
/-- MarkCert's contract at a struct's value. -/
def MarkAt (P : Program) (F : Nat) (s : Int) (x : CertD) : Prop := ∀ W, Calls P F #[.int .i64 s, x.val] W fun e w' => e = .returned (markC s x).val ∧ Below W.heap.size W w'
theorem endOf_wf (f s : Int) : (Lit.int .i64 (endOf f s)).wf = true := by
  unfold endOf isT
  split
  · split <;> exact wf_i64 (by omega) (by omega)
  · exact wf_i64 (by decide) (by decide)
theorem wf_zero : (Lit.int .i64 0).wf = true := by decide
end Go.Proofs.YtjfmmingkciapaaDoor
namespace Go.Proofs.YtjfmmingkciapaaDoor
open Go.ChangeShapes Go.WideShapes Go.ChangeAt Go.RowKit
set_option linter.unusedVariables false
theorem below_box {w W : World} {cs : Array Value} {T : TypeId} (h : W = w.alloc (.cells cs T)) {u : World} (hb : Below W.heap.size W u) : Below w.heap.size w u := by
  subst h
  exact ((Below.refl _ _).alloc (Nat.le_refl _) _).trans (hb.mono (by simp))
end Go.Proofs.YtjfmmingkciapaaDoor
/- Certificates (chapter 10): the landed functions that seal: sealUnder (a closure), MarkCert, ProveKey. No condition but the bounds of what came in. -/
namespace Go.Proofs.YtjfmmingkciapaaDoor
open Go.ChangeShapes Go.WideShapes Go.ChangeAt Go.RowKit
set_option linter.unusedVariables false

theorem impl_sealUnder (w : World) (k : Int) :
    Calls Tryd.prog 60 #[.int .i64 k] w fun e w' => e = .returned (.func (Fn.func 73) #[] #[.pointer (some ⟨w.heap.size, 0, none⟩)]) ∧ w' = w.alloc (.cells #[.int .i64 k] 3) := by
  go_enter Tryd.func60, Tryd.ntmps60
  go_wp2
  go_ret
  exact ⟨rfl, rfl⟩
theorem impl_sealAt (w : World) (B hi : Nat) (k : Int) (v : Value) (l : List Int) (hk : (Lit.int .i64 k).wf = true) (hB : w.cell? ⟨B, 0, none⟩ = some (.int .i64 k)) (h : Row .i64 w hi v l) (hh : hi ≤ w.heap.size) (hn : l.length ≤ 137438953472) :
    Calls Tryd.prog 73 #[v, .pointer (some ⟨B, 0, none⟩)] w fun e w' => e = .returned (.int .i64 (keyed k l)) ∧ Below w.heap.size w w' := by
  have HR := Lib.hid h
  obtain ⟨⟨A, c, rfl, r1, r2, _, r3⟩, _⟩ := h
  clear r3
  go_enter Tryd.func73, Tryd.ntmps73
  go_wp2_with fail
  refine (impl_keyed w hi k _ l hk HR.out hh hn).mono ?_
  rintro e w1 ⟨rfl, b1⟩
  go_wp2
  go_ret
  exact ⟨rfl, b1⟩
end Go.Proofs.YtjfmmingkciapaaDoor
