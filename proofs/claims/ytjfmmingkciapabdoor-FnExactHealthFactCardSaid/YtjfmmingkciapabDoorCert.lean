/- Certificates (chapter 10): mathematics, and contracts of the model. No condition but the bounds of what came in. -/
import Derived.Test.YtjfmmingkciapabDoorCertT
import Derived.Test.YtjfmmingkciapabDoorTimes
import Derived.Test.YtjfmmingkciapabDoorNames
import Derived.Test.YtjfmmingkciapabDoorNames2
import Derived.Test.YtjfmmingkciapabDoorHash2
import Derived.Test.YtjfmmingkciapabDoorGround
import Derived.Deep.DeepCutAuto
import Derived.Outline
namespace Go.Proofs.YtjfmmingkciapabDoor
open Go.ChangeShapes Go.WideShapes Go.ChangeAt Go.RowKit
set_option linter.unusedVariables false

def certP (x : CertD) : Prop := (1 ≤ x.Serial ∧ x.Serial ≤ 9999) ∧ isN x.Subject ∧ (1 ≤ x.Key ∧ x.Key ≤ 2147483646) ∧ isT x.From ∧ isT x.Until ∧ x.From ≤ x.Until ∧ x.Until - x.From ≤ 50
instance (x : CertD) : Decidable (certP x) := by unfold certP isN isT; infer_instance
def certB (x : CertD) : Bool := decide (certP x)
theorem certB_iff (x : CertD) : certB x = true ↔ certP x := decide_eq_true_iff
def certL (x : CertD) : List Int := [x.Serial, x.Subject, x.Key, x.From, x.Until]
theorem certL_wf {x : CertD} (h : x.wf) : ∀ y ∈ certL x, (Lit.int .i64 y).wf = true := by
  obtain ⟨h0, h1, h2, h3, h4, h5⟩ := h
  intro y hy
  simp only [certL, List.mem_cons, List.not_mem_nil, or_false] at hy
  rcases hy with rfl | rfl | rfl | rfl | rfl <;> assumption
def markC (s : Int) (x : CertD) : CertD := ⟨x.Serial, x.Subject, x.Key, x.From, x.Until, keyed s (certL x)⟩
def checkC (s : Int) (x : CertD) (now : Int) : Bool := certB x && (withinOf x.From x.Until now && (keyed s (certL x) == x.Mark))
def proveC (k n : Int) : Int := keyed k [n]
def provedC (s : Int) (x : CertD) (n a now : Int) : Bool := checkC s x now && (a == proveC x.Key n)
def newC (n p k f sp : Int) : CertD := ⟨n, p, k, f, endOf f sp, 0⟩
def okIssue (s n p k f sp : Int) : Bool := validKey s && (decide (0 ≤ sp) && certB (newC n p k f sp))
def issueC (s n p k f sp : Int) : CertD := if okIssue s n p k f sp then markC s (newC n p k f sp) else ⟨0, 0, 0, 0, 0, 0⟩
/-- MarkCert's contract at a struct's value. -/
def MarkAt (P : Program) (F : Nat) (s : Int) (x : CertD) : Prop := ∀ W, Calls P F #[.int .i64 s, x.val] W fun e w' => e = .returned (markC s x).val ∧ Below W.heap.size W w'
theorem endOf_wf (f s : Int) : (Lit.int .i64 (endOf f s)).wf = true := by
  unfold endOf isT
  split
  · split <;> exact wf_i64 (by omega) (by omega)
  · exact wf_i64 (by decide) (by decide)
theorem wf_zero : (Lit.int .i64 0).wf = true := by decide
end Go.Proofs.YtjfmmingkciapabDoor
