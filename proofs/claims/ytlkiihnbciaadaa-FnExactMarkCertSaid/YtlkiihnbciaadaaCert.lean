/- Certificates (chapter 10): mathematics, and contracts of the model. No condition but the bounds of what came in. -/
import Derived.Test.YtlkiihnbciaadaaCertT
import Derived.Test.YtlkiihnbciaadaaTimes
import Derived.Test.YtlkiihnbciaadaaNames
import Derived.Test.YtlkiihnbciaadaaNames2
import Derived.Test.YtlkiihnbciaadaaHash2
import Derived.Test.YtlkiihnbciaadaaLit
import Derived.Test.YtlkiihnbciaadaaBlk
import Derived.Test.YtlkiihnbciaadaaCellS
import Derived.Deep.DeepCutAuto
import Derived.Outline
namespace Go.Proofs.Ytlkiihnbciaadaa
open Go.ChangeShapes Go.WideShapes Go.ChangeAt Go.RowKit
set_option linter.unusedVariables false

def certP (x : CertD) : Prop := (1 ≤ x.Serial ∧ x.Serial ≤ 9999) ∧ isN x.Subject ∧ (1 ≤ x.Key ∧ x.Key ≤ 2147483646) ∧ isT x.From ∧ isT x.Until ∧ x.From ≤ x.Until ∧ x.Until - x.From ≤ 50
instance (x : CertD) : Decidable (certP x) := by unfold certP isN isT; infer_instance
def certB (x : CertD) : Bool := decide (certP x)
theorem certB_iff (x : CertD) : certB x = true ↔ certP x := decide_eq_true_iff
def certL (x : CertD) : List Int := [x.Serial, x.Subject, x.Key, x.From, x.Until]
theorem certL_wf {x : CertD} (h : x.wf) : ∀ y ∈ certL x, (Lit.int .i64 y).wf = true := by
  obtain ⟨h0, h1, h2, h3, h4, h5⟩ := h
  intro y hy
  simp only [certL, List.mem_cons, List.not_mem_nil, or_false] at hy
  rcases hy with rfl | rfl | rfl | rfl | rfl <;> assumption
def markC (s : Int) (x : CertD) : CertD := ⟨x.Serial, x.Subject, x.Key, x.From, x.Until, keyed s (certL x)⟩
def checkC (s : Int) (x : CertD) (now : Int) : Bool := certB x && (withinOf x.From x.Until now && (keyed s (certL x) == x.Mark))
def proveC (k n : Int) : Int := keyed k [n]
def provedC (s : Int) (x : CertD) (n a now : Int) : Bool := checkC s x now && (a == proveC x.Key n)
def newC (n p k f sp : Int) : CertD := ⟨n, p, k, f, endOf f sp, 0⟩
def okIssue (s n p k f sp : Int) : Bool := validKey s && (decide (0 ≤ sp) && certB (newC n p k f sp))
def issueC (s n p k f sp : Int) : CertD := if okIssue s n p k f sp then markC s (newC n p k f sp) else ⟨0, 0, 0, 0, 0, 0⟩
set_option maxHeartbeats 2000000 in
theorem spec_markCert (s : Int) (x : CertD) (w : World) (hs : (Lit.int .i64 s).wf = true) (hx : x.wf) : Calls Try.prog 5 #[.int .i64 s, x.val] w fun e w' => e = .returned (markC s x).val ∧ Below w.heap.size w w' := by
  obtain ⟨n, p, k, f, u, m⟩ := x
  have HR := Lib.hid (fun (W : World) => (Own.lit 3 W (certL ⟨n, p, k, f, u, m⟩) (certL_wf hx) (by show 5 ≤ maxLen; decide)).read)
  have CK := Lib.hid (fun (W : World) (hi : Nat) (v : Value) (h : Row .i64 W hi v [n, p, k, f, u]) (hh : hi ≤ W.heap.size) => spec_keyed W hi s v [n, p, k, f, u] hs h hh (by simp))
  clear hx
  show Calls _ _ _ _ fun e w' => e = .returned (CertD.val ⟨n, p, k, f, u, keyed s [n, p, k, f, u]⟩) ∧ _
  generalize keyed s [n, p, k, f, u] = q at CK
  rw [CertD.val_mk, CertD.val_mk]
  go_enter Try.func5, Try.ntmps5
  go_wp2_with fail
  obtain ⟨W1, hW1⟩ : ∃ W1, W1 = (w.alloc (.cells #[.int .i64 n, .int .i64 p, .int .i64 k, .int .i64 f, .int .i64 u, .int .i64 m] 24)).alloc (.cells #[.int .i64 0, .int .i64 0, .int .i64 0, .int .i64 0, .int .i64 0, .int .i64 0] 24) := ⟨_, rfl⟩
  rw [← hW1]
  have b1 : Below w.heap.size w W1 := by rw [hW1]; go_grown
  have z1 : W1.heap.size = w.heap.size + 1 + 1 := by rw [hW1]; simp
  have hR := HR.out W1
  rw [z1] at hR
  have k0 : W1.heap[w.heap.size]? = some (.cells #[.int .i64 n, .int .i64 p, .int .i64 k, .int .i64 f, .int .i64 u, .int .i64 m] 24) := by rw [hW1]; exact blk_keep (C := w.heap.size + 1) (blk_new _ _ _) (by go_grown) (by omega)
  have k1 : W1.heap[w.heap.size + 1]? = some (.cells #[.int .i64 0, .int .i64 0, .int .i64 0, .int .i64 0, .int .i64 0, .int .i64 0] 24) := by rw [hW1]; exact blk_new_at _ _ (by simp)
  clear hW1
  refine (CK.out _ _ _ hR (by simp [z1])).mono ?_
  rintro e w2 ⟨rfl, b2⟩
  have b12 := ((Below.refl W1.heap.size W1).alloc (Nat.le_refl _) _).trans (b2.mono (by simp))
  have k0' := blk_keep k0 b12 (by omega)
  have k1' := blk_keep k1 b12 (by omega)
  have B2 := b1.trans (b12.mono (by omega))
  clear k0 k1 b2 hR HR CK b1 b12
  have T1 : Touch [w.heap.size] w2 (w2.setCell ⟨w.heap.size, 5, none⟩ (.int .i64 q)) := Touch.set (List.mem_singleton.2 rfl) _ _ _
  have k2 := (T1.block _ (blk_lt k1') (by simp)).trans k1'
  have B3 := B2.trans (T1.below (B := w.heap.size) (fun k hk => by rw [List.mem_singleton] at hk; omega) B2.size)
  obtain ⟨hE, tE⟩ := stt_6 k2 (.int .i64 n) (.int .i64 p) (.int .i64 k) (.int .i64 f) (.int .i64 u) (.int .i64 q)
  have B4 := B3.trans (tE.below (B := w.heap.size) (fun k hk => by rw [List.mem_singleton] at hk; omega) B3.size)
  have HE := Lib.hid (cls_6 hE).1
  have HB := Lib.hid B4
  clear k2 B3 tE hE T1 B2 B4
  obtain ⟨⟨c0, c1, c2, c3, c4, c5⟩, -, -, -, -, -, f5⟩ := cls_6 k0'
  obtain ⟨⟨d0, d1, d2, d3, d4, d5⟩, g0, g1, g2, g3, g4, g5⟩ := cls_6 k1'
  clear k0' k1'
  go_wp2
  obtain ⟨e0, e1, e2, e3, e4, e5⟩ := HE.out
  have B4 := HB.out
  generalize hV : World.setCell _ _ _ = V at e0 e1 e2 e3 e4 e5 B4 ⊢
  exact bodyPost_ret (v := .agg #[.int .i64 n, .int .i64 p, .int .i64 k, .int .i64 f, .int .i64 u, .int .i64 q]) (by simp [results, Try.results5, go_sem, e0, e1, e2, e3, e4, e5]) rfl ⟨rfl, B4⟩
/-- MarkCert's contract at a struct's value. -/
def MarkAt (P : Program) (F : Nat) (s : Int) (x : CertD) : Prop := ∀ W, Calls P F #[.int .i64 s, x.val] W fun e w' => e = .returned (markC s x).val ∧ Below W.heap.size W w'
theorem endOf_wf (f s : Int) : (Lit.int .i64 (endOf f s)).wf = true := by
  unfold endOf isT
  split
  · split <;> exact wf_i64 (by omega) (by omega)
  · exact wf_i64 (by decide) (by decide)
theorem wf_zero : (Lit.int .i64 0).wf = true := by decide
end Go.Proofs.Ytlkiihnbciaadaa
