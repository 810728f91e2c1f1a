/- Certificates (chapter 10): the contracts of MarkCert and IssueCert in the form that the laws' walks ask (data of cells). No condition but the bounds of what came in; of the landed IssueCert: NoKey. -/
import Derived.Test.YtkbeejnikmegmaaDoorSeal
import Derived.Test.YtkbeejnikmegmaaDoorOCert
import Derived.Test.YtkbeejnikmegmaaDoorZCert
import Derived.Test.YtkbeejnikmegmaaDoorCellS
import Derived.Test.YtkbeejnikmegmaaDoorCertE
namespace Go.Proofs.YtkbeejnikmegmaaDoor
open Go.ChangeShapes Go.WideShapes Go.ChangeAt Go.RowKit
set_option linter.unusedVariables false

theorem cert_own {x : CertD} (h : x.wf) (w : World) : owE w (CertD.c x) x.cells [] := by
  obtain ⟨n, p, k, f, u, m⟩ := x
  exact CertD.ow_mk h.1 h.2.1 h.2.2.1 h.2.2.2.1 h.2.2.2.2.1 h.2.2.2.2.2
theorem cert_sz (x : CertD) : szE (CertD.c x) ≤ 100000000 := by
  obtain ⟨n, p, k, f, u, m⟩ := x
  rw [CertD.sz]
  decide
theorem keyed_wf (k : Int) (l : List Int) : (Lit.int .i64 (keyed k l)).wf = true := by
  have := keyed_bd k l
  exact wf_i64 (by omega) (by omega)
theorem markC_wf {s : Int} {x : CertD} (h : x.wf) : (markC s x).wf := ⟨h.1, h.2.1, h.2.2.1, h.2.2.2.1, h.2.2.2.2.1, keyed_wf _ _⟩
theorem cert_rd {w : World} {hi : Nat} {x : CertD} {vs : List Value} (h : rdL w hi (CertD.c x) vs) : .agg vs.toArray = x.val ∧ x.wf := by
  obtain ⟨n, p, k, f, u, m⟩ := x
  obtain ⟨rfl, h0, h1, h2, h3, h4, h5⟩ := CertD.rd h
  exact ⟨rfl, h0, h1, h2, h3, h4, h5⟩
theorem cert_res {P : Program} {F : Nat} {args : Array Value} {w : World} {y : CertD} (hy : y.wf) (h : Calls P F args w fun e w' => e = .returned y.val ∧ Below w.heap.size w w') :
    Calls P F args w fun e w' => ∃ u fp, e = .returned (.agg u.toArray) ∧ owE w' (CertD.c y) u fp ∧ fp.Nodup ∧ (∀ k ∈ fp, w.heap.size ≤ k ∧ k < w'.heap.size) ∧ Below w.heap.size w w' :=
  h.mono fun e w' he => ⟨y.cells, [], he.1, cert_own hy w', List.nodup_nil, fun k hk => (List.not_mem_nil hk).elim, he.2⟩
theorem cert_res2 {P : Program} {F : Nat} {args : Array Value} {w : World} {y : CertD} {b : Bool} (hy : y.wf) (h : Calls P F args w fun e w' => e = .returned (.tuple #[y.val, .bool b]) ∧ Below w.heap.size w w') :
    Calls P F args w fun e w' => ∃ u fp, e = .returned (.tuple #[.agg u.toArray, .bool b]) ∧ owE w' (CertD.c y) u fp ∧ fp.Nodup ∧ (∀ k ∈ fp, w.heap.size ≤ k ∧ k < w'.heap.size) ∧ Below w.heap.size w w' :=
  h.mono fun e w' he => ⟨y.cells, [], he.1, cert_own hy w', List.nodup_nil, fun k hk => (List.not_mem_nil hk).elim, he.2⟩
theorem issueC_wf {s n p k f sp : Int} (hn : (Lit.int .i64 n).wf = true) (hp : (Lit.int .i64 p).wf = true) (hk : (Lit.int .i64 k).wf = true) (hf : (Lit.int .i64 f).wf = true) : (issueC s n p k f sp).wf := by
  unfold issueC
  split
  · exact markC_wf ⟨hn, hp, hk, hf, endOf_wf _ _, wf_zero⟩
  · exact ⟨wf_zero, wf_zero, wf_zero, wf_zero, wf_zero, wf_zero⟩
theorem specZ_markCert (w : World) (hi : Nat) (a0 : Int) (x1 : CertD) (v1 : List Value) (w0 : (Lit.int .i64 a0).wf = true) (h1 : rdL w hi (CertD.c x1) v1) (hh : hi ≤ w.heap.size) :
    Calls Tryd.prog 20 #[.int .i64 a0, .agg v1.toArray] w fun e w' => ∃ u fp, e = .returned (.agg u.toArray) ∧ owE w' (CertD.c (markC a0 x1)) u fp ∧ fp.Nodup ∧ (∀ k ∈ fp, w.heap.size ≤ k ∧ k < w'.heap.size) ∧ Below w.heap.size w w' := by
  obtain ⟨e, hx⟩ := cert_rd h1
  rw [e]
  exact cert_res (markC_wf hx) (spec_markCert a0 x1 w w0 hx)
theorem implZ_markCert (w : World) (hi : Nat) (a0 : Int) (x1 : CertD) (v1 : List Value) (w0 : (Lit.int .i64 a0).wf = true) (h1 : rdL w hi (CertD.c x1) v1) (hh : hi ≤ w.heap.size) :
    Calls Tryd.prog 19 #[.int .i64 a0, .agg v1.toArray] w fun e w' => ∃ u fp, e = .returned (.agg u.toArray) ∧ owE w' (CertD.c (markC a0 x1)) u fp ∧ fp.Nodup ∧ (∀ k ∈ fp, w.heap.size ≤ k ∧ k < w'.heap.size) ∧ Below w.heap.size w w' := by
  obtain ⟨e, hx⟩ := cert_rd h1
  rw [e]
  exact cert_res (markC_wf hx) (impl_markCert a0 x1 w w0 hx)
end Go.Proofs.YtkbeejnikmegmaaDoor
