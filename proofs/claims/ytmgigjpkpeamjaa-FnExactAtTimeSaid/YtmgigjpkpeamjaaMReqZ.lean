/- Some texts in one: Cond1, ReqZ. -/
import Derived.Test.YtmgigjpkpeamjaaMCondM
import Derived.Test.YtmgigjpkpeamjaaCellS
import Derived.Test.YtmgigjpkpeamjaaMRequestT
import Derived.Test.YtmgigjpkpeamjaaMTimes
import Derived.Test.YtmgigjpkpeamjaaReq1
import Derived.Test.YtmgigjpkpeamjaaReq2
import Derived.Test.YtmgigjpkpeamjaaReq3
import Derived.Test.YtmgigjpkpeamjaaORequest
import Derived.Test.YtmgigjpkpeamjaaOCond
import Derived.Test.YtmgigjpkpeamjaaOFact
import Derived.Test.YtmgigjpkpeamjaaZRequest
import Derived.Test.YtmgigjpkpeamjaaZFact
import Derived.Test.YtmgigjpkpeamjaaZIncludes
import Derived.Test.YtmgigjpkpeamjaaMCellI
/- Conditions (chapter 15): contracts of the model: arity, size, validity. No condition but the bounds of what came in. -/
namespace Go.Proofs.Ytmgigjpkpeamjaa
open Go.ChangeShapes Go.WideShapes Go.ChangeAt Go.RowKit
set_option linter.unusedVariables false

/-- A condition that came in: three numbers and a slice. -/
theorem cond_in {w : World} {hi : Nat} {o a b : Int} {es : List CondD} {vs : List Value} (h : rdL w hi (CondD.c ⟨o, a, b, es⟩) vs) :
    ∃ A c, vs = [.int .i64 o, .int .i64 a, .int .i64 b, .slice A es.length c] ∧ es.length ≤ c ∧ c ≤ maxLen ∧ rdC w hi (rowF CondD.c es) (.slice A es.length c) := by
  obtain ⟨k3, rfl, -, -, -, h3⟩ := CondD.rd h
  obtain ⟨A, c, rfl, f1, f2⟩ := h3.form
  exact ⟨A, c, rfl, f1, f2, h3⟩
theorem cond_wf {w : World} {hi : Nat} {o a b : Int} {es : List CondD} {vs : List Value} (h : rdL w hi (CondD.c ⟨o, a, b, es⟩) vs) : (Lit.int .i64 o).wf = true ∧ (Lit.int .i64 a).wf = true ∧ (Lit.int .i64 b).wf = true := by
  obtain ⟨k3, rfl, h1, h2, h3, -⟩ := CondD.rd h
  exact ⟨h1, h2, h3⟩
/-- One argument of those that came in. -/
theorem cond_at {w : World} {hi c k : Nat} {A : Option Addr} {es : List CondD} {o a b : Int} {fs : List CondD} (h : rdC w hi (rowF CondD.c es) (.slice A es.length c)) (hx : es[k]? = some ⟨o, a, b, fs⟩) :
    ∃ b' off A' c', A = some ⟨b', off, none⟩ ∧ b' < hi ∧ b' < w.heap.size ∧ rdL w hi (CondD.c ⟨o, a, b, fs⟩) [.int .i64 o, .int .i64 a, .int .i64 b, .slice A' fs.length c'] ∧
      ∀ (B : Nat) (w' : World), b' < B → Below B w w' → w'.cell? ⟨b', off + k * 4, none⟩ = some (.int .i64 o) ∧ w'.cell? ⟨b', off + k * 4 + 1, none⟩ = some (.int .i64 a) ∧ w'.cell? ⟨b', off + k * 4 + 2, none⟩ = some (.int .i64 b) ∧ w'.cell? ⟨b', off + k * 4 + 3, none⟩ = some (.slice A' fs.length c') := by
  obtain ⟨vs, b', off, hr, rfl, m1, m2, HC⟩ := rdC.at CondD.c_len h hx
  obtain ⟨A', c', rfl, -, -, -⟩ := cond_in hr
  exact ⟨b', off, A', c', rfl, m1, m2, hr, fun B w' hB hb => ⟨HC 0 _ rfl _ _ hB hb, HC 1 _ rfl _ _ hB hb, HC 2 _ rfl _ _ hB hb, HC 3 _ rfl _ _ hB hb⟩⟩
theorem size_lt {es : List CondD} {k : Nat} {x : CondD} (h : es[k]? = some x) (o a b : Int) : sizeD x < sizeD ⟨o, a, b, es⟩ := by
  have h1 := sizesTo_succ h
  have h2 := (sizesTo_le es (k + 1) (List.getElem?_eq_some_iff.1 h).1).2
  have h3 := (sizesTo_le es k (Nat.le_of_lt (List.getElem?_eq_some_iff.1 h).1)).1
  rw [sizesTo_all]
  omega
end Go.Proofs.Ytmgigjpkpeamjaa
/- Requests (chapter 17): the contracts in the form that the laws' walks ask (data of cells). No condition but the bounds of what came in. -/
namespace Go.Proofs.Ytmgigjpkpeamjaa
open Go.ChangeShapes Go.WideShapes Go.ChangeAt Go.RowKit
set_option linter.unusedVariables false

theorem req_own {x : RequestD} (h : x.wf) (w : World) : owE w (RequestD.c x) x.cells [] := by
  obtain ⟨n, p, k, f, u, m⟩ := x
  exact RequestD.ow_mk h.1 h.2.1 h.2.2.1 h.2.2.2.1 h.2.2.2.2.1 h.2.2.2.2.2
theorem req_sz (x : RequestD) : szE (RequestD.c x) ≤ 100000000 := by
  obtain ⟨n, p, k, f, u, m⟩ := x
  rw [RequestD.sz]
  decide
theorem req_rd {w : World} {hi : Nat} {x : RequestD} {vs : List Value} (h : rdL w hi (RequestD.c x) vs) : .agg vs.toArray = x.val ∧ x.wf := by
  obtain ⟨n, p, k, f, u, m⟩ := x
  obtain ⟨rfl, h0, h1, h2, h3, h4, h5⟩ := RequestD.rd h
  exact ⟨rfl, h0, h1, h2, h3, h4, h5⟩
theorem req_res {P : Go.Program} {F : Nat} {args : Array Value} {w : World} {y : RequestD} (hy : y.wf) (h : Calls P F args w fun e w' => e = .returned y.val ∧ Below w.heap.size w w') :
    Calls P F args w fun e w' => ∃ u fp, e = .returned (.agg u.toArray) ∧ owE w' (RequestD.c y) u fp ∧ fp.Nodup ∧ (∀ k ∈ fp, w.heap.size ≤ k ∧ k < w'.heap.size) ∧ Below w.heap.size w w' :=
  h.mono fun e w' he => ⟨y.cells, [], he.1, req_own hy w', List.nodup_nil, fun k hk => (List.not_mem_nil hk).elim, he.2⟩
theorem specZ_atTime (w : World) (hi : Nat) (x : RequestD) (v : List Value) (t : Int) (ht : (Lit.int .i64 t).wf = true) (h : rdL w hi (RequestD.c x) v) (hh : hi ≤ w.heap.size) :
    Calls Try.prog 12 #[.agg v.toArray, .int .i64 t] w fun e w' => ∃ u fp, e = .returned (.agg u.toArray) ∧ owE w' (RequestD.c (atQ x t)) u fp ∧ fp.Nodup ∧ (∀ k ∈ fp, w.heap.size ≤ k ∧ k < w'.heap.size) ∧ Below w.heap.size w w' := by
  obtain ⟨e, hx⟩ := req_rd h
  rw [e]
  exact req_res (atQ_wf hx ht) (spec_atTime x t w)
theorem implZ_atTime (w : World) (hi : Nat) (x : RequestD) (v : List Value) (t : Int) (ht : (Lit.int .i64 t).wf = true) (h : rdL w hi (RequestD.c x) v) (hh : hi ≤ w.heap.size) :
    Calls Try.prog 13 #[.agg v.toArray, .int .i64 t] w fun e w' => ∃ u fp, e = .returned (.agg u.toArray) ∧ owE w' (RequestD.c (atQ x t)) u fp ∧ fp.Nodup ∧ (∀ k ∈ fp, w.heap.size ≤ k ∧ k < w'.heap.size) ∧ Below w.heap.size w w' := by
  obtain ⟨e, hx⟩ := req_rd h
  rw [e]
  exact req_res (atQ_wf hx ht) (impl_atTime x t w)
theorem specZ_leafHolds (w : World) (hi : Nat) (xs0 : List IncludesD) (v0 : Value) (xs1 : List FactD) (v1 : Value) (x2 : CondD) (v2 : List Value) (x3 : RequestD) (v3 : List Value) (h0 : rdC w hi (rowF IncludesD.c xs0) v0) (h1 : rdC w hi (rowF FactD.c xs1) v1) (h2 : rdL w hi (CondD.c x2) v2) (h3 : rdL w hi (RequestD.c x3) v3) (hh : hi ≤ w.heap.size) :
    Calls Try.prog 18 #[v0, v1, .agg v2.toArray, .agg v3.toArray] w fun e w' => e = .returned (.bool (leafQ xs0 xs1 x2.Op x2.A x2.B x3)) ∧ Below w.heap.size w w' := by
  obtain ⟨e3, -⟩ := req_rd h3
  rw [e3]
  obtain ⟨o, A, B, es⟩ := x2
  obtain ⟨A', c', rfl, -, -, -⟩ := cond_in h2
  obtain ⟨r0, -⟩ := (IncludesD.rows xs0).1 h0
  obtain ⟨r1, -⟩ := (FactD.rows xs1).1 h1
  obtain ⟨a0, c0, rfl, -⟩ := h0.form
  obtain ⟨a1, c1, rfl, -⟩ := h1.form
  exact spec_leafHolds w hi hi c0 c1 _ _ a0 a1 _ xs0 xs1 o A B x3 r0 hh r1 hh
theorem implZ_leafHolds (w : World) (hi : Nat) (xs0 : List IncludesD) (v0 : Value) (xs1 : List FactD) (v1 : Value) (x2 : CondD) (v2 : List Value) (x3 : RequestD) (v3 : List Value) (h0 : rdC w hi (rowF IncludesD.c xs0) v0) (h1 : rdC w hi (rowF FactD.c xs1) v1) (h2 : rdL w hi (CondD.c x2) v2) (h3 : rdL w hi (RequestD.c x3) v3) (hh : hi ≤ w.heap.size) (hn : szC (rowF FactD.c xs1) ≤ 1048576) :
    Calls Try.prog 22 #[v0, v1, .agg v2.toArray, .agg v3.toArray] w fun e w' => e = .returned (.bool (leafQ xs0 xs1 x2.Op x2.A x2.B x3)) ∧ Below w.heap.size w w' := by
  have hn2 : xs1.length ≤ 1048576 := by
    have h9 := szE_nonneg (xs1.flatMap FactD.c)
    rw [show rowF FactD.c xs1 = .row xs1.length (xs1.flatMap FactD.c) from rfl, szC_row] at hn
    omega
  obtain ⟨e3, -⟩ := req_rd h3
  rw [e3]
  obtain ⟨o, A, B, es⟩ := x2
  obtain ⟨A', c', rfl, -, -, -⟩ := cond_in h2
  obtain ⟨r0, -⟩ := (IncludesD.rows xs0).1 h0
  obtain ⟨r1, -⟩ := (FactD.rows xs1).1 h1
  obtain ⟨a0, c0, rfl, -⟩ := h0.form
  obtain ⟨a1, c1, rfl, -⟩ := h1.form
  exact impl_leafHolds w hi hi c0 c1 _ _ a0 a1 _ xs0 xs1 o A B x3 r0 hh r1 hh hn2
end Go.Proofs.Ytmgigjpkpeamjaa
