/- Appraisal (chapter 13): the model's contract of HealthFact in the form that the laws' walks ask (data of cells). No condition but the bounds of what came in. -/
import Derived.Test.YtjfmmingkciapabDoorAllow6
import Derived.Test.YtjfmmingkciapabDoorOAllowed
import Derived.Test.YtjfmmingkciapabDoorZAllowed
import Derived.Test.YtjfmmingkciapabDoorOQuote
import Derived.Test.YtjfmmingkciapabDoorZQuote
import Derived.Test.YtjfmmingkciapabDoorZFact
import Derived.Test.YtjfmmingkciapabDoorGround
namespace Go.Proofs.YtjfmmingkciapabDoor
open Go.ChangeShapes Go.WideShapes Go.ChangeAt Go.RowKit
set_option linter.unusedVariables false

theorem fact_ownC {x : FactD} (h : x.wf) (w : World) : owE w (FactD.c x) x.cells [] := by
  obtain ⟨n, p, k, f, u, m⟩ := x
  exact FactD.ow_mk h.1 h.2.1 h.2.2.1 h.2.2.2.1 h.2.2.2.2.1 h.2.2.2.2.2
theorem fact_szC (x : FactD) : szE (FactD.c x) ≤ 100000000 := by
  obtain ⟨n, p, k, f, u, m⟩ := x
  rw [FactD.sz]
  decide
theorem quote_rdC {w : World} {hi : Nat} {x : QuoteD} {vs : List Value} (h : rdL w hi (QuoteD.c x) vs) : .agg vs.toArray = x.val ∧ x.wf := by
  obtain ⟨n, p, k, f, u⟩ := x
  obtain ⟨rfl, h0, h1, h2, h3, h4⟩ := QuoteD.rd h
  exact ⟨rfl, h0, h1, h2, h3, h4⟩
theorem fact_resC {P : Program} {F : Nat} {args : Array Value} {w : World} {y : FactD} {b : Bool} (hy : y.wf) (h : Calls P F args w fun e w' => e = .returned (.tuple #[y.val, .bool b]) ∧ Below w.heap.size w w') :
    Calls P F args w fun e w' => ∃ u fp, e = .returned (.tuple #[.agg u.toArray, .bool b]) ∧ owE w' (FactD.c y) u fp ∧ fp.Nodup ∧ (∀ k ∈ fp, w.heap.size ≤ k ∧ k < w'.heap.size) ∧ Below w.heap.size w w' :=
  h.mono fun e w' he => ⟨y.cells, [], he.1, fact_ownC hy w', List.nodup_nil, fun k hk => (List.not_mem_nil hk).elim, he.2⟩
theorem endOf_wfH (f s : Int) : (Lit.int .i64 (endOf f s)).wf = true := by
  unfold endOf isT
  split
  · split <;> exact wf_i64 (by omega) (by omega)
  · exact wf_i64 (by decide) (by decide)
theorem healthF_wf {a : AllowedD} {key : Int} {q : QuoteD} {log : List Int} {nonce now span : Int} (hq : q.wf) (hn : (Lit.int .i64 now).wf = true) : (healthF a key q log nonce now span).wf := by
  have hb := logA_bd a log
  have hb3 : -9223372036854775808 ≤ logA a log := by omega
  have hb4 : logA a log ≤ 9223372036854775807 := by omega
  unfold healthF
  split
  · show FactD.wf ⟨3, q.Device, logA a log, 1, now, endOf now span⟩
    exact ⟨(show (Lit.int .i64 3).wf = true by decide), hq.1, wf_i64 hb3 hb4, (show (Lit.int .i64 1).wf = true by decide), hn, endOf_wfH _ _⟩
  · exact ⟨by decide, by decide, by decide, by decide, by decide, by decide⟩
theorem specZ_healthFact (w : World) (hi : Nat) (x : AllowedD) (vs : List Value) (key : Int) (q : QuoteD) (us : List Value) (xs : List Int) (v : Value) (nonce now span : Int) (w1 : (Lit.int .i64 key).wf = true) (w4 : (Lit.int .i64 nonce).wf = true) (w5 : (Lit.int .i64 now).wf = true) (h : rdL w hi (AllowedD.c x) vs) (h2 : rdL w hi (QuoteD.c q) us) (h3 : rdC w hi (rowF numC xs) v) (hh : hi ≤ w.heap.size) :
    Calls Tryd.prog 5 #[.agg vs.toArray, .int .i64 key, .agg us.toArray, v, .int .i64 nonce, .int .i64 now, .int .i64 span] w fun e w' => ∃ u fp, e = .returned (.tuple #[.agg u.toArray, .bool (okH x key q xs nonce now span)]) ∧ owE w' (FactD.c (healthF x key q xs nonce now span)) u fp ∧ fp.Nodup ∧ (∀ k ∈ fp, w.heap.size ≤ k ∧ k < w'.heap.size) ∧ Below w.heap.size w w' := by
  have hr := ints_row.1 h3
  obtain ⟨a, c, rfl, -⟩ := hr.form
  obtain ⟨e, hq⟩ := quote_rdC h2
  rw [e]
  exact fact_resC (healthF_wf hq w5) (spec_healthFact w hi hi c a x vs key nonce now span q xs h hr hh hh w1 hq w4)
end Go.Proofs.YtjfmmingkciapabDoor
