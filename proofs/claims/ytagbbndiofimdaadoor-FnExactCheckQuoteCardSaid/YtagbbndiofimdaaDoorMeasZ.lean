/- Measurements (chapter 12): the contracts of MakeQuote and CheckQuote in the form that the laws' walks ask (data of cells). No condition but the bounds of what came in; of the landed ones: NoKey. -/
import Derived.Test.YtagbbndiofimdaaDoorMeasK
import Derived.Test.YtagbbndiofimdaaDoorMeas3
import Derived.Test.YtagbbndiofimdaaDoorOQuote
import Derived.Test.YtagbbndiofimdaaDoorZQuote
import Derived.Test.YtagbbndiofimdaaDoorCellI
import Derived.Test.YtagbbndiofimdaaDoorCellS
namespace Go.Proofs.YtagbbndiofimdaaDoor
open Go.ChangeShapes Go.WideShapes Go.ChangeAt Go.RowKit
set_option linter.unusedVariables false

theorem quote_own {x : QuoteD} (h : x.wf) (w : World) : owE w (QuoteD.c x) x.cells [] := by
  obtain ⟨n, p, k, f, u⟩ := x
  exact QuoteD.ow_mk h.1 h.2.1 h.2.2.1 h.2.2.2.1 h.2.2.2.2
theorem quote_sz (x : QuoteD) : szE (QuoteD.c x) ≤ 100000000 := by
  obtain ⟨n, p, k, f, u⟩ := x
  rw [QuoteD.sz]
  decide
theorem quote_rd {w : World} {hi : Nat} {x : QuoteD} {vs : List Value} (h : rdL w hi (QuoteD.c x) vs) : .agg vs.toArray = x.val ∧ x.wf := by
  obtain ⟨n, p, k, f, u⟩ := x
  obtain ⟨rfl, h0, h1, h2, h3, h4⟩ := QuoteD.rd h
  exact ⟨rfl, h0, h1, h2, h3, h4⟩
theorem quote_res2 {P : Program} {F : Nat} {args : Array Value} {w : World} {y : QuoteD} {b : Bool} (hy : y.wf) (h : Calls P F args w fun e w' => e = .returned (.tuple #[y.val, .bool b]) ∧ Below w.heap.size w w') :
    Calls P F args w fun e w' => ∃ u fp, e = .returned (.tuple #[.agg u.toArray, .bool b]) ∧ owE w' (QuoteD.c y) u fp ∧ fp.Nodup ∧ (∀ k ∈ fp, w.heap.size ≤ k ∧ k < w'.heap.size) ∧ Below w.heap.size w w' :=
  h.mono fun e w' he => ⟨y.cells, [], he.1, quote_own hy w', List.nodup_nil, fun k hk => (List.not_mem_nil hk).elim, he.2⟩
theorem makeQ_wf {k d n t : Int} {log : List Int} (hd : (Lit.int .i64 d).wf = true) (hn : (Lit.int .i64 n).wf = true) (ht : (Lit.int .i64 t).wf = true) : (makeQ k d log n t).wf := by
  have hm := keyed_bd k [d, regOf log, n, t]
  unfold makeQ
  split
  · exact ⟨hd, regOf_wf _, hn, ht, wf_i64 (by show _ ≤ keyed _ _; omega) (by show keyed _ _ ≤ _; omega)⟩
  · exact ⟨wf_zero, wf_zero, wf_zero, wf_zero, wf_zero⟩
theorem specZ_makeQuote (w : World) (hi : Nat) (a0 a1 a3 a4 : Int) (xs : List Int) (v : Value) (w0 : (Lit.int .i64 a0).wf = true) (w1 : (Lit.int .i64 a1).wf = true) (w3 : (Lit.int .i64 a3).wf = true) (w4 : (Lit.int .i64 a4).wf = true) (h : rdC w hi (rowF numC xs) v) (hh : hi ≤ w.heap.size) :
    Calls Tryd.prog 15 #[.int .i64 a0, .int .i64 a1, v, .int .i64 a3, .int .i64 a4] w fun e w' => ∃ u fp, e = .returned (.tuple #[.agg u.toArray, .bool (okQuote a0 a1 xs a4)]) ∧ owE w' (QuoteD.c (makeQ a0 a1 xs a3 a4)) u fp ∧ fp.Nodup ∧ (∀ k ∈ fp, w.heap.size ≤ k ∧ k < w'.heap.size) ∧ Below w.heap.size w w' := by
  have hr := ints_row.1 h
  obtain ⟨a, c, rfl, -⟩ := hr.form
  exact quote_res2 (makeQ_wf w1 w3 w4) (spec_makeQuote a0 a1 a3 a4 w hi c a xs hr hh w0 w1 w3 w4)
theorem implZ_makeQuote (w : World) (hi : Nat) (a0 a1 a3 a4 : Int) (xs : List Int) (v : Value) (w0 : (Lit.int .i64 a0).wf = true) (w1 : (Lit.int .i64 a1).wf = true) (w3 : (Lit.int .i64 a3).wf = true) (w4 : (Lit.int .i64 a4).wf = true) (h : rdC w hi (rowF numC xs) v) (hh : hi ≤ w.heap.size) (hn : xs.length ≤ 1099511627776) (hK : NoKey w) :
    Calls Tryd.prog 8 #[.int .i64 a0, .int .i64 a1, v, .int .i64 a3, .int .i64 a4] w fun e w' => ∃ u fp, e = .returned (.tuple #[.agg u.toArray, .bool (okQuote a0 a1 xs a4)]) ∧ owE w' (QuoteD.c (makeQ a0 a1 xs a3 a4)) u fp ∧ fp.Nodup ∧ (∀ k ∈ fp, w.heap.size ≤ k ∧ k < w'.heap.size) ∧ Below w.heap.size w w' := by
  have hr := ints_row.1 h
  obtain ⟨a, c, rfl, -⟩ := hr.form
  exact quote_res2 (makeQ_wf w1 w3 w4) (impl_makeQuote a0 a1 a3 a4 w hi c a xs hr hh hn w0 w1 w3 w4 hK)
theorem specZ_checkQuote (w : World) (hi : Nat) (a0 a3 a4 a5 : Int) (x : QuoteD) (vs : List Value) (xs : List Int) (v : Value) (w0 : (Lit.int .i64 a0).wf = true) (w3 : (Lit.int .i64 a3).wf = true) (hx : rdL w hi (QuoteD.c x) vs) (h : rdC w hi (rowF numC xs) v) (hh : hi ≤ w.heap.size) :
    Calls Tryd.prog 19 #[.int .i64 a0, .agg vs.toArray, v, .int .i64 a3, .int .i64 a4, .int .i64 a5] w fun e w' => e = .returned (.bool (checkQ a0 x xs a3 a4 a5)) ∧ Below w.heap.size w w' := by
  have hr := ints_row.1 h
  obtain ⟨a, c, rfl, -⟩ := hr.form
  obtain ⟨e, hq⟩ := quote_rd hx
  rw [e]
  exact spec_checkQuote a0 a3 a4 a5 x w hi c a xs hr hh w0 hq w3
theorem implZ_checkQuote (w : World) (hi : Nat) (a0 a3 a4 a5 : Int) (x : QuoteD) (vs : List Value) (xs : List Int) (v : Value) (w0 : (Lit.int .i64 a0).wf = true) (w3 : (Lit.int .i64 a3).wf = true) (hx : rdL w hi (QuoteD.c x) vs) (h : rdC w hi (rowF numC xs) v) (hh : hi ≤ w.heap.size) (hn : xs.length ≤ 1099511627776) (hK : NoKey w) :
    Calls Tryd.prog 9 #[.int .i64 a0, .agg vs.toArray, v, .int .i64 a3, .int .i64 a4, .int .i64 a5] w fun e w' => e = .returned (.bool (checkQ a0 x xs a3 a4 a5)) ∧ Below w.heap.size w w' := by
  have hr := ints_row.1 h
  obtain ⟨a, c, rfl, -⟩ := hr.form
  obtain ⟨e, hq⟩ := quote_rd hx
  rw [e]
  exact impl_checkQuote a0 a3 a4 a5 x w hi c a xs hr hh w0 hq w3 hn hK
end Go.Proofs.YtagbbndiofimdaaDoor
