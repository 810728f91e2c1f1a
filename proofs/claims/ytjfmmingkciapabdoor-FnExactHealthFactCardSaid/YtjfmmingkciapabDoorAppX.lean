/- Appraisal (chapter 13): contract of the landed function, in the form in which the law asks it: a device's health as a fact. Conditions as in the contract. -/
import Derived.Test.YtjfmmingkciapabDoorAppH
import Derived.Test.YtjfmmingkciapabDoorAllowH
namespace Go.Proofs.YtjfmmingkciapabDoor
open Go.ChangeShapes Go.WideShapes Go.ChangeAt Go.RowKit
set_option linter.unusedVariables false

theorem implZ_healthFact (w : World) (hi : Nat) (x : AllowedD) (vs : List Value) (key : Int) (q : QuoteD) (us : List Value) (xs : List Int) (v : Value) (nonce now span : Int) (w1 : (Lit.int .i64 key).wf = true) (w4 : (Lit.int .i64 nonce).wf = true) (w5 : (Lit.int .i64 now).wf = true) (h : rdL w hi (AllowedD.c x) vs) (h2 : rdL w hi (QuoteD.c q) us) (h3 : rdC w hi (rowF numC xs) v) (hh : hi ≤ w.heap.size) (hn : xs.length ≤ 1099511627776) (hK : NoKey w) :
    Calls Tryd.prog 9 #[.agg vs.toArray, .int .i64 key, .agg us.toArray, v, .int .i64 nonce, .int .i64 now, .int .i64 span] w fun e w' => ∃ u fp, e = .returned (.tuple #[.agg u.toArray, .bool (okH x key q xs nonce now span)]) ∧ owE w' (FactD.c (healthF x key q xs nonce now span)) u fp ∧ fp.Nodup ∧ (∀ k ∈ fp, w.heap.size ≤ k ∧ k < w'.heap.size) ∧ Below w.heap.size w w' := by
  have hr := ints_row.1 h3
  obtain ⟨a, c, rfl, -⟩ := hr.form
  obtain ⟨e, hq⟩ := quote_rdC h2
  rw [e]
  exact fact_resC (healthF_wf hq w5) (impl_healthFact w hi hi c a x vs key nonce now span q xs h hr hh hh w1 hq w4 hn hK)
end Go.Proofs.YtjfmmingkciapabDoor
