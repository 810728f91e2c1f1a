/- Package-level variables of an interface type (errors) read behind a call as they read before it, where nothing below the heap's old size has turned. -/
import Derived.Test.YtjfmmingkciapaaDoorRows
import Derived.WalkKit
import Derived.ProofKit
import Derived.OpenShut
import Derived.Below
import Derived.Carry
import Derived.ChangeVars
import Derived.RowKitTokens
import Derived.ChangeOld
namespace Go.Proofs.YtjfmmingkciapaaDoor
open Go.ChangeShapes Go.WideShapes Go.RowKit
set_option linter.unusedVariables false

theorem var_below {P : Program} {W W' : World} {n : String} {cs : Array Value} (hb : Below W.heap.size W W') (h : W.var? P n = some cs) : W'.var? P n = some cs := by
  unfold World.var? at h ⊢
  cases hg : P.globalNamed n with
  | none => simp [hg] at h
  | some g =>
    simp only [hg, Option.bind_some] at h ⊢
    have hlt : g < W.heap.size := by
      rcases Nat.lt_or_ge g W.heap.size with h' | h'
      · exact h'
      · simp [Array.getElem?_eq_none h'] at h
    rw [hb.block g hlt]
    exact h
theorem vars_tok {H : Type} {enc : TypeId × Value → H} {P : Program} {W : World} : ∀ {ns : List String} {gs : List (DataW H)} {ps : List MemPlace},
    (∀ n ∈ ns, ∃ g t ms, P.globalNamed n = some g ∧ (P.globals[g]?).map (·.type) = some t ∧ P.underlying t = some (.interface ms)) →
    DataW.TrodVars enc P W (fun _ => true) ns gs ps → ∀ W', Below W.heap.size W W' → ∀ sp, DataW.TrodVars enc P W' sp ns gs ps
  | [], gs, ps, _, h, W', hb, sp => by
    obtain ⟨rfl, rfl⟩ := trodVars_none h
    rfl
  | n :: ns, [], ps, _, h, W', hb, sp => by simp [DataW.TrodVars] at h
  | n :: ns, d :: ds, ps, hi, h, W', hb, sp => by
    obtain ⟨g, t, cs, fuel, p, q, h1, h2, h3, h4, hs, e⟩ := h
    obtain ⟨g', t', ms, k1, k2, k3⟩ := hi n (by simp)
    obtain rfl := Option.some.inj (k1.symm.trans h1)
    obtain rfl := Option.some.inj (k2.symm.trans h2)
    obtain ⟨old, hcs, ho, hx⟩ := held_of_trod_list k3 h4
    simp only [Prod.mk.injEq] at hx
    obtain ⟨rfl, rfl⟩ := hx
    refine ⟨g', t', cs, 1, [], q, h1, h2, var_below hb h3, ?_, vars_tok (fun n hn => hi n (by simp [hn])) hs W' hb sp, e⟩
    rw [hcs]
    exact trod_held k3 ho 0
theorem vars_cons {H : Type} {enc : TypeId × Value → H} {P : Program} {W : World} {sp : Nat → Bool} {n : String} {ns : List String} {gs : List (DataW H)} {ps : List MemPlace} (h : DataW.TrodVars enc P W sp (n :: ns) gs ps) :
    ∃ d ds, gs = d :: ds ∧ ∃ q, DataW.TrodVars enc P W sp ns ds q := by
  cases gs with
  | nil => simp [DataW.TrodVars] at h
  | cons d ds =>
    obtain ⟨g, t, cs, fuel, p, q, h1, h2, h3, h4, hs, e⟩ := h
    exact ⟨d, ds, rfl, q, hs⟩
end Go.Proofs.YtjfmmingkciapaaDoor
