/- Appraisal (chapter 13): contract of the model: a copy of rules, its three slices made in whatever order. No condition but the bounds of what came in. -/
import Derived.Test.YtjfmmingkciapaaDoorAllow2
import Derived.Test.YtjfmmingkciapaaDoorGround
import Derived.Deep.DeepCutAuto
import Derived.Outline
namespace Go.Proofs.YtjfmmingkciapaaDoor
open Go.ChangeShapes Go.WideShapes Go.ChangeAt Go.RowKit
set_option linter.unusedVariables false

theorem Own.touch {E : TypeId} {K : IntKind} {w w' : World} {lo hi F : Nat} {v : Value} {xs : List Int} (h : Own E K w lo hi v xs) (ht : Touch [F] w w') (hne : F < lo) : Own E K w' lo hi v xs :=
  h.keep fun k h1 h2 h3 => ht.block k h3 (by rw [List.mem_singleton]; omega)
/-- Three slices of the call's own in three blocks: a struct of its own. -/
theorem allowed_own {E : TypeId} {w : World} {v : Int} {g o b : List Int} {v1 v2 v3 : Value} {p q r B : Nat} (hv : (Lit.int .i64 v).wf = true) (h1 : Own E .i64 w p (p + 1) v1 g) (h2 : Own E .i64 w q (q + 1) v2 o) (h3 : Own E .i64 w r (r + 1) v3 b)
    (n1 : p ≠ q) (n2 : p ≠ r) (n3 : q ≠ r) (b1 : B ≤ p) (b2 : B ≤ q) (b3 : B ≤ r) (l1 : p < w.heap.size) (l2 : q < w.heap.size) (l3 : r < w.heap.size) :
    ∃ fp, owE w (AllowedD.c ⟨v, g, o, b⟩) [.int .i64 v, v1, v2, v3] fp ∧ fp.Nodup ∧ ∀ k ∈ fp, B ≤ k ∧ k < w.heap.size := by
  obtain ⟨f1, o1, d1, r1⟩ := own_ints h1
  obtain ⟨f2, o2, d2, r2⟩ := own_ints h2
  obtain ⟨f3, o3, d3, r3⟩ := own_ints h3
  refine ⟨f1 ++ f2 ++ f3, AllowedD.ow_mk hv o1 o2 o3, ?_, ?_⟩
  · rw [List.nodup_append, List.nodup_append]
    refine ⟨⟨d1, d2, fun x hx y hy => ?_⟩, d3, fun x hx y hy => ?_⟩
    · have := r1 x hx; have := r2 y hy; omega
    · have := r3 y hy
      rcases List.mem_append.1 hx with hx | hx
      · have := r1 x hx; omega
      · have := r2 x hx; omega
  · intro k hk
    rcases List.mem_append.1 hk with hk | hk
    · rcases List.mem_append.1 hk with hk | hk
      · have := r1 k hk; omega
      · have := r2 k hk; omega
    · have := r3 k hk; omega
end Go.Proofs.YtjfmmingkciapaaDoor
