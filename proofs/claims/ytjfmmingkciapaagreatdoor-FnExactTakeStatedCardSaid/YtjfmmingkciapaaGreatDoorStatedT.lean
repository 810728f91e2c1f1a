/- The program's type Stated as data, and the laws' own copier of it. No condition. -/
import Derived.Test.YtjfmmingkciapaaGreatDoorGround
import Derived.Handy
import Derived.Test.YtjfmmingkciapaaGreatDoorFactT
import Derived.Deep.Cut
namespace Go.Proofs.YtjfmmingkciapaaGreatDoor
open Go.ChangeShapes Go.WideShapes Go.ChangeAt Go.RowKit
set_option linter.unusedVariables false

structure StatedD where
  Fact : FactD
  Mark : Int
def StatedD.val (x : StatedD) : Go.Value := .agg #[.int .i64 x.Fact.Kind, .int .i64 x.Fact.Subject, .int .i64 x.Fact.Value, .int .i64 x.Fact.Issuer, .int .i64 x.Fact.At, .int .i64 x.Fact.Until, .int .i64 x.Mark]
def StatedD.cells (x : StatedD) : List Go.Value := [.int .i64 x.Fact.Kind, .int .i64 x.Fact.Subject, .int .i64 x.Fact.Value, .int .i64 x.Fact.Issuer, .int .i64 x.Fact.At, .int .i64 x.Fact.Until, .int .i64 x.Mark]
theorem StatedD.cells_len (x : StatedD) : x.cells.length = 7 := rfl
theorem StatedD.cells_inj (x y : StatedD) (h : x.cells = y.cells) : x = y := by
  obtain ⟨⟨a0, a1, a2, a3, a4, a5⟩, a6⟩ := x
  obtain ⟨⟨b0, b1, b2, b3, b4, b5⟩, b6⟩ := y
  simp [StatedD.cells] at h
  simp [h]
def StatedD.wf (x : StatedD) : Prop := (Lit.int .i64 x.Fact.Kind).wf = true ∧ (Lit.int .i64 x.Fact.Subject).wf = true ∧ (Lit.int .i64 x.Fact.Value).wf = true ∧ (Lit.int .i64 x.Fact.Issuer).wf = true ∧ (Lit.int .i64 x.Fact.At).wf = true ∧ (Lit.int .i64 x.Fact.Until).wf = true ∧ (Lit.int .i64 x.Mark).wf = true
theorem StatedD.val_mk (c_Fact_Kind : Int) (c_Fact_Subject : Int) (c_Fact_Value : Int) (c_Fact_Issuer : Int) (c_Fact_At : Int) (c_Fact_Until : Int) (c_Mark : Int) : (StatedD.val ⟨⟨c_Fact_Kind, c_Fact_Subject, c_Fact_Value, c_Fact_Issuer, c_Fact_At, c_Fact_Until⟩, c_Mark⟩) = .agg #[.int .i64 c_Fact_Kind, .int .i64 c_Fact_Subject, .int .i64 c_Fact_Value, .int .i64 c_Fact_Issuer, .int .i64 c_Fact_At, .int .i64 c_Fact_Until, .int .i64 c_Mark] := rfl
theorem StatedD.wf_mk {c_Fact_Kind : Int} {c_Fact_Subject : Int} {c_Fact_Value : Int} {c_Fact_Issuer : Int} {c_Fact_At : Int} {c_Fact_Until : Int} {c_Mark : Int} (hc_Fact_Kind : -9223372036854775808 ≤ c_Fact_Kind ∧ c_Fact_Kind ≤ 9223372036854775807) (hc_Fact_Subject : -9223372036854775808 ≤ c_Fact_Subject ∧ c_Fact_Subject ≤ 9223372036854775807) (hc_Fact_Value : -9223372036854775808 ≤ c_Fact_Value ∧ c_Fact_Value ≤ 9223372036854775807) (hc_Fact_Issuer : -9223372036854775808 ≤ c_Fact_Issuer ∧ c_Fact_Issuer ≤ 9223372036854775807) (hc_Fact_At : -9223372036854775808 ≤ c_Fact_At ∧ c_Fact_At ≤ 9223372036854775807) (hc_Fact_Until : -9223372036854775808 ≤ c_Fact_Until ∧ c_Fact_Until ≤ 9223372036854775807) (hc_Mark : -9223372036854775808 ≤ c_Mark ∧ c_Mark ≤ 9223372036854775807) : (StatedD.wf ⟨⟨c_Fact_Kind, c_Fact_Subject, c_Fact_Value, c_Fact_Issuer, c_Fact_At, c_Fact_Until⟩, c_Mark⟩) := ⟨wf_i64 hc_Fact_Kind.1 hc_Fact_Kind.2, wf_i64 hc_Fact_Subject.1 hc_Fact_Subject.2, wf_i64 hc_Fact_Value.1 hc_Fact_Value.2, wf_i64 hc_Fact_Issuer.1 hc_Fact_Issuer.2, wf_i64 hc_Fact_At.1 hc_Fact_At.2, wf_i64 hc_Fact_Until.1 hc_Fact_Until.2, wf_i64 hc_Mark.1 hc_Mark.2⟩
theorem StatedD.of_leaves {H : Type} {enc : TypeId × Go.Value → H} {P : Program} {w : World} {base : Nat} {spare : Nat → Bool} {held : Bool} {ti : TypeId} (hti : P.underlying ti = some (.int .i64)) {vs : List Go.Value} (h : Leaves (Leaf enc P w base spare held) [ti, ti, ti, ti, ti, ti, ti] vs) :
    ∃ x : StatedD, Go.Value.agg vs.toArray = x.val ∧ x.wf := by
  match vs, h with
  | [v0, v1, v2, v3, v4, v5, v6], ⟨h0, h1, h2, h3, h4, h5, h6, _⟩ =>
    obtain ⟨c_Fact_Kind, rfl, w0⟩ := h0.int hti
    obtain ⟨c_Fact_Subject, rfl, w1⟩ := h1.int hti
    obtain ⟨c_Fact_Value, rfl, w2⟩ := h2.int hti
    obtain ⟨c_Fact_Issuer, rfl, w3⟩ := h3.int hti
    obtain ⟨c_Fact_At, rfl, w4⟩ := h4.int hti
    obtain ⟨c_Fact_Until, rfl, w5⟩ := h5.int hti
    obtain ⟨c_Mark, rfl, w6⟩ := h6.int hti
    exact ⟨⟨⟨c_Fact_Kind, c_Fact_Subject, c_Fact_Value, c_Fact_Issuer, c_Fact_At, c_Fact_Until⟩, c_Mark⟩, rfl, ⟨w0, w1, w2, w3, w4, w5, w6⟩⟩
theorem blk_many {f : Nat} {T : TypeId} : ∀ (us : List Value) {w : World} {cs : Array Value} (i : Nat), w.heap[f]? = some (.cells cs T) → (wsetMany w f i us).heap[f]? = some (.cells (setMany cs.toList i us).toArray T)
  | [], w, cs, i, h => by
    show w.heap[f]? = _
    rw [h]
    simp [setMany]
  | u :: us, w, cs, i, h => by
    have h1 := blk_many us (i + 1) (blk_set (i := i) h u)
    rw [Array.toList_setIfInBounds] at h1
    exact h1
theorem blk_far {f g : Nat} {o : Obj} (hg : g ≠ f) : ∀ (us : List Value) {w : World} (i : Nat), w.heap[g]? = some o → (wsetMany w f i us).heap[g]? = some o
  | [], w, i, h => h
  | u :: us, w, i, h => blk_far hg us (i + 1) ((Below.heap_setCell _ _ _ _ hg).trans h)
set_option maxHeartbeats 4000000 in
set_option maxRecDepth 100000 in
theorem to_StatedC (c0 : Int) (c1 : Int) (c2 : Int) (c3 : Int) (c4 : Int) (c5 : Int) (c6 : Int) (w : World) : Calls Tryz.prog 60 #[.agg #[.int .i64 c0, .int .i64 c1, .int .i64 c2, .int .i64 c3, .int .i64 c4, .int .i64 c5, .int .i64 c6]] w fun e w' => e = .returned (StatedD.val ⟨⟨c0, c1, c2, c3, c4, c5⟩, c6⟩) ∧ Below w.heap.size w w' := by
  rw [StatedD.val_mk]
  obtain ⟨W, hW⟩ : ∃ W, W = ((w.alloc (.cells #[.int .i64 c0, .int .i64 c1, .int .i64 c2, .int .i64 c3, .int .i64 c4, .int .i64 c5, .int .i64 c6] 95)).alloc (.cells #[.int .i64 0, .int .i64 0, .int .i64 0, .int .i64 0, .int .i64 0, .int .i64 0, .int .i64 0] 32)).alloc (.cells #[.int .i64 0, .int .i64 0, .int .i64 0, .int .i64 0, .int .i64 0, .int .i64 0, .int .i64 0] 32) := ⟨_, rfl⟩
  have hB : Below w.heap.size w W := by rw [hW]; go_grown
  have hz : W.heap.size = w.heap.size + 1 + 1 + 1 := by rw [hW]; simp
  have hA : W.heap[w.heap.size]? = some (.cells #[.int .i64 c0, .int .i64 c1, .int .i64 c2, .int .i64 c3, .int .i64 c4, .int .i64 c5, .int .i64 c6] 95) := by rw [hW]; exact blk_keep (C := w.heap.size + 1) (blk_new _ _ _) (by go_grown) (by omega)
  have hZ : W.heap[w.heap.size + 1]? = some (.cells #[.int .i64 0, .int .i64 0, .int .i64 0, .int .i64 0, .int .i64 0, .int .i64 0, .int .i64 0] 32) := by rw [hW]; exact blk_keep (C := w.heap.size + 1 + 1) (blk_new_at (w := w.alloc (.cells #[.int .i64 c0, .int .i64 c1, .int .i64 c2, .int .i64 c3, .int .i64 c4, .int .i64 c5, .int .i64 c6] 95)) _ _ (by simp)) (by go_grown) (by omega)
  have hO : W.heap[w.heap.size + 1 + 1]? = some (.cells #[.int .i64 0, .int .i64 0, .int .i64 0, .int .i64 0, .int .i64 0, .int .i64 0, .int .i64 0] 32) := by
    rw [hW]
    exact blk_new_at _ _ (by simp)
  have HA := Lib.hid hA
  have HZ := Lib.hid hZ
  have HO := Lib.hid hO
  obtain ⟨⟨k0, k1, k2, k3, k4, k5, k6⟩, -⟩ := cells7 hA
  clear hA hZ hO
  go_enter Tryz.func60, Tryz.ntmps60
  go_upto_region 2 with fail
  rw [← hW]
  clear hW
  go_wp2_with fail
  refine (to_FactC _ _ _ _ _ _ _).mono ?_
  rintro e u ⟨rfl, b1⟩
  rw [FactD.val_mk]
  clear k0 k1 k2 k3 k4 k5 k6
  have HA1 := Lib.hid (blk_keep HA.out b1 (by omega))
  have HZ1 := Lib.hid (blk_keep HZ.out b1 (by omega))
  have HO1 := Lib.hid (blk_keep HO.out b1 (by omega))
  have d1 := hB.trans (b1.mono hB.size)
  obtain ⟨⟨o0, o1, o2, o3, o4, o5, o6⟩, f0, f1, f2, f3, f4, f5, f6⟩ := cells7 HO1.out
  go_upto_region 3 with fail
  generalize hU : World.setCell _ _ _ = U
  clear o0 o1 o2 o3 o4 o5 o6 f0 f1 f2 f3 f4 f5 f6
  have hO2 : U.heap[w.heap.size + 1 + 1]? = some (.cells #[.int .i64 c0, .int .i64 c1, .int .i64 c2, .int .i64 c3, .int .i64 c4, .int .i64 c5, .int .i64 0] 32) := by
    rw [← hU]
    exact blk_many (f := w.heap.size + 1 + 1) [.int .i64 c0, .int .i64 c1, .int .i64 c2, .int .i64 c3, .int .i64 c4, .int .i64 c5] 0 HO1.out
  have HA2 := Lib.hid (show U.heap[w.heap.size]? = some (.cells #[.int .i64 c0, .int .i64 c1, .int .i64 c2, .int .i64 c3, .int .i64 c4, .int .i64 c5, .int .i64 c6] 95) by
    rw [← hU]
    exact blk_far (f := w.heap.size + 1 + 1) (by omega) [.int .i64 c0, .int .i64 c1, .int .i64 c2, .int .i64 c3, .int .i64 c4, .int .i64 c5] 0 HA1.out)
  have HZ2 := Lib.hid (show U.heap[w.heap.size + 1]? = some (.cells #[.int .i64 0, .int .i64 0, .int .i64 0, .int .i64 0, .int .i64 0, .int .i64 0, .int .i64 0] 32) by
    rw [← hU]
    exact blk_far (f := w.heap.size + 1 + 1) (by omega) [.int .i64 c0, .int .i64 c1, .int .i64 c2, .int .i64 c3, .int .i64 c4, .int .i64 c5] 0 HZ1.out)
  have d2 : Below w.heap.size w U := by
    rw [← hU]
    exact Below.setMany (g := w.heap.size + 1 + 1) (by omega) [.int .i64 c0, .int .i64 c1, .int .i64 c2, .int .i64 c3, .int .i64 c4, .int .i64 c5] 0 d1
  have HO2 := Lib.hid hO2
  clear hU hO2
  obtain ⟨⟨k0, k1, k2, k3, k4, k5, k6⟩, -⟩ := cells7 HA2.out
  obtain ⟨⟨o0, o1, o2, o3, o4, o5, o6⟩, f0, f1, f2, f3, f4, f5, f6⟩ := cells7 HO2.out
  go_upto_region 4 with fail
  generalize hU : World.setCell _ _ _ = V
  clear o0 o1 o2 o3 o4 o5 o6 f0 f1 f2 f3 f4 f5 f6 k0 k1 k2 k3 k4 k5 k6
  have hO3 : V.heap[w.heap.size + 1 + 1]? = some (.cells #[.int .i64 c0, .int .i64 c1, .int .i64 c2, .int .i64 c3, .int .i64 c4, .int .i64 c5, .int .i64 c6] 32) := by
    rw [← hU]
    exact blk_many (f := w.heap.size + 1 + 1) [.int .i64 c6] 6 HO2.out
  have hZ3 : V.heap[w.heap.size + 1]? = some (.cells #[.int .i64 0, .int .i64 0, .int .i64 0, .int .i64 0, .int .i64 0, .int .i64 0, .int .i64 0] 32) := by
    rw [← hU]
    exact blk_far (f := w.heap.size + 1 + 1) (by omega) [.int .i64 c6] 6 HZ2.out
  have d3 : Below w.heap.size w V := by
    rw [← hU]
    exact Below.setMany (g := w.heap.size + 1 + 1) (by omega) [.int .i64 c6] 6 d2
  clear hU
  obtain ⟨⟨o0, o1, o2, o3, o4, o5, o6⟩, -⟩ := cells7 hO3
  obtain ⟨⟨z0, z1, z2, z3, z4, z5, z6⟩, f0, f1, f2, f3, f4, f5, f6⟩ := cells7 hZ3
  clear hO3 hZ3
  go_wp2
  refine bodyPost_ret (v := .agg #[.int .i64 c0, .int .i64 c1, .int .i64 c2, .int .i64 c3, .int .i64 c4, .int .i64 c5, .int .i64 c6]) (by simp [results, Tryz.results60, go_sem, z0, z1, z2, z3, z4, z5, z6]) rfl ⟨rfl, ?_⟩
  exact Below.setMany (g := w.heap.size + 1) (by omega) [.int .i64 c0, .int .i64 c1, .int .i64 c2, .int .i64 c3, .int .i64 c4, .int .i64 c5, .int .i64 c6] 0 d3
theorem to_Stated (x : StatedD) (w : World) : Calls Tryz.prog 60 #[x.val] w fun e w' => e = .returned x.val ∧ Below w.heap.size w w' := by
  obtain ⟨⟨c0, c1, c2, c3, c4, c5⟩, c6⟩ := x
  exact to_StatedC c0 c1 c2 c3 c4 c5 c6 w
end Go.Proofs.YtjfmmingkciapaaGreatDoor
