/- Text of conditions (chapter 16): FormatCond as landed. Conditions: the table that the library's Itoa reads lies in the world; the bounds of what came in. -/
import Derived.Test.YtmdmkdjeaffhaaaDoorTok12
import Derived.Test.YtmdmkdjeaffhaaaDoorText9
import Derived.Test.YtmdmkdjeaffhaaaDoorNode7
namespace Go.Proofs.YtmdmkdjeaffhaaaDoor
open Go.Lib Go.ChangeShapes Go.WideShapes Go.ChangeAt Go.RowKit
set_option linter.unusedVariables false
set_option linter.unusedSimpArgs false

set_option maxHeartbeats 2000000 in
theorem implZ_formatCond (w : World) (hi : Nat) (x0 : CondD) (v0 : List Value) (h0 : rdL w hi (CondD.c x0) v0) (hh : hi ≤ w.heap.size) (hs : szE (CondD.c x0) ≤ 100000000) (hT : HasTab w) :
    Calls Tryd.prog 8 #[.agg v0.toArray] w fun e w' => e = .returned (.string (textB x0)) ∧ Below w.heap.size w w' := by
  have CI := Lib.hid (fun (U : World) (hU : Below w.heap.size w U) => implZ_isCond U hi x0 v0 (h0.below hU hh) (Nat.le_trans hh hU.size) hs)
  have CT := Lib.hid (fun (hc : condB x0 = true) (U : World) (hU : Below w.heap.size w U) => textT_all w hT 15 x0 U hi v0 (condB_sz hc).1 (condB_sz hc).2 (by decide) (h0.below hU hh) (Nat.le_trans hh hU.size) hU)
  have HT := Lib.hid (show ∀ B, textB x0 = B → if condB x0 = true then B = ⟨(textC x0).toArray⟩ else B = ⟨#[]⟩ from fun B hB => by
    unfold textB at hB
    split
    · rename_i h
      rw [if_pos h] at hB
      exact hB.symm
    · rename_i h
      rw [if_neg h] at hB
      exact hB.symm)
  obtain ⟨B, hB⟩ : ∃ B, textB x0 = B := ⟨_, rfl⟩
  have HB := Lib.hid (HT.out B hB)
  rw [hB]
  clear hB HT
  generalize textC x0 = L at HB CT
  obtain ⟨o, a, b, es⟩ := x0
  obtain ⟨A, c, rfl, f1, f2, h3⟩ := cond_in h0
  clear h0 h3 hs
  generalize es.length = n at CI CT f1
  obtain ⟨V, hV⟩ : ∃ V, V = w.alloc (.cells #[.int .i64 o, .int .i64 a, .int .i64 b, .slice A n c] 29) := ⟨_, rfl⟩
  have hV1 : Below w.heap.size w V := by rw [hV]; exact (Below.refl _ _).alloc (Nat.le_refl _) _
  have cV : V.heap[w.heap.size]? = some (.cells #[.int .i64 o, .int .i64 a, .int .i64 b, .slice A n c] 29) := by rw [hV]; exact blk_new _ _ _
  have HC := Lib.hid (show ∀ u, Below V.heap.size V u → _ from fun u (hu : Below V.heap.size V u) => (cls_4 (blk_keep cV hu (blk_lt cV))).1)
  obtain ⟨x0, x1, x2, x3⟩ := (cls_4 cV).1
  have C1 := Lib.hid (CI.out V hV1)
  generalize condB ⟨o, a, b, es⟩ = ok at C1 CT HB
  have HV1 := Lib.hid hV1
  clear cV CI hV1
  cases ok
  · have HE := Lib.hid (show B = ⟨#[]⟩ from by have := HB.out; rwa [if_neg (by decide)] at this)
    go_enter Tryd.func8, Tryd.ntmps8
    go_upto_region 1 with fail
    rw [← hV]
    clear hV
    go_wp2_with (go_at_call 18; refine C1.out.mono ?_; rintro e u ⟨rfl, hu⟩)
    go_ret
    exact ⟨ret_str HE.out.symm, HV1.out.trans (hu.mono HV1.out.size)⟩
  · have HE := Lib.hid (show B = ⟨L.toArray⟩ from by have := HB.out; rwa [if_pos rfl] at this)
    have C2 := Lib.hid (CT.out rfl)
    go_enter Tryd.func8, Tryd.ntmps8
    go_upto_region 1 with fail
    rw [← hV]
    clear hV
    go_wp2_with (first
      | (go_at_call 18; refine C1.out.mono ?_; rintro e u ⟨rfl, hu⟩; obtain ⟨y0, y1, y2, y3⟩ := HC.out u hu; have hwu := HV1.out.trans (hu.mono HV1.out.size))
      | (go_at_call 19; refine (C2.out u hwu).mono ?_; rintro e u2 ⟨BT, rfl, hBT, hb2⟩))
    go_ret
    exact ⟨ret_str ((bytes_of hBT).trans HE.out.symm), hwu.trans (hb2.mono hwu.size)⟩
end Go.Proofs.YtmdmkdjeaffhaaaDoor
