/- Text of conditions (chapter 16): contracts of the model: FormatCond, ParseCond. No condition but the bounds of what came in. -/
import Derived.Test.YtmdmkdjeaffhaaaGreatDoorText8
import Derived.Test.YtmdmkdjeaffhaaaGreatDoorCond3
namespace Go.Proofs.YtmdmkdjeaffhaaaGreatDoor
open Go.Lib Go.ChangeShapes Go.WideShapes Go.ChangeAt Go.RowKit
set_option linter.unusedVariables false
set_option linter.unusedSimpArgs false

/-- A condition's text, empty where it is not valid. -/
def textB (x : CondD) : ByteArray := if condB x = true then ⟨(textC x).toArray⟩ else ⟨#[]⟩
theorem bytes_of {B : ByteArray} {L : List UInt8} (h : B.data.toList = L) : B = ⟨L.toArray⟩ := by
  apply ByteArray.ext
  rw [← h]
/-- What a text is parsed as. -/
def parseD (L : List UInt8) : CondD := if okText L = true then (prs 16 L).1 else zeroC
theorem condB_sz {x : CondD} (h : condB x = true) : validC x = true ∧ sizeD x ≤ ((15 : Nat) : Int) := by
  unfold condB at h
  rw [Bool.and_eq_true, decide_eq_true_iff] at h
  exact ⟨h.2, h.1⟩
set_option maxHeartbeats 2000000 in
theorem spec_formatCond (w : World) (hi : Nat) (x0 : CondD) (v0 : List Value) (h0 : rdL w hi (CondD.c x0) v0) (hh : hi ≤ w.heap.size) :
    Calls Tryz.prog 15 #[.agg v0.toArray] w fun e w' => e = .returned (.string (textB x0)) ∧ Below w.heap.size w w' := by
  have CI := Lib.hid (fun (U : World) (hU : Below w.heap.size w U) => spec_isCond U hi x0 v0 (h0.below hU hh) (Nat.le_trans hh hU.size))
  have CT := Lib.hid (fun (hc : condB x0 = true) (U : World) (hU : Below w.heap.size w U) => text_all 15 x0 U hi v0 (condB_sz hc).1 (condB_sz hc).2 (by decide) (h0.below hU hh) (Nat.le_trans hh hU.size))
  have HT := Lib.hid (show ∀ B, textB x0 = B → if condB x0 = true then B = ⟨(textC x0).toArray⟩ else B = ⟨#[]⟩ from fun B hB => by
    unfold textB at hB
    split
    · rename_i h
      rw [if_pos h] at hB
      exact hB.symm
    · rename_i h
      rw [if_neg h] at hB
      exact hB.symm)
  obtain ⟨B, hB⟩ : ∃ B, textB x0 = B := ⟨_, rfl⟩
  have HB := Lib.hid (HT.out B hB)
  rw [hB]
  clear hB HT
  generalize textC x0 = L at HB CT
  obtain ⟨o, a, b, es⟩ := x0
  obtain ⟨A, c, rfl, f1, f2, h3⟩ := cond_in h0
  clear h0 h3
  generalize es.length = n at CI CT f1
  obtain ⟨V, hV⟩ : ∃ V, V = w.alloc (.cells #[.int .i64 o, .int .i64 a, .int .i64 b, .slice A n c] 27) := ⟨_, rfl⟩
  have hV1 : Below w.heap.size w V := by rw [hV]; exact (Below.refl _ _).alloc (Nat.le_refl _) _
  have cV : V.heap[w.heap.size]? = some (.cells #[.int .i64 o, .int .i64 a, .int .i64 b, .slice A n c] 27) := by rw [hV]; exact blk_new _ _ _
  have HC := Lib.hid (show ∀ u, Below V.heap.size V u → _ from fun u (hu : Below V.heap.size V u) => (cls_4 (blk_keep cV hu (blk_lt cV))).1)
  obtain ⟨x0, x1, x2, x3⟩ := (cls_4 cV).1
  have C1 := Lib.hid (CI.out V hV1)
  generalize condB ⟨o, a, b, es⟩ = ok at C1 CT HB
  have HV1 := Lib.hid hV1
  clear cV CI hV1
  cases ok
  · have HE := Lib.hid (show B = ⟨#[]⟩ from by have := HB.out; rwa [if_neg (by decide)] at this)
    go_enter Tryz.func15, Tryz.ntmps15
    go_upto_region 1 with fail
    rw [← hV]
    clear hV
    go_wp2_with (go_at_call 10; refine C1.out.mono ?_; rintro e u ⟨rfl, hu⟩)
    go_ret
    exact ⟨ret_str HE.out.symm, HV1.out.trans (hu.mono HV1.out.size)⟩
  · have HE := Lib.hid (show B = ⟨L.toArray⟩ from by have := HB.out; rwa [if_pos rfl] at this)
    have C2 := Lib.hid (CT.out rfl)
    go_enter Tryz.func15, Tryz.ntmps15
    go_upto_region 1 with fail
    rw [← hV]
    clear hV
    go_wp2_with (first
      | (go_at_call 10; refine C1.out.mono ?_; rintro e u ⟨rfl, hu⟩; obtain ⟨y0, y1, y2, y3⟩ := HC.out u hu; have hwu := HV1.out.trans (hu.mono HV1.out.size))
      | (go_at_call 27; refine (C2.out u hwu).mono ?_; rintro e u2 ⟨BT, rfl, hBT, hb2⟩))
    go_ret
    exact ⟨ret_str ((bytes_of hBT).trans HE.out.symm), hwu.trans (hb2.mono hwu.size)⟩
theorem ok_long {L : List UInt8} (h : 400 < L.length) : okText L = false := by
  unfold okText
  rw [decide_eq_false (by omega)]
  rfl
theorem ok_bad {L : List UInt8} (h : condB (prs 16 L).1 = false) : okText L = false := by
  unfold okText
  rw [h]
  simp
theorem ok_is {L : List UInt8} (hl : L.length ≤ 400) (h : condB (prs 16 L).1 = true) : okText L = (textC (prs 16 L).1 == L) := by
  unfold okText
  rw [h, decide_eq_true hl]
  simp
/-- What a parser answers: a condition of the call's own, and whether there is one. -/
def OwnP (w : World) (L : List UInt8) (e : Ending) (w' : World) : Prop := ∃ us fp, e = .returned (.tuple #[.agg us.toArray, .bool (okText L)]) ∧ owE w' (CondD.c (parseD L)) us fp ∧ fp.Nodup ∧ (∀ k ∈ fp, w.heap.size ≤ k ∧ k < w'.heap.size) ∧ Below w.heap.size w w'
theorem OwnP.no {w w' : World} {L : List UInt8} (h : okText L = false) (hb : Below w.heap.size w w') : OwnP w L (.returned (.tuple #[.agg #[.int .i64 0, .int .i64 0, .int .i64 0, .slice none 0 0], .bool false])) w' :=
  ⟨[.int .i64 0, .int .i64 0, .int .i64 0, .slice none 0 0], [], by rw [h], by unfold parseD; rw [if_neg (by rw [h]; decide)]; exact leaf_own rfl rfl rfl, List.nodup_nil, (fun k hk => by cases hk), hb⟩
theorem OwnP.yes {w w' : World} {L : List UInt8} {us : List Value} {fp : List Nat} (h : okText L = true) (ho : owE w' (CondD.c (prs 16 L).1) us fp) (nd : fp.Nodup) (rg : ∀ k ∈ fp, w.heap.size ≤ k ∧ k < w'.heap.size) (hb : Below w.heap.size w w') : OwnP w L (.returned (.tuple #[.agg us.toArray, .bool true])) w' :=
  ⟨us, fp, by rw [h], by unfold parseD; rw [if_pos h]; exact ho, nd, rg, hb⟩
theorem parse_sz (s : ByteArray) : szE (CondD.c (parseD s.data.toList)) ≤ 100000000 := by
  unfold parseD
  split
  · rename_i h
    unfold okText at h
    rw [Bool.and_eq_true, Bool.and_eq_true] at h
    have := (condB_sz h.2.1).2
    unfold sizeD at this
    omega
  · have := leaf_size16 0 0 0
    unfold sizeD at this
    unfold zeroC
    omega
end Go.Proofs.YtmdmkdjeaffhaaaGreatDoor
