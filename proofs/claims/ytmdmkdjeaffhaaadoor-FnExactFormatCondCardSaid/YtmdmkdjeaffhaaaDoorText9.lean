/- Text of conditions (chapter 16): contracts of the model: FormatCond, ParseCond. No condition but the bounds of what came in. -/
import Derived.Test.YtmdmkdjeaffhaaaDoorText8
import Derived.Test.YtmdmkdjeaffhaaaDoorCond3
namespace Go.Proofs.YtmdmkdjeaffhaaaDoor
open Go.Lib Go.ChangeShapes Go.WideShapes Go.ChangeAt Go.RowKit
set_option linter.unusedVariables false
set_option linter.unusedSimpArgs false

/-- A condition's text, empty where it is not valid. -/
def textB (x : CondD) : ByteArray := if condB x = true then ⟨(textC x).toArray⟩ else ⟨#[]⟩
theorem bytes_of {B : ByteArray} {L : List UInt8} (h : B.data.toList = L) : B = ⟨L.toArray⟩ := by
  apply ByteArray.ext
  rw [← h]
/-- What a text is parsed as. -/
def parseD (L : List UInt8) : CondD := if okText L = true then (prs 16 L).1 else zeroC
theorem condB_sz {x : CondD} (h : condB x = true) : validC x = true ∧ sizeD x ≤ ((15 : Nat) : Int) := by
  unfold condB at h
  rw [Bool.and_eq_true, decide_eq_true_iff] at h
  exact ⟨h.2, h.1⟩
set_option maxHeartbeats 2000000 in
theorem spec_formatCond (w : World) (hi : Nat) (x0 : CondD) (v0 : List Value) (h0 : rdL w hi (CondD.c x0) v0) (hh : hi ≤ w.heap.size) :
    Calls Tryd.prog 6 #[.agg v0.toArray] w fun e w' => e = .returned (.string (textB x0)) ∧ Below w.heap.size w w' := by
  have CI := Lib.hid (fun (U : World) (hU : Below w.heap.size w U) => spec_isCond U hi x0 v0 (h0.below hU hh) (Nat.le_trans hh hU.size))
  have CT := Lib.hid (fun (hc : condB x0 = true) (U : World) (hU : Below w.heap.size w U) => text_all 15 x0 U hi v0 (condB_sz hc).1 (condB_sz hc).2 (by decide) (h0.below hU hh) (Nat.le_trans hh hU.size))
  have HT := Lib.hid (show ∀ B, textB x0 = B → if condB x0 = true then B = ⟨(textC x0).toArray⟩ else B = ⟨#[]⟩ from fun B hB => by
    unfold textB at hB
    split
    · rename_i h
      rw [if_pos h] at hB
      exact hB.symm
    · rename_i h
      rw [if_neg h] at hB
      exact hB.symm)
  obtain ⟨B, hB⟩ : ∃ B, textB x0 = B := ⟨_, rfl⟩
  have HB := Lib.hid (HT.out B hB)
  rw [hB]
  clear hB HT
  generalize textC x0 = L at HB CT
  obtain ⟨o, a, b, es⟩ := x0
  obtain ⟨A, c, rfl, f1, f2, h3⟩ := cond_in h0
  clear h0 h3
  generalize es.length = n at CI CT f1
  obtain ⟨V, hV⟩ : ∃ V, V = w.alloc (.cells #[.int .i64 o, .int .i64 a, .int .i64 b, .slice A n c] 29) := ⟨_, rfl⟩
  have hV1 : Below w.heap.size w V := by rw [hV]; exact (Below.refl _ _).alloc (Nat.le_refl _) _
  have cV : V.heap[w.heap.size]? = some (.cells #[.int .i64 o, .int .i64 a, .int .i64 b, .slice A n c] 29) := by rw [hV]; exact blk_new _ _ _
  have HC := Lib.hid (show ∀ u, Below V.heap.size V u → _ from fun u (hu : Below V.heap.size V u) => (cls_4 (blk_keep cV hu (blk_lt cV))).1)
  obtain ⟨x0, x1, x2, x3⟩ := (cls_4 cV).1
  have C1 := Lib.hid (CI.out V hV1)
  generalize condB ⟨o, a, b, es⟩ = ok at C1 CT HB
  have HV1 := Lib.hid hV1
  clear cV CI hV1
  cases ok
  · have HE := Lib.hid (show B = ⟨#[]⟩ from by have := HB.out; rwa [if_neg (by decide)] at this)
    go_enter Tryd.func6, Tryd.ntmps6
    go_upto_region 1 with fail
    rw [← hV]
    clear hV
    go_wp2_with (go_at_call 15; refine C1.out.mono ?_; rintro e u ⟨rfl, hu⟩)
    go_ret
    exact ⟨ret_str HE.out.symm, HV1.out.trans (hu.mono HV1.out.size)⟩
  · have HE := Lib.hid (show B = ⟨L.toArray⟩ from by have := HB.out; rwa [if_pos rfl] at this)
    have C2 := Lib.hid (CT.out rfl)
    go_enter Tryd.func6, Tryd.ntmps6
    go_upto_region 1 with fail
    rw [← hV]
    clear hV
    go_wp2_with (first
      | (go_at_call 15; refine C1.out.mono ?_; rintro e u ⟨rfl, hu⟩; obtain ⟨y0, y1, y2, y3⟩ := HC.out u hu; have hwu := HV1.out.trans (hu.mono HV1.out.size))
      | (go_at_call 16; refine (C2.out u hwu).mono ?_; rintro e u2 ⟨BT, rfl, hBT, hb2⟩))
    go_ret
    exact ⟨ret_str ((bytes_of hBT).trans HE.out.symm), hwu.trans (hb2.mono hwu.size)⟩
theorem ok_long {L : List UInt8} (h : 400 < L.length) : okText L = false := by
  unfold okText
  rw [decide_eq_false (by omega)]
  rfl
theorem ok_bad {L : List UInt8} (h : condB (prs 16 L).1 = false) : okText L = false := by
  unfold okText
  rw [h]
  simp
theorem ok_is {L : List UInt8} (hl : L.length ≤ 400) (h : condB (prs 16 L).1 = true) : okText L = (textC (prs 16 L).1 == L) := by
  unfold okText
  rw [h, decide_eq_true hl]
  simp
/-- What a parser answers: a condition of the call's own, and whether there is one. -/
def OwnP (w : World) (L : List UInt8) (e : Ending) (w' : World) : Prop := ∃ us fp, e = .returned (.tuple #[.agg us.toArray, .bool (okText L)]) ∧ owE w' (CondD.c (parseD L)) us fp ∧ fp.Nodup ∧ (∀ k ∈ fp, w.heap.size ≤ k ∧ k < w'.heap.size) ∧ Below w.heap.size w w'
theorem OwnP.no {w w' : World} {L : List UInt8} (h : okText L = false) (hb : Below w.heap.size w w') : OwnP w L (.returned (.tuple #[.agg #[.int .i64 0, .int .i64 0, .int .i64 0, .slice none 0 0], .bool false])) w' :=
  ⟨[.int .i64 0, .int .i64 0, .int .i64 0, .slice none 0 0], [], by rw [h], by unfold parseD; rw [if_neg (by rw [h]; decide)]; exact leaf_own rfl rfl rfl, List.nodup_nil, (fun k hk => by cases hk), hb⟩
theorem OwnP.yes {w w' : World} {L : List UInt8} {us : List Value} {fp : List Nat} (h : okText L = true) (ho : owE w' (CondD.c (prs 16 L).1) us fp) (nd : fp.Nodup) (rg : ∀ k ∈ fp, w.heap.size ≤ k ∧ k < w'.heap.size) (hb : Below w.heap.size w w') : OwnP w L (.returned (.tuple #[.agg us.toArray, .bool true])) w' :=
  ⟨us, fp, by rw [h], by unfold parseD; rw [if_pos h]; exact ho, nd, rg, hb⟩
set_option maxHeartbeats 4000000 in
set_option maxRecDepth 100000 in
theorem spec_parseCond (w : World) (s : ByteArray) :
    Calls Tryd.prog 10 #[.string s] w fun e w' => OwnP w s.data.toList e w' := by
  have hlen : s.data.toList.length = s.size := Array.length_toList
  obtain ⟨W, hW⟩ : ∃ W, W = w.alloc (.cells #[.int .i64 0, .int .i64 0, .int .i64 0, .slice none 0 0] 29) := ⟨_, rfl⟩
  have bW : Below w.heap.size w W := by rw [hW]; exact (Below.refl _ _).alloc (Nat.le_refl _) _
  have cW : W.heap[w.heap.size]? = some (.cells #[.int .i64 0, .int .i64 0, .int .i64 0, .slice none 0 0] 29) := by rw [hW]; exact blk_new _ _ _
  have zW : W.heap.size = w.heap.size + 1 := by rw [hW]; simp
  have HBW := Lib.hid bW
  have HCW := Lib.hid cW
  have ZERO := Lib.hid (show okText s.data.toList = false → ∀ u : World, Below W.heap.size W u → ∃ WF, WF = ((((u.setCell ⟨w.heap.size, 0, none⟩ (.int .i64 0)).setCell ⟨w.heap.size, 1, none⟩ (.int .i64 0)).setCell ⟨w.heap.size, 2, none⟩ (.int .i64 0)).setCell ⟨w.heap.size, 3, none⟩ (.slice none 0 0)) ∧ (WF.cell? ⟨w.heap.size, 0, none⟩ = some (.int .i64 0) ∧ WF.cell? ⟨w.heap.size, 1, none⟩ = some (.int .i64 0) ∧ WF.cell? ⟨w.heap.size, 2, none⟩ = some (.int .i64 0) ∧ WF.cell? ⟨w.heap.size, 3, none⟩ = some (.slice none 0 0)) ∧ OwnP w s.data.toList (.returned (.tuple #[.agg #[.int .i64 0, .int .i64 0, .int .i64 0, .slice none 0 0], .bool false])) WF from fun hz u hu => by
    have hc := blk_keep HCW.out hu (blk_lt HCW.out)
    have ST := stt_4 hc (.int .i64 0) (.int .i64 0) (.int .i64 0) (.slice none 0 0)
    have hd := HBW.out.trans (hu.mono HBW.out.size)
    exact ⟨_, rfl, (cls_4 ST.1).1, OwnP.no hz (hd.trans (ST.2.below (fun k hk => by rw [List.mem_singleton] at hk; omega) hd.size))⟩)
  clear bW cW
  by_cases hl : s.size ≤ 400
  · have hl1 : ¬ (400 : Int) < (s.size : Int) := by omega
    have HL := Lib.hid (show s.data.toList.length ≤ 400 from by omega)
    have HR := Lib.hid (reads_all s hl 16 0 0 W (Nat.zero_le _) rfl)
    rw [List.drop_zero] at HR
    clear hl hlen
    go_enter Tryd.func10, Tryd.ntmps10
    go_upto_region 1 with fail
    rw [← hW]
    clear hW
    go_wp2_with fail
    refine HR.out.mono ?_
    rintro e u1 ⟨v, nx, rfl, us, fp, rfl, ho, nd, rg, -, b1⟩
    obtain ⟨x, hx⟩ : ∃ x, (prs 16 s.data.toList).1 = x := ⟨_, rfl⟩
    have HX := Lib.hid hx
    rw [hx] at ho
    clear hx HR
    have hrd := ho.list (hi := u1.heap.size) fun k hk => (rg k hk).2
    have CI := Lib.hid (fun (U : World) (hU : Below u1.heap.size u1 U) => spec_isCond U u1.heap.size x us (hrd.below hU (Nat.le_refl _)) hU.size)
    have CF := Lib.hid (fun (U : World) (hU : Below u1.heap.size u1 U) => spec_formatCond U u1.heap.size x us (hrd.below hU (Nat.le_refl _)) hU.size)
    have HO := Lib.hid ho
    obtain ⟨o, a, b, es⟩ := x
    obtain ⟨A, c, hus, -, -, -⟩ := cond_in hrd
    generalize es.length = n at hus
    subst hus
    obtain ⟨V, hV⟩ : ∃ V, V = u1.alloc (.cells #[.int .i64 o, .int .i64 a, .int .i64 b, .slice A n c] 29) := ⟨_, rfl⟩
    have bV : Below u1.heap.size u1 V := by rw [hV]; exact (Below.refl _ _).alloc (Nat.le_refl _) _
    have cV : V.heap[u1.heap.size]? = some (.cells #[.int .i64 o, .int .i64 a, .int .i64 b, .slice A n c] 29) := by rw [hV]; exact blk_new _ _ _
    have zV : V.heap.size = u1.heap.size + 1 := by rw [hV]; simp
    have HCV := Lib.hid (show ∀ u, Below V.heap.size V u → _ from fun u (hu : Below V.heap.size V u) => (cls_4 (blk_keep cV hu (blk_lt cV))).1)
    obtain ⟨x0, x1, x2, x3⟩ := (cls_4 cV).1
    have HBV := Lib.hid bV
    have HB1 := Lib.hid b1
    have HRG := Lib.hid rg
    have C1 := Lib.hid (CI.out V bV)
    have hs1 : W.heap.size ≤ u1.heap.size := b1.size
    clear ho rg hrd cV bV b1 CI
    go_upto_region 4 with fail
    rw [← hV]
    clear hV
    cases hc : condB ⟨o, a, b, es⟩
    · rw [hc] at C1
      have HN := Lib.hid (ok_bad (L := s.data.toList) (by rw [HX.out]; exact hc))
      clear hc
      go_upto_region 5 with (go_at_call 15; refine C1.out.mono ?_; rintro e u2 ⟨rfl, h2⟩)
      have hd2 := HB1.out.trans ((HBV.out.trans (h2.mono HBV.out.size)).mono HB1.out.size)
      clear h2
      obtain ⟨WF, hWF, ⟨q0, q1, q2, q3⟩, hO⟩ := ZERO.out HN.out u2 hd2
      have cR := blk_keep HCW.out hd2 (blk_lt HCW.out)
      obtain ⟨⟨w0', w1', w2', w3'⟩, w4', w5', w6', w7'⟩ := cls_4 cR
      clear cR
      go_wp2_with fail
      rw [← hWF]
      exact bodyPost_ret (v := .tuple #[.agg #[.int .i64 0, .int .i64 0, .int .i64 0, .slice none 0 0], .bool false]) (by simp [results, Tryd.results10, go_sem, q0, q1, q2, q3]) rfl hO
    · rw [hc] at C1
      have HTX := Lib.hid (ok_is (L := s.data.toList) HL.out (by rw [HX.out]; exact hc))
      have HTB := Lib.hid (show (textB ⟨o, a, b, es⟩).data.toList = textC (prs 16 s.data.toList).1 from by rw [HX.out]; unfold textB; rw [if_pos hc])
      generalize textB ⟨o, a, b, es⟩ = TB at CF HTB
      have HQ := Lib.hid (show (TB.toList == s.toList) = okText s.data.toList from by rw [ByteArray.toList_eq, ByteArray.toList_eq, HTB.out, HTX.out])
      clear hc
      cases hk : okText s.data.toList
      · have HN := Lib.hid hk
        have hq := HQ.out
        rw [hk] at hq
        clear hk
        go_upto_region 5 with (first
          | (go_at_call 15; refine C1.out.mono ?_; rintro e u3 ⟨rfl, h3⟩; obtain ⟨y0, y1, y2, y3⟩ := HCV.out u3 h3; have h13 := HBV.out.trans (h3.mono HBV.out.size))
          | (go_at_call 6; refine (CF.out u3 h13).mono ?_; rintro e u2 ⟨rfl, h2⟩))
        have hd2 := HB1.out.trans ((h13.trans (h2.mono h13.size)).mono HB1.out.size)
        clear h2 h3 y0 y1 y2 y3
        obtain ⟨WF, hWF, ⟨q0, q1, q2, q3⟩, hO⟩ := ZERO.out HN.out u2 hd2
        have cR := blk_keep HCW.out hd2 (blk_lt HCW.out)
        obtain ⟨⟨w0', w1', w2', w3'⟩, w4', w5', w6', w7'⟩ := cls_4 cR
        clear cR
        go_wp2_with fail
        rw [← hWF]
        exact bodyPost_ret (v := .tuple #[.agg #[.int .i64 0, .int .i64 0, .int .i64 0, .slice none 0 0], .bool false]) (by simp [results, Tryd.results10, go_sem, q0, q1, q2, q3]) rfl hO
      · have HN := Lib.hid hk
        have hq := HQ.out
        rw [hk] at hq
        clear hk
        go_upto_region 6 with (first
          | (go_at_call 15; refine C1.out.mono ?_; rintro e u3 ⟨rfl, h3⟩; obtain ⟨y0, y1, y2, y3⟩ := HCV.out u3 h3; have h13 := HBV.out.trans (h3.mono HBV.out.size))
          | (go_at_call 6; refine (CF.out u3 h13).mono ?_; rintro e u2 ⟨rfl, h2⟩))
        have h12 := HBV.out.trans ((h3.trans (h2.mono h3.size)).mono HBV.out.size)
        obtain ⟨z0, z1, z2, z3⟩ := HCV.out u2 (h3.trans (h2.mono h3.size))
        have hd2 := HB1.out.trans (h12.mono HB1.out.size)
        have hO2 := HO.out.at h12
        have cR := blk_keep HCW.out hd2 (blk_lt HCW.out)
        obtain ⟨⟨w0', w1', w2', w3'⟩, w4', w5', w6', w7'⟩ := cls_4 cR
        have ST := stt_4 cR (.int .i64 o) (.int .i64 a) (.int .i64 b) (.slice A n c)
        obtain ⟨WF, hWF⟩ : ∃ WF, WF = ((((u2.setCell ⟨w.heap.size, 0, none⟩ (.int .i64 o)).setCell ⟨w.heap.size, 1, none⟩ (.int .i64 a)).setCell ⟨w.heap.size, 2, none⟩ (.int .i64 b)).setCell ⟨w.heap.size, 3, none⟩ (.slice A n c)) := ⟨_, rfl⟩
        rw [← hWF] at ST
        have HST := Lib.hid ST
        have HO2 := Lib.hid hO2
        have HD2 := Lib.hid hd2
        have HS12 := Lib.hid h12.size
        clear ST cR hO2 h2 h3 h12 hd2 h13 y0 y1 y2 y3
        go_wp2_with fail
        rw [← hWF]
        obtain ⟨⟨q0, q1, q2, q3⟩, -⟩ := cls_4 HST.out.1
        have tW := HST.out.2
        have hd := HBW.out.trans (HD2.out.mono HBW.out.size)
        have hsW : u2.heap.size ≤ WF.heap.size := tW.size
        have hs12 := HS12.out
        refine bodyPost_ret (v := .tuple #[.agg #[.int .i64 o, .int .i64 a, .int .i64 b, .slice A n c], .bool true]) (by simp [results, Tryd.results10, go_sem, q0, q1, q2, q3]) rfl ?_
        exact OwnP.yes (us := [.int .i64 o, .int .i64 a, .int .i64 b, .slice A n c]) HN.out (by rw [HX.out]; exact HO2.out.keep fun k hk => tW.block k (owE.lt HO2.out k hk) (fun h2 => by have h3 := List.mem_singleton.1 h2; have := (HRG.out k hk).1; omega)) nd (fun k hk => by have := HRG.out k hk; omega) (hd.trans (tW.below (fun k hk => by rw [List.mem_singleton] at hk; omega) hd.size))
  · have hl1 : (400 : Int) < (s.size : Int) := by omega
    obtain ⟨WF, hWF, ⟨q0, q1, q2, q3⟩, hO⟩ := ZERO.out (ok_long (by omega)) W (Below.refl _ _)
    obtain ⟨⟨w0', w1', w2', w3'⟩, w4', w5', w6', w7'⟩ := cls_4 HCW.out
    clear hlen hl
    go_enter Tryd.func10, Tryd.ntmps10
    go_upto_region 1 with fail
    rw [← hW]
    clear hW
    go_wp2_with fail
    rw [← hWF]
    exact bodyPost_ret (v := .tuple #[.agg #[.int .i64 0, .int .i64 0, .int .i64 0, .slice none 0 0], .bool false]) (by simp [results, Tryd.results10, go_sem, q0, q1, q2, q3]) rfl hO
theorem parse_sz (s : ByteArray) : szE (CondD.c (parseD s.data.toList)) ≤ 100000000 := by
  unfold parseD
  split
  · rename_i h
    unfold okText at h
    rw [Bool.and_eq_true, Bool.and_eq_true] at h
    have := (condB_sz h.2.1).2
    unfold sizeD at this
    omega
  · have := leaf_size16 0 0 0
    unfold sizeD at this
    unfold zeroC
    omega
end Go.Proofs.YtmdmkdjeaffhaaaDoor
