/- Text of conditions (chapter 16): one condition, read as landed: a leaf's numbers; any condition. Condition: the library's tables and errors lie in the world. -/
import Derived.Test.YtmdmkdjeaffhaaaGreatDoorMTok9
namespace Go.Proofs.YtmdmkdjeaffhaaaGreatDoor
open Go.Lib Go.ChangeShapes Go.WideShapes Go.ChangeAt Go.RowKit
set_option linter.unusedVariables false

/-- The numbers read into these places. -/
def numsT : List Nat → Int → Int → List UInt8 → Option (Int × Int × List UInt8)
  | [], a, b, s => some (a, b, s)
  | q :: ps, a, b, s => (argT true s).bind fun t => if q = 1 then numsT ps t.1 b t.2 else numsT ps a t.1 t.2
theorem leaf_nums (o : Int) (s : List UInt8) : leafT o s = (numsT (numPs o) 0 0 s).bind fun t => some (⟨o, t.1, t.2.1, []⟩, t.2.2) := by
  unfold leafT numPs
  cases hasA o <;> cases hasB o
  · rfl
  · show _ = (((argT true s).bind fun t => numsT [] 0 t.1 t.2)).bind _
    rw [arg_no, Option.bind_some]
    dsimp only
    rw [Option.bind_assoc]
    rfl
  · show _ = (((argT true s).bind fun t => numsT [] t.1 0 t.2)).bind _
    rw [Option.bind_assoc]
    rfl
  · show _ = (((argT true s).bind fun t => (argT true t.2).bind fun t2 => numsT [] t.1 t2.1 t2.2)).bind _
    rw [Option.bind_assoc]
    congr 1
    funext t
    rw [Option.bind_assoc]
    rfl
set_option maxHeartbeats 8000000 in
set_option maxRecDepth 100000 in
theorem cond_leaf (w0 w : World) (n p : Nat) (s : List UInt8) (o : Int) (hK : Tabs w0) (hb : Below w0.heap.size w0 w) (hp : w0.heap.size ≤ p) (h : Rdr w p s) (ho : tokL s ≠ [40]) (ho2 : opW (tokL s) = some o) (h7 : o ≠ 7) :
    Calls Tryz.prog 33 #[.func (Fn.func 50) #[] #[.pointer (some ⟨p, 0, none⟩)]] w fun e w' => Parsed w p (rd (n + 1) s) e w' := by
  rw [rd_leaf n ho ho2 h7, leaf_nums]
  obtain ⟨X, hX⟩ : ∃ X, ((numsT (numPs o) 0 0 (restT s)).bind fun t => some ((⟨o, t.1, t.2.1, []⟩ : CondD), t.2.2)) = X := ⟨_, rfl⟩
  rw [hX]
  have HX := Lib.hid hX
  have hpm := fun q => @numPs_mem o q
  have hpl2 := numPs_len o
  obtain ⟨ps, hps⟩ : ∃ ps, numPs o = ps := ⟨_, rfl⟩
  have HNB := Lib.hid (fun Z B v cZ => impl_numbersOf Z B o 0 0 v cZ)
  rw [hps] at HX hpm hpl2 HNB
  have HPM := Lib.hid hpm
  have hwf : (Lit.int .i64 o).wf = true := opW_wf ho2
  have HWF := Lib.hid hwf
  have hne7 : (o == 7) = false := beq_eq_false_iff_ne.2 h7
  obtain ⟨W, hW⟩ : ∃ W, W = w.alloc (.cells #[.int .i64 0, .int .i64 0, .int .i64 0, .slice none 0 0] 27) := ⟨_, rfl⟩
  have bW : Below w.heap.size w W := by rw [hW]; exact (Below.refl _ _).alloc (Nat.le_refl _) _
  have cW : W.heap[w.heap.size]? = some (.cells #[.int .i64 0, .int .i64 0, .int .i64 0, .slice none 0 0] 27) := by rw [hW]; exact blk_new _ _ _
  have zW : W.heap.size = w.heap.size + 1 := by rw [hW]; simp
  have hpl := h.lt
  have hpne : w.heap.size ≠ p := by omega
  have HN := Lib.hid (impl_next W p s (h.below bW))
  have HTW := Lib.hid (Touch.of (fp := [p]) bW)
  have HCW := Lib.hid cW
  have HKB := Lib.hid (fun (u : World) (t : Touch [p] w u) => tch_base hb hp t)
  have HK := Lib.hid hK
  have HQ := Lib.hid (fun (tk : ByteArray) (h1 : tk.data.toList = tokL s) => (⟨by rw [tok_is h1]; exact decide_eq_false ho, fun U => opNamed_yes tk o (by rw [h1, ho2]) U⟩ : (tk.toList == [40]) = false ∧ ∀ U, Calls Tryz.prog 53 #[.string tk] U _))
  clear h hb cW bW ho ho2 hX hps hpm hwf h7 hK
  go_enter Tryz.func33, Tryz.ntmps33
  go_upto_region 1 with fail
  rw [← hW]
  clear hW
  go_upto_region 2 with (go_at_call 50; refine HN.out.mono ?_; rintro e u ⟨tk, rfl, htk, hR, t1⟩)
  obtain ⟨hq, hoN⟩ := HQ.out tk htk.1
  have HO := Lib.hid hoN
  obtain ⟨V, hV⟩ : ∃ V, V = u.alloc (.cells #[.int .i64 o, .int .i64 0, .int .i64 0, .slice none 0 0] 27) := ⟨_, rfl⟩
  have bV : Below u.heap.size u V := by rw [hV]; exact (Below.refl _ _).alloc (Nat.le_refl _) _
  have cV : V.heap[u.heap.size]? = some (.cells #[.int .i64 o, .int .i64 0, .int .i64 0, .slice none 0 0] 27) := by rw [hV]; exact blk_new _ _ _
  have zV : V.heap.size = u.heap.size + 1 := by rw [hV]; simp
  have hsu : W.heap.size ≤ u.heap.size := t1.size
  have HT1 := Lib.hid ((HTW.out.trans t1).trans (Touch.of (fp := [p]) bV))
  have HC0 := Lib.hid (blk_keep (tch_blk HCW.out t1 hpne) bV (by omega))
  have HR := Lib.hid (hR.below bV)
  have HCV := Lib.hid cV
  have x0 := (cls_4 cV).1.1
  have HNC := Lib.hid (HNB.out V u.heap.size _ cV)
  clear hR t1 htk HQ HN hoN bV cV HCW HTW HNB
  go_upto_region 5 with (go_at_call 53; refine (HO.out u).mono ?_; rintro e w' ⟨rfl, rfl⟩)
  rw [← hV]
  clear hV
  go_wp2_with (go_at_call 38; refine HNC.out.mono ?_; rintro e u8 ⟨vs, rfl, hP, bN⟩; obtain ⟨A, cc, rfl⟩ : ∃ A cc, vs = .slice A ps.length cc := (by rcases hP.2 with ⟨rfl, h0⟩ | ⟨g, cap, cur, rfl, _⟩; rw [h0]; exact ⟨_, _, rfl⟩; exact ⟨_, _, rfl⟩); have HP := Lib.hid hP; clear hP)
  have HBN := Lib.hid bN
  have hsV : V.heap.size ≤ u8.heap.size := bN.size
  clear bN x0 HNC
  go_loopw [27] (fun j wr => ∃ (k : Nat) (a b : Int) (sk : List UInt8), k ≤ ps.length ∧ j = .int .i64 (k : Int) ∧ (0 ≤ a ∧ a ≤ 1000000000000 ∧ 0 ≤ b ∧ b ≤ 1000000000000) ∧ Hid (wr.heap[u.heap.size]? = some (.cells #[.int .i64 o, .int .i64 a, .int .i64 b, .slice none 0 0] 27)) ∧
    Hid (wr.heap[w.heap.size]? = some (.cells #[.int .i64 0, .int .i64 0, .int .i64 0, .slice none 0 0] 27)) ∧ Hid (Ptrs wr V.heap.size u.heap.size (.slice A ps.length cc) ps) ∧ Hid (Rdr wr p sk) ∧ Hid (Touch [p] w wr) ∧ Hid (V.heap.size ≤ wr.heap.size) ∧
    Hid (((numsT (ps.drop k) a b sk).bind fun t => some ((⟨o, t.1, t.2.1, []⟩ : CondD), t.2.2)) = X)) (fun j _ => ps.length - (RowKit.intOf j).toNat)
  case atStart => exact ⟨0, 0, 0, restT s, Nat.zero_le _, rfl, ⟨by decide, by decide, by decide, by decide⟩, Lib.hid (blk_keep HCV.out HBN.out (blk_lt HCV.out)), Lib.hid (blk_keep HC0.out HBN.out (blk_lt HC0.out)), HP, Lib.hid (HR.out.below HBN.out), Lib.hid (HT1.out.trans (Touch.of HBN.out)), Lib.hid HBN.out.size, HX⟩
  case round =>
    obtain ⟨k, a, b, sk, hk, rfl, hbd, HCk, H0k, HPk, HRk, HTk, HZk, HD⟩ := hrel
    by_cases hlt : k < ps.length
    · have hk0 : (0 : Int) ≤ (k : Int) := by omega
      have hk1 : (k : Int) < (ps.length : Int) := by omega
      obtain ⟨q, hq⟩ : ∃ q, ps[k]? = some q := ⟨_, List.getElem?_eq_getElem hlt⟩
      obtain ⟨g, c2, he, hc1, hc2, hcell⟩ := HPk.out.at hq
      injection he with he1 he2 he3
      subst he1
      subst he3
      have hq2 : q = 1 ∨ q = 2 := HPM.out q (List.mem_of_getElem? hq)
      have hdr : ps.drop k = q :: ps.drop (k + 1) := by
        obtain ⟨h1, h2⟩ := List.getElem?_eq_some_iff.1 hq
        rw [List.drop_eq_getElem_cons h1, h2]
      rw [hdr, numsT] at HD
      clear hdr he2 hq
      rcases hq2 with rfl | rfl
      · skip
        · by_cases ht : tokL sk = [32]
          · have HE := Lib.hid (expect_yes wr p sk ⟨#[32]⟩ HRk.out ht)
            cases hnum : numT (restT sk) with
            | none =>
              have hA : argT true sk = none := by unfold argT; rw [if_pos rfl, exp_yes ht, Option.bind_some, hnum]
              have HXN := Lib.hid (show X = none from by rw [← HD.out, hA]; rfl)
              have HNO := Lib.hid (fun (u9 : World) (t9 : Touch [p] wr u9) (hR9 : Rdr u9 p (restT sk)) => number_no w0 u9 p (restT sk) HK.out (HKB.out u9 (HTk.out.trans t9)) hp hR9 hnum)
              clear ht hA hnum
              go_wp2_with (go_at_call 34; refine HE.out.mono ?_; rintro e u9 ⟨rfl, hR9, t9⟩)
              have HT9 := Lib.hid t9
              have HN9 := Lib.hid (HNO.out u9 t9 hR9)
              clear hR9 t9
              go_wp2_with (go_at_call 54; refine HN9.out.mono ?_; rintro e u10 ⟨⟨T, v, rfl⟩, t10⟩)
              exact ⟨rfl, Parsed.no HXN.out ((HTk.out.trans HT9.out).trans t10) ⟨_, _, rfl⟩⟩
            | some nr =>
              obtain ⟨n1, r1⟩ := nr
              have hA : argT true sk = some (n1, r1) := by unfold argT; rw [if_pos rfl, exp_yes ht, Option.bind_some, hnum]
              have hb1 := numT_some hnum
              have HD2 := Lib.hid (show ((numsT (ps.drop (k + 1)) n1 b r1).bind fun t => some ((⟨o, t.1, t.2.1, []⟩ : CondD), t.2.2)) = X from by rw [← HD.out, hA, Option.bind_some]; rfl)
              have HNY := Lib.hid (fun (u9 : World) (t9 : Touch [p] wr u9) (hR9 : Rdr u9 p (restT sk)) => number_yes w0 u9 p (restT sk) r1 n1 HK.out (HKB.out u9 (HTk.out.trans t9)) hp hR9 hnum)
              have HBD := Lib.hid hb1.2
              clear ht hA hnum hb1
              go_wp2_with (go_at_call 34; refine HE.out.mono ?_; rintro e u9 ⟨rfl, hR9, t9⟩)
              have HT9 := Lib.hid t9
              have HN9 := Lib.hid (HNY.out u9 t9 hR9)
              clear hR9 t9
              go_wp2_with fail
              refine HN9.out.mono ?_
              rintro e u10 ⟨rfl, hR10, t10⟩
              have t90 := HT9.out.trans t10
              have cX := tch_blk HCk.out t90 (by omega)
              have HS := Lib.hid (blk_set (i := 1) cX (.int .i64 n1))
              have HTS := Lib.hid (Touch.set (fp := [u.heap.size]) List.mem_cons_self u10 1 (.int .i64 n1))
              have HT10 := Lib.hid t90
              have HR10 := Lib.hid hR10
              obtain ⟨⟨v0, v1, v2, v3⟩, v4, v5, v6, v7⟩ := cls_4 cX
              clear cX hR10 t10 t90 HN9 HT9 HNY HE
              go_wp2_with fail
              have hs10 : wr.heap.size ≤ u10.heap.size := HT10.out.size
              have hsr := HZk.out
              refine ⟨⟨k + 1, n1, b, r1, by omega, by go_num, ⟨HBD.out.1, HBD.out.2, hbd.2.2.1, hbd.2.2.2⟩, HS, Lib.hid (tch_blk (tch_blk H0k.out HT10.out hpne) HTS.out (by omega)), Lib.hid ((HPk.out.keep fun g2 hg2 => ?_)), Lib.hid (HR10.out.off HTS.out (by omega)), Lib.hid (tch_over (HTk.out.trans HT10.out) HTS.out (by omega)), Lib.hid (Nat.le_trans hsr (Nat.le_trans hs10 HTS.out.size)), HD2⟩, by simp only [RowKit.intOf]; omega⟩
              have hg3 := HPk.out.lt g2 hg2
              rw [HTS.out.block g2 (by omega) (fun h2 => by have h3 := List.mem_singleton.1 h2; omega)]
              exact HT10.out.block g2 hg3.2 (fun h2 => by have h3 := List.mem_singleton.1 h2; omega)
          · have HE := Lib.hid (expect_no wr p sk ⟨#[32]⟩ HRk.out ht)
            have hA : argT true sk = none := by unfold argT; rw [if_pos rfl, exp_no ht]; rfl
            have HXN := Lib.hid (show X = none from by rw [← HD.out, hA]; rfl)
            clear ht hA
            go_wp2_with (go_at_call 34; refine HE.out.mono ?_; rintro e u9 ⟨⟨T, v, rfl⟩, t9⟩)
            exact ⟨rfl, Parsed.no HXN.out (HTk.out.trans t9) ⟨_, _, rfl⟩⟩
      · skip
        · by_cases ht : tokL sk = [32]
          · have HE := Lib.hid (expect_yes wr p sk ⟨#[32]⟩ HRk.out ht)
            cases hnum : numT (restT sk) with
            | none =>
              have hA : argT true sk = none := by unfold argT; rw [if_pos rfl, exp_yes ht, Option.bind_some, hnum]
              have HXN := Lib.hid (show X = none from by rw [← HD.out, hA]; rfl)
              have HNO := Lib.hid (fun (u9 : World) (t9 : Touch [p] wr u9) (hR9 : Rdr u9 p (restT sk)) => number_no w0 u9 p (restT sk) HK.out (HKB.out u9 (HTk.out.trans t9)) hp hR9 hnum)
              clear ht hA hnum
              go_wp2_with (go_at_call 34; refine HE.out.mono ?_; rintro e u9 ⟨rfl, hR9, t9⟩)
              have HT9 := Lib.hid t9
              have HN9 := Lib.hid (HNO.out u9 t9 hR9)
              clear hR9 t9
              go_wp2_with (go_at_call 54; refine HN9.out.mono ?_; rintro e u10 ⟨⟨T, v, rfl⟩, t10⟩)
              exact ⟨rfl, Parsed.no HXN.out ((HTk.out.trans HT9.out).trans t10) ⟨_, _, rfl⟩⟩
            | some nr =>
              obtain ⟨n1, r1⟩ := nr
              have hA : argT true sk = some (n1, r1) := by unfold argT; rw [if_pos rfl, exp_yes ht, Option.bind_some, hnum]
              have hb1 := numT_some hnum
              have HD2 := Lib.hid (show ((numsT (ps.drop (k + 1)) a n1 r1).bind fun t => some ((⟨o, t.1, t.2.1, []⟩ : CondD), t.2.2)) = X from by rw [← HD.out, hA, Option.bind_some]; rfl)
              have HNY := Lib.hid (fun (u9 : World) (t9 : Touch [p] wr u9) (hR9 : Rdr u9 p (restT sk)) => number_yes w0 u9 p (restT sk) r1 n1 HK.out (HKB.out u9 (HTk.out.trans t9)) hp hR9 hnum)
              have HBD := Lib.hid hb1.2
              clear ht hA hnum hb1
              go_wp2_with (go_at_call 34; refine HE.out.mono ?_; rintro e u9 ⟨rfl, hR9, t9⟩)
              have HT9 := Lib.hid t9
              have HN9 := Lib.hid (HNY.out u9 t9 hR9)
              clear hR9 t9
              go_wp2_with fail
              refine HN9.out.mono ?_
              rintro e u10 ⟨rfl, hR10, t10⟩
              have t90 := HT9.out.trans t10
              have cX := tch_blk HCk.out t90 (by omega)
              have HS := Lib.hid (blk_set (i := 2) cX (.int .i64 n1))
              have HTS := Lib.hid (Touch.set (fp := [u.heap.size]) List.mem_cons_self u10 2 (.int .i64 n1))
              have HT10 := Lib.hid t90
              have HR10 := Lib.hid hR10
              obtain ⟨⟨v0, v1, v2, v3⟩, v4, v5, v6, v7⟩ := cls_4 cX
              clear cX hR10 t10 t90 HN9 HT9 HNY HE
              go_wp2_with fail
              have hs10 : wr.heap.size ≤ u10.heap.size := HT10.out.size
              have hsr := HZk.out
              refine ⟨⟨k + 1, a, n1, r1, by omega, by go_num, ⟨hbd.1, hbd.2.1, HBD.out.1, HBD.out.2⟩, HS, Lib.hid (tch_blk (tch_blk H0k.out HT10.out hpne) HTS.out (by omega)), Lib.hid ((HPk.out.keep fun g2 hg2 => ?_)), Lib.hid (HR10.out.off HTS.out (by omega)), Lib.hid (tch_over (HTk.out.trans HT10.out) HTS.out (by omega)), Lib.hid (Nat.le_trans hsr (Nat.le_trans hs10 HTS.out.size)), HD2⟩, by simp only [RowKit.intOf]; omega⟩
              have hg3 := HPk.out.lt g2 hg2
              rw [HTS.out.block g2 (by omega) (fun h2 => by have h3 := List.mem_singleton.1 h2; omega)]
              exact HT10.out.block g2 hg3.2 (fun h2 => by have h3 := List.mem_singleton.1 h2; omega)
          · have HE := Lib.hid (expect_no wr p sk ⟨#[32]⟩ HRk.out ht)
            have hA : argT true sk = none := by unfold argT; rw [if_pos rfl, exp_no ht]; rfl
            have HXN := Lib.hid (show X = none from by rw [← HD.out, hA]; rfl)
            clear ht hA
            go_wp2_with (go_at_call 34; refine HE.out.mono ?_; rintro e u9 ⟨⟨T, v, rfl⟩, t9⟩)
            exact ⟨rfl, Parsed.no HXN.out (HTk.out.trans t9) ⟨_, _, rfl⟩⟩
    · obtain rfl : k = ps.length := by omega
      rw [List.drop_length, numsT, Option.bind_some] at HD
      obtain ⟨⟨v0, v1, v2, v3⟩, -⟩ := cls_4 HCk.out
      have ST := stt_4 H0k.out (.int .i64 o) (.int .i64 a) (.int .i64 b) (.slice none 0 0)
      obtain ⟨⟨w0', w1', w2', w3'⟩, w4', w5', w6', w7'⟩ := cls_4 H0k.out
      have HST := Lib.hid ST
      clear ST
      go_wp2_with fail
      have HT2 := HST.out
      generalize hWF : ((((wr.setCell ⟨w.heap.size, 0, none⟩ (.int .i64 o)).setCell ⟨w.heap.size, 1, none⟩ (.int .i64 a)).setCell ⟨w.heap.size, 2, none⟩ (.int .i64 b)).setCell ⟨w.heap.size, 3, none⟩ (.slice none 0 0)) = WF at HT2 ⊢
      obtain ⟨⟨q0, q1, q2, q3⟩, -⟩ := cls_4 HT2.1
      have tW := HT2.2
      refine bodyPost_ret (v := .agg #[.int .i64 o, .int .i64 a, .int .i64 b, .slice none 0 0]) (by simp [results, Tryz.results33, go_sem, q0, q1, q2, q3]) rfl ?_
      exact Parsed.yes (us := [.int .i64 o, .int .i64 a, .int .i64 b, .slice none 0 0]) (fp := []) HD.out.symm (tch_over HTk.out tW (Nat.le_refl _)) (leaf_own HWF.out (wf_i64 (by omega) (by omega)) (wf_i64 (by omega) (by omega))) List.nodup_nil (fun k hk => by cases hk) (HRk.out.off tW (by omega))
/-- Every text is read so. -/
theorem reads_any (w0 : World) (hK : Tabs w0) : ∀ n : Nat, ReadsT w0 n
  | 0 => fun w p s hl _ _ _ => absurd hl (Nat.not_lt_zero _)
  | n + 1 => fun w p s hl hb hp h => by
    by_cases h40 : tokL s = [40]
    · exact cond_open w0 w n p s (reads_any w0 hK n) hl hb hp h h40
    · cases ho : opW (tokL s) with
      | none => exact cond_bad w0 w n p s h h40 ho
      | some o =>
        by_cases h7 : o = 7
        · subst h7
          exact cond_not w0 w n p s (reads_any w0 hK n) hl hb hp h h40 ho
        · exact cond_leaf w0 w n p s o hK hb hp h h40 ho h7
end Go.Proofs.YtmdmkdjeaffhaaaGreatDoor
