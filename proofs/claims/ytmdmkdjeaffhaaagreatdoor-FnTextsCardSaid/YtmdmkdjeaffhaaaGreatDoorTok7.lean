/- Text of conditions (chapter 16): two conditions in brackets, read as landed. Condition: the reading of one condition, by induction. -/
import Derived.Test.YtmdmkdjeaffhaaaGreatDoorMTok6
namespace Go.Proofs.YtmdmkdjeaffhaaaGreatDoor
open Go.Lib Go.ChangeShapes Go.WideShapes Go.ChangeAt Go.RowKit
set_option linter.unusedVariables false

/-- What stands behind an opening bracket. -/
def pairT (n : Nat) (s : List UInt8) : Option (CondD × List UInt8) :=
  (rd n s).bind fun p => (expT [32] p.2).bind fun s1 => (opW (tokL s1)).bind fun o => (expT [32] (restT s1)).bind fun s2 =>
    (rd n s2).bind fun q => (expT [41] q.2).bind fun s3 => some (⟨o, 0, 0, [p.1, q.1]⟩, s3)
theorem exp_no {t s : List UInt8} (h : tokL s ≠ t) : expT t s = none := by unfold expT; rw [if_neg h]
theorem exp_yes {t s : List UInt8} (h : tokL s = t) : expT t s = some (restT s) := by unfold expT; rw [if_pos h]
theorem rest_lt {s : List UInt8} (h : tokL s ≠ []) : (restT s).length < s.length := by
  have e := congrArg List.length (tok_rest s)
  rw [List.length_append] at e
  have : 0 < (tokL s).length := List.length_pos_iff.2 h
  omega
theorem rest_le (s : List UInt8) : (restT s).length ≤ s.length := by
  have e := congrArg List.length (tok_rest s)
  rw [List.length_append] at e
  omega
theorem opW_wf {l : List UInt8} {o : Int} (h : opW l = some o) : (Lit.int .i64 o).wf = true := by
  have := (opW_some h).2
  exact wf_i64 (by omega) (by omega)
/-- How one condition is read. -/
def ReadsT (w0 : World) (n : Nat) : Prop := ∀ (w : World) (p : Nat) (s : List UInt8), s.length < n → Below w0.heap.size w0 w → w0.heap.size ≤ p → Rdr w p s →
  Calls Tryz.prog 33 #[.func (Fn.func 50) #[] #[.pointer (some ⟨p, 0, none⟩)]] w fun e w' => Parsed w p (rd n s) e w'
set_option maxHeartbeats 4000000 in
set_option maxRecDepth 100000 in
theorem impl_pair (w0 w : World) (n p : Nat) (s : List UInt8) (ih : ReadsT w0 n) (hl : s.length < n) (hb : Below w0.heap.size w0 w) (hp : w0.heap.size ≤ p) (h : Rdr w p s) :
    Calls Tryz.prog 52 #[.func (Fn.func 50) #[] #[.pointer (some ⟨p, 0, none⟩)]] w fun e w' => Parsed w p (pairT n s) e w' := by
  obtain ⟨X, hX⟩ : ∃ X, pairT n s = X := ⟨_, rfl⟩
  rw [hX]
  have HX := Lib.hid hX
  unfold pairT at hX
  obtain ⟨W, hW⟩ : ∃ W, W = w.alloc (.cells #[.int .i64 0, .int .i64 0, .int .i64 0, .slice none 0 0] 27) := ⟨_, rfl⟩
  have bW : Below w.heap.size w W := by rw [hW]; exact (Below.refl _ _).alloc (Nat.le_refl _) _
  have cW : W.heap[w.heap.size]? = some (.cells #[.int .i64 0, .int .i64 0, .int .i64 0, .slice none 0 0] 27) := by rw [hW]; exact blk_new _ _ _
  have zW : W.heap.size = w.heap.size + 1 := by rw [hW]; simp
  have hpl := h.lt
  have hpne : w.heap.size ≠ p := by omega
  have HI := Lib.hid (ih W p s hl (hb.trans (bW.mono hb.size)) hp (h.below bW))
  have HTW := Lib.hid (Touch.of (fp := [p]) bW)
  have HCW := Lib.hid cW
  have HBW := Lib.hid (hb.trans (bW.mono hb.size))
  have HLN := Lib.hid hl
  have HB0 := Lib.hid hb
  have HPL := Lib.hid hpl
  clear h hb hl cW bW
  go_enter Tryz.func52, Tryz.ntmps52
  go_upto_region 1 with fail
  rw [← hW]
  clear hW
  go_wp2_with fail
  refine HI.out.mono ?_
  rintro e u1 ⟨t1, ⟨y, r1, us, f1, hr1, rfl, ho1, nd1, rg1, hR1⟩ | ⟨hr1, T, v, rfl⟩⟩
  · have hsz1 := rd_size n hr1
    rw [hr1, Option.bind_some] at hX
    dsimp only at hX
    obtain ⟨o1, a1, b1, e1⟩ := y
    obtain ⟨k1, g1, rfl, hg1, y0, y1, y2, y3⟩ := CondD.ow ho1
    obtain ⟨av, cv, hk1, -, -⟩ := y3.form
    generalize e1.length = m1 at hk1
    subst hk1
    clear hg1 y3
    obtain ⟨U1, hU1⟩ : ∃ U1, U1 = u1.alloc (.cells #[.int .i64 o1, .int .i64 a1, .int .i64 b1, .slice av m1 cv] 27) := ⟨_, rfl⟩
    have bU1 : Below u1.heap.size u1 U1 := by rw [hU1]; exact (Below.refl _ _).alloc (Nat.le_refl _) _
    have cU1 : U1.heap[u1.heap.size]? = some (.cells #[.int .i64 o1, .int .i64 a1, .int .i64 b1, .slice av m1 cv] 27) := by rw [hU1]; exact blk_new _ _ _
    have zU1 : U1.heap.size = u1.heap.size + 1 := by rw [hU1]; simp
    have s1 : W.heap.size ≤ u1.heap.size := t1.size
    have tU1 := (HTW.out.trans t1).trans (Touch.of bU1)
    have c0 := blk_keep (tch_blk HCW.out t1 hpne) bU1 (by omega)
    have o1' := ho1.at bU1
    have HK1 := Lib.hid (show ∀ U : World, Touch [p] U1 U → U.heap[w.heap.size]? = some (.cells #[.int .i64 0, .int .i64 0, .int .i64 0, .slice none 0 0] 27) ∧ U.heap[u1.heap.size]? = some (.cells #[.int .i64 o1, .int .i64 a1, .int .i64 b1, .slice av m1 cv] 27) ∧ owE U (CondD.c ⟨o1, a1, b1, e1⟩) [.int .i64 o1, .int .i64 a1, .int .i64 b1, .slice av m1 cv] f1 from fun U hU =>
      ⟨tch_blk c0 hU hpne, tch_blk cU1 hU (by omega), tch_own (lo := W.heap.size) o1' hU (by omega) (fun k hk => ⟨(rg1 k hk).1, by have := (rg1 k hk).2; omega⟩)⟩)
    have HT1 := Lib.hid tU1
    have R1 := Lib.hid (hR1.below bU1)
    have HRG1 := Lib.hid rg1
    have HND1 := Lib.hid nd1
    clear bU1 cU1 tU1 c0 o1' hR1 rg1 nd1 ho1 t1 HI
    go_upto_region 2 with fail
    rw [← hU1]
    clear hU1
    by_cases ht1 : tokL r1 = [32]
    · rw [exp_yes ht1, Option.bind_some] at hX
      have hn1 : (restT r1).length < r1.length := rest_lt (by rw [ht1]; intro e; cases e)
      have HE := Lib.hid (expect_yes U1 p r1 ⟨#[32]⟩ R1.out ht1)
      go_upto_region 3 with (go_at_call 34; refine HE.out.mono ?_; rintro e u2 ⟨rfl, hR2, t2⟩)
      have HT2 := Lib.hid t2
      have R2 := Lib.hid hR2
      clear hR2 HE
      go_wp2_with fail
      refine (impl_next u2 p (restT r1) R2.out).mono ?_
      rintro e u3 ⟨tk, rfl, htk, hR3, t3⟩
      have HT3 := Lib.hid (t2.trans t3)
      have R3 := Lib.hid hR3
      obtain ⟨htk, -⟩ := htk
      clear hR3 t2 t3
      cases ho : opW (tokL (restT r1)) with
      | none =>
        rw [ho] at hX
        have HO := Lib.hid (opNamed_no tk (by rw [htk, ho]) u3)
        go_wp2_with (go_at_call 53; refine HO.out.mono ?_; rintro e w' ⟨⟨T, v, rfl⟩, rfl⟩)
        exact ⟨rfl, Parsed.no (by rw [← hX]; rfl) (HT1.out.trans HT3.out) ⟨_, _, rfl⟩⟩
      | some o =>
        rw [ho, Option.bind_some] at hX
        have HO := Lib.hid (opNamed_yes tk o (by rw [htk, ho]) u3)
        have HWF := Lib.hid (opW_wf ho)
        clear ho htk
        go_upto_region 4 with (go_at_call 53; refine HO.out.mono ?_; rintro e w' ⟨rfl, rfl⟩)
        by_cases ht3 : tokL (restT (restT r1)) = [32]
        · rw [exp_yes ht3, Option.bind_some] at hX
          have hn2 := rest_le (restT r1)
          have hn3 := rest_le (restT (restT r1))
          have HE := Lib.hid (expect_yes u3 p _ ⟨#[32]⟩ R3.out ht3)
          clear ht1 ht3
          go_upto_region 5 with (go_at_call 34; refine HE.out.mono ?_; rintro e u4 ⟨rfl, hR4, t4⟩)
          have HT4 := Lib.hid (HT3.out.trans t4)
          have R4 := Lib.hid hR4
          have hs4 : U1.heap.size ≤ u4.heap.size := HT4.out.size
          have HI2 := Lib.hid (ih u4 p _ (show (restT (restT (restT r1))).length < n from by have := HLN.out; have := sizeD_pos ⟨o1, a1, b1, e1⟩; omega) (tch_base HB0.out hp (HT1.out.trans HT4.out)) hp R4.out)
          clear hR4 t4 HE
          go_wp2_with fail
          refine HI2.out.mono ?_
          rintro e u5 ⟨t5, ⟨z, r5, vs, f5, hr5, rfl, ho5, nd5, rg5, hR5⟩ | ⟨hr5, T, v, rfl⟩⟩
          · rw [hr5, Option.bind_some] at hX
            dsimp only at hX
            obtain ⟨o2, a2, b2, e2⟩ := z
            obtain ⟨k2, g2, rfl, hg2, x0, x1, x2, x3⟩ := CondD.ow ho5
            obtain ⟨aw, cw, hk2, -, -⟩ := x3.form
            generalize e2.length = m2 at hk2
            subst hk2
            clear hg2 x3
            have t45 := HT4.out.trans t5
            have hs5 : u4.heap.size ≤ u5.heap.size := t5.size
            obtain ⟨U5, hU5⟩ : ∃ U5, U5 = u5.alloc (.cells #[.int .i64 o2, .int .i64 a2, .int .i64 b2, .slice aw m2 cw] 27) := ⟨_, rfl⟩
            have bU5 : Below u5.heap.size u5 U5 := by rw [hU5]; exact (Below.refl _ _).alloc (Nat.le_refl _) _
            have cU5 : U5.heap[u5.heap.size]? = some (.cells #[.int .i64 o2, .int .i64 a2, .int .i64 b2, .slice aw m2 cw] 27) := by rw [hU5]; exact blk_new _ _ _
            have zU5 : U5.heap.size = u5.heap.size + 1 := by rw [hU5]; simp
            have HT5 := Lib.hid (t45.trans (Touch.of (fp := [p]) bU5))
            have o5' := ho5.at bU5
            have HK5 := Lib.hid (show ∀ U : World, Touch [p] U5 U → U.heap[u5.heap.size]? = some (.cells #[.int .i64 o2, .int .i64 a2, .int .i64 b2, .slice aw m2 cw] 27) ∧ owE U (CondD.c ⟨o2, a2, b2, e2⟩) [.int .i64 o2, .int .i64 a2, .int .i64 b2, .slice aw m2 cw] f5 from fun U hU =>
              ⟨tch_blk cU5 hU (by omega), tch_own (lo := u4.heap.size) o5' hU (by omega) (fun k hk => ⟨(rg5 k hk).1, by have := (rg5 k hk).2; omega⟩)⟩)
            have R5 := Lib.hid (hR5.below bU5)
            have HRG5 := Lib.hid rg5
            have HND5 := Lib.hid nd5
            clear bU5 cU5 o5' hR5 rg5 nd5 ho5 t5 t45 HI2
            go_upto_region 6 with fail
            rw [← hU5]
            clear hU5
            by_cases ht5 : tokL r5 = [41]
            · rw [exp_yes ht5, Option.bind_some] at hX
              have HE := Lib.hid (expect_yes U5 p r5 ⟨#[41]⟩ R5.out ht5)
              clear ht5
              go_upto_region 7 with (go_at_call 34; refine HE.out.mono ?_; rintro e u6 ⟨rfl, hR6, t6⟩)
              obtain ⟨q5, q6⟩ := HK5.out u6 t6
              obtain ⟨q0, q1, q2⟩ := HK1.out u6 (HT5.out.trans t6)
              obtain ⟨⟨v0, v1, v2, v3⟩, -⟩ := cls_4 q1
              obtain ⟨⟨v4, v5, v6, v7⟩, -⟩ := cls_4 q5
              have hs6 : U5.heap.size ≤ u6.heap.size := t6.size
              obtain ⟨U6, hU6⟩ : ∃ U6, U6 = u6.alloc (.cells #[.int .i64 o1, .int .i64 a1, .int .i64 b1, .slice av m1 cv, .int .i64 o2, .int .i64 a2, .int .i64 b2, .slice aw m2 cw] 27) := ⟨_, rfl⟩
              have bU6 : Below u6.heap.size u6 U6 := by rw [hU6]; exact (Below.refl _ _).alloc (Nat.le_refl _) _
              have cU6 : U6.heap[u6.heap.size]? = some (.cells #[.int .i64 o1, .int .i64 a1, .int .i64 b1, .slice av m1 cv, .int .i64 o2, .int .i64 a2, .int .i64 b2, .slice aw m2 cw] 27) := by rw [hU6]; exact blk_new _ _ _
              have zU6 : U6.heap.size = u6.heap.size + 1 := by rw [hU6]; simp
              have q0' := blk_keep q0 bU6 (by omega)
              have ST := stt_4 q0' (.int .i64 o) (.int .i64 0) (.int .i64 0) (.slice (some ⟨u6.heap.size, 0, none⟩) 2 2)
              obtain ⟨⟨w0', w1', w2', w3'⟩, w4', w5', w6', w7'⟩ := cls_4 q0'
              have HST := Lib.hid ST
              have HQ1 := Lib.hid (q2.at bU6)
              have HQ5 := Lib.hid (q6.at bU6)
              have HR6 := Lib.hid (hR6.below bU6)
              have HT6 := Lib.hid (((HT1.out.trans HT5.out).trans t6).trans (Touch.of (fp := [p]) bU6))
              have HC6 := Lib.hid cU6
              clear ST q0' q5 q6 q0 q1 q2 bU6 cU6 hR6 t6
              have HZ6 := Lib.hid zU6
              clear zU6
              subst hU6
              go_wp2_with fail
              have HT2 := HST.out
              have zU6 := HZ6.out
              generalize hWF : (((((u6.alloc (.cells #[.int .i64 o1, .int .i64 a1, .int .i64 b1, .slice av m1 cv, .int .i64 o2, .int .i64 a2, .int .i64 b2, .slice aw m2 cw] 27)).setCell ⟨w.heap.size, 0, none⟩ (.int .i64 o)).setCell ⟨w.heap.size, 1, none⟩ (.int .i64 0)).setCell ⟨w.heap.size, 2, none⟩ (.int .i64 0)).setCell ⟨w.heap.size, 3, none⟩ (.slice (some ⟨u6.heap.size, 0, none⟩) 2 2)) = WF at HT2 ⊢
              obtain ⟨⟨q0, q1, q2, q3⟩, -⟩ := cls_4 HT2.1
              have tW := HT2.2
              have h8 := tch_blk HC6.out tW (by omega)
              have hO1 : owE WF _ _ f1 := HQ1.out.keep fun k hk => tW.block k (owE.lt HQ1.out k hk) (fun h2 => by have h3 := List.mem_singleton.1 h2; have := (HRG1.out k hk).1; omega)
              have hO5 : owE WF _ _ f5 := HQ5.out.keep fun k hk => tW.block k (owE.lt HQ5.out k hk) (fun h2 => by have h3 := List.mem_singleton.1 h2; have := (HRG5.out k hk).1; omega)
              have hRF : Rdr WF p (restT r5) := by
                obtain ⟨BB, g1, g2, g3⟩ := HR6.out
                exact ⟨BB, g1, g2, tch_blk g3 tW (by omega)⟩
              have hsW : (u6.heap.size + 1) ≤ WF.heap.size := by have := tW.size; omega
              have hTF : Touch [p] w WF := ⟨tW.os.trans HT6.out.os, tW.tape.trans HT6.out.tape, tW.output.trans HT6.out.output, Nat.le_trans HT6.out.size tW.size, fun k hk hk2 => by
                rw [tW.block k (Nat.lt_of_lt_of_le hk HT6.out.size) (fun h2 => by have h3 := List.mem_singleton.1 h2; omega)]
                exact HT6.out.block k hk hk2⟩
              refine bodyPost_ret (v := .agg #[.int .i64 o, .int .i64 0, .int .i64 0, .slice (some ⟨u6.heap.size, 0, none⟩) 2 2]) (by simp [results, Tryz.results52, go_sem, q0, q1, q2, q3]) rfl ?_
              refine Parsed.yes (us := [.int .i64 o, .int .i64 0, .int .i64 0, .slice (some ⟨u6.heap.size, 0, none⟩) 2 2]) (fp := u6.heap.size :: (f1 ++ f5)) hX.symm hTF (CondD.ow_mk HWF.out rfl rfl (two_own (us := [.int .i64 o1, .int .i64 a1, .int .i64 b1, .slice av m1 cv]) (vs := [.int .i64 o2, .int .i64 a2, .int .i64 b2, .slice aw m2 cw]) h8 hO1 hO5)) ?_ ?_ hRF
              · refine List.nodup_cons.2 ⟨fun hk => ?_, List.nodup_append.2 ⟨HND1.out, HND5.out, fun x hx y hy e => ?_⟩⟩
                · rcases List.mem_append.1 hk with hk | hk
                  · have := (HRG1.out _ hk).2; omega
                  · have := (HRG5.out _ hk).2; omega
                · have h1 := (HRG1.out x hx).2
                  have h2 := (HRG5.out y hy).1
                  omega
              · intro k hk
                rcases List.mem_cons.1 hk with rfl | hk
                · omega
                · rcases List.mem_append.1 hk with hk | hk
                  · have := HRG1.out _ hk; omega
                  · have := HRG5.out _ hk; omega
            · rw [exp_no ht5] at hX
              have HE := Lib.hid (expect_no U5 p r5 ⟨#[41]⟩ R5.out ht5)
              clear ht5
              go_wp2_with (go_at_call 34; refine HE.out.mono ?_; rintro e u6 ⟨⟨T, v, rfl⟩, t6⟩)
              exact ⟨rfl, Parsed.no (by rw [← hX]; rfl) ((HT1.out.trans HT5.out).trans t6) ⟨_, _, rfl⟩⟩
          · rw [hr5] at hX
            go_wp2
            exact ⟨rfl, Parsed.no (by rw [← hX]; rfl) ((HT1.out.trans HT4.out).trans t5) ⟨_, _, rfl⟩⟩
        · rw [exp_no ht3] at hX
          have HE := Lib.hid (expect_no u3 p _ ⟨#[32]⟩ R3.out ht3)
          clear ht1 ht3
          go_wp2_with (go_at_call 34; refine HE.out.mono ?_; rintro e u4 ⟨⟨T, v, rfl⟩, t4⟩)
          exact ⟨rfl, Parsed.no (by rw [← hX]; rfl) ((HT1.out.trans HT3.out).trans t4) ⟨_, _, rfl⟩⟩
    · rw [exp_no ht1] at hX
      have HE := Lib.hid (expect_no U1 p _ ⟨#[32]⟩ R1.out ht1)
      clear ht1
      go_wp2_with (go_at_call 34; refine HE.out.mono ?_; rintro e u4 ⟨⟨T, v, rfl⟩, t4⟩)
      exact ⟨rfl, Parsed.no (by rw [← hX]; rfl) (HT1.out.trans t4) ⟨_, _, rfl⟩⟩
  · go_wp2
    exact ⟨rfl, Parsed.no (by rw [← hX, hr1]; rfl) (HTW.out.trans t1) ⟨_, _, rfl⟩⟩
end Go.Proofs.YtmdmkdjeaffhaaaGreatDoor
