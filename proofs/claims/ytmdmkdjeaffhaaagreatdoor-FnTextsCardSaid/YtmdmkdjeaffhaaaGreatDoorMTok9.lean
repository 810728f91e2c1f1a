/- Some texts in one: Tok8, Tok9. -/
import Derived.Test.YtmdmkdjeaffhaaaGreatDoorTok7
/- Text of conditions (chapter 16): one condition, read as landed: a bracket, a word that is none, 'not'. Condition: the reading of shorter texts, by induction. -/
namespace Go.Proofs.YtmdmkdjeaffhaaaGreatDoor
open Go.Lib Go.ChangeShapes Go.WideShapes Go.ChangeAt Go.RowKit
set_option linter.unusedVariables false

theorem rd_open (n : Nat) {s : List UInt8} (h : tokL s = [40]) : rd (n + 1) s = pairT n (restT s) := by rw [rd, if_pos h]; rfl
theorem rd_bad (n : Nat) {s : List UInt8} (h : tokL s ≠ [40]) (ho : opW (tokL s) = none) : rd (n + 1) s = none := by rw [rd, if_neg h, ho]; rfl
theorem rd_not (n : Nat) {s : List UInt8} (h : tokL s ≠ [40]) (ho : opW (tokL s) = some 7) : rd (n + 1) s = (expT [32] (restT s)).bind fun s1 => (rd n s1).bind fun p => some (⟨7, 0, 0, [p.1]⟩, p.2) := by rw [rd, if_neg h, ho, Option.bind_some, if_pos rfl]
theorem rd_leaf (n : Nat) {s : List UInt8} {o : Int} (h : tokL s ≠ [40]) (ho : opW (tokL s) = some o) (h7 : o ≠ 7) : rd (n + 1) s = leafT o (restT s) := by rw [rd, if_neg h, ho, Option.bind_some, if_neg h7]
theorem tch_over {w u v : World} {p g : Nat} (h : Touch [p] w u) (t : Touch [g] u v) (hg : w.heap.size ≤ g) : Touch [p] w v :=
  ⟨t.os.trans h.os, t.tape.trans h.tape, t.output.trans h.output, Nat.le_trans h.size t.size, fun k hk hk2 => by
    rw [t.block k (Nat.lt_of_lt_of_le hk h.size) (fun h2 => by have h3 := List.mem_singleton.1 h2; omega)]
    exact h.block k hk hk2⟩
theorem Rdr.off {u v : World} {p g : Nat} {s : List UInt8} (h : Rdr u p s) (t : Touch [g] u v) (hg : p ≠ g) : Rdr v p s := by
  obtain ⟨B, h1, h2, h3⟩ := h
  exact ⟨B, h1, h2, tch_blk h3 t hg⟩
theorem tok_is {tk : ByteArray} {s l : List UInt8} (h : tk.data.toList = tokL s) : (tk.toList == l) = decide (tokL s = l) := by
  rw [ByteArray.toList_eq, h]
  by_cases e : tokL s = l
  · rw [decide_eq_true e, beq_iff_eq]; exact e
  · rw [decide_eq_false e, beq_eq_false_iff_ne]; exact e
set_option maxHeartbeats 4000000 in
set_option maxRecDepth 100000 in
theorem cond_open (w0 w : World) (n p : Nat) (s : List UInt8) (ih : ReadsT w0 n) (hl : s.length < n + 1) (hb : Below w0.heap.size w0 w) (hp : w0.heap.size ≤ p) (h : Rdr w p s) (ho : tokL s = [40]) :
    Calls Tryz.prog 33 #[.func (Fn.func 50) #[] #[.pointer (some ⟨p, 0, none⟩)]] w fun e w' => Parsed w p (rd (n + 1) s) e w' := by
  rw [rd_open n ho]
  obtain ⟨W, hW⟩ : ∃ W, W = w.alloc (.cells #[.int .i64 0, .int .i64 0, .int .i64 0, .slice none 0 0] 27) := ⟨_, rfl⟩
  have bW : Below w.heap.size w W := by rw [hW]; exact (Below.refl _ _).alloc (Nat.le_refl _) _
  have cW : W.heap[w.heap.size]? = some (.cells #[.int .i64 0, .int .i64 0, .int .i64 0, .slice none 0 0] 27) := by rw [hW]; exact blk_new _ _ _
  have zW : W.heap.size = w.heap.size + 1 := by rw [hW]; simp
  have hpl := h.lt
  have hpne : w.heap.size ≠ p := by omega
  have HN := Lib.hid (impl_next W p s (h.below bW))
  have hn1 : (restT s).length < n := by have := rest_lt (s := s) (by rw [ho]; intro e; cases e); omega
  have HTW := Lib.hid (Touch.of (fp := [p]) bW)
  have HCW := Lib.hid cW
  have HP := Lib.hid (fun (u : World) (t : Touch [p] W u) (hR : Rdr u p (restT s)) => impl_pair w0 u n p (restT s) ih hn1 (tch_base hb hp ((Touch.of (fp := [p]) bW).trans t)) hp hR)
  have HQ := Lib.hid (fun (tk : ByteArray) (h1 : tk.data.toList = tokL s) => (show (tk.toList == [40]) = true from by rw [tok_is h1]; exact decide_eq_true ho))
  generalize pairT n (restT s) = X at HP ⊢
  clear h hb hl cW bW ih ho
  go_enter Tryz.func33, Tryz.ntmps33
  go_upto_region 1 with fail
  rw [← hW]
  clear hW
  go_upto_region 2 with (go_at_call 50; refine HN.out.mono ?_; rintro e u ⟨tk, rfl, htk, hR, t1⟩)
  have hq := HQ.out tk htk.1
  have HT1 := Lib.hid t1
  have HR := Lib.hid hR
  clear hR t1 htk HQ HN
  go_wp2_with fail
  have tWu := HT1.out
  have cU := tch_blk HCW.out tWu hpne
  have hsu : W.heap.size ≤ u.heap.size := tWu.size
  refine (HP.out u tWu HR.out).mono ?_
  clear cU tWu
  rintro e u1 ⟨t1, ⟨y, r1, us, f1, hr1, rfl, ho1, nd1, rg1, hR1⟩ | ⟨hr1, T, v, rfl⟩⟩
  · obtain ⟨o1, a1, b1, e1⟩ := y
    obtain ⟨k1, g1, rfl, hg1, y0, y1, y2, y3⟩ := CondD.ow ho1
    obtain ⟨av, cv, hk1, -, -⟩ := y3.form
    generalize e1.length = m1 at hk1
    subst hk1
    clear hg1 y3
    have cU := tch_blk (tch_blk HCW.out HT1.out hpne) t1 hpne
    have ST := stt_4 cU (.int .i64 o1) (.int .i64 a1) (.int .i64 b1) (.slice av m1 cv)
    obtain ⟨⟨w0', w1', w2', w3'⟩, w4', w5', w6', w7'⟩ := cls_4 cU
    have HST := Lib.hid ST
    have HT := Lib.hid ((HTW.out.trans HT1.out).trans t1)
    have HO1 := Lib.hid ho1
    have HR1 := Lib.hid hR1
    have HRG := Lib.hid rg1
    clear ST cU t1 ho1 hR1 rg1 HP
    go_wp2_with fail
    have HT2 := HST.out
    generalize hWF : ((((u1.setCell ⟨w.heap.size, 0, none⟩ (.int .i64 o1)).setCell ⟨w.heap.size, 1, none⟩ (.int .i64 a1)).setCell ⟨w.heap.size, 2, none⟩ (.int .i64 b1)).setCell ⟨w.heap.size, 3, none⟩ (.slice av m1 cv)) = WF at HT2 ⊢
    obtain ⟨⟨q0, q1, q2, q3⟩, -⟩ := cls_4 HT2.1
    have tW := HT2.2
    refine bodyPost_ret (v := .agg #[.int .i64 o1, .int .i64 a1, .int .i64 b1, .slice av m1 cv]) (by simp [results, Tryz.results33, go_sem, q0, q1, q2, q3]) rfl ?_
    refine Parsed.yes (us := [.int .i64 o1, .int .i64 a1, .int .i64 b1, .slice av m1 cv]) (fp := f1) hr1 (tch_over HT.out tW (Nat.le_refl _)) (HO1.out.keep fun k hk => tW.block k (owE.lt HO1.out k hk) (fun h2 => by have h3 := List.mem_singleton.1 h2; have := (HRG.out k hk).1; omega)) nd1 (fun k hk => by have := HRG.out k hk; have := tW.size; omega) (HR1.out.off tW (by omega))
  · go_wp2
    exact ⟨rfl, Parsed.no hr1 ((HTW.out.trans HT1.out).trans t1) ⟨_, _, rfl⟩⟩
end Go.Proofs.YtmdmkdjeaffhaaaGreatDoor
/- Text of conditions (chapter 16): one condition, read as landed: a word that is none, 'not'. Condition: the reading of shorter texts, by induction. -/
namespace Go.Proofs.YtmdmkdjeaffhaaaGreatDoor
open Go.Lib Go.ChangeShapes Go.WideShapes Go.ChangeAt Go.RowKit
set_option linter.unusedVariables false

set_option maxHeartbeats 4000000 in
set_option maxRecDepth 100000 in
theorem cond_bad (w0 w : World) (n p : Nat) (s : List UInt8) (h : Rdr w p s) (ho : tokL s ≠ [40]) (ho2 : opW (tokL s) = none) :
    Calls Tryz.prog 33 #[.func (Fn.func 50) #[] #[.pointer (some ⟨p, 0, none⟩)]] w fun e w' => Parsed w p (rd (n + 1) s) e w' := by
  rw [rd_bad n ho ho2]
  obtain ⟨W, hW⟩ : ∃ W, W = w.alloc (.cells #[.int .i64 0, .int .i64 0, .int .i64 0, .slice none 0 0] 27) := ⟨_, rfl⟩
  have bW : Below w.heap.size w W := by rw [hW]; exact (Below.refl _ _).alloc (Nat.le_refl _) _
  have HN := Lib.hid (impl_next W p s (h.below bW))
  have HTW := Lib.hid (Touch.of (fp := [p]) bW)
  have HQ := Lib.hid (fun (tk : ByteArray) (h1 : tk.data.toList = tokL s) => (⟨by rw [tok_is h1]; exact decide_eq_false ho, fun U => opNamed_no tk (by rw [h1, ho2]) U⟩ : (tk.toList == [40]) = false ∧ ∀ U, Calls Tryz.prog 53 #[.string tk] U _))
  clear h bW ho ho2
  go_enter Tryz.func33, Tryz.ntmps33
  go_upto_region 1 with fail
  rw [← hW]
  clear hW
  go_upto_region 2 with (go_at_call 50; refine HN.out.mono ?_; rintro e u ⟨tk, rfl, htk, hR, t1⟩)
  obtain ⟨hq, ho⟩ := HQ.out tk htk.1
  have HT1 := Lib.hid t1
  have HO := Lib.hid ho
  clear hR t1 htk HQ HN ho
  go_wp2_with (go_at_call 53; refine (HO.out u).mono ?_; rintro e w' ⟨⟨T, v, rfl⟩, rfl⟩)
  exact ⟨rfl, Parsed.no rfl (HTW.out.trans HT1.out) ⟨_, _, rfl⟩⟩
set_option maxHeartbeats 4000000 in
set_option maxRecDepth 100000 in
theorem cond_not (w0 w : World) (n p : Nat) (s : List UInt8) (ih : ReadsT w0 n) (hl : s.length < n + 1) (hb : Below w0.heap.size w0 w) (hp : w0.heap.size ≤ p) (h : Rdr w p s) (ho : tokL s ≠ [40]) (ho2 : opW (tokL s) = some 7) :
    Calls Tryz.prog 33 #[.func (Fn.func 50) #[] #[.pointer (some ⟨p, 0, none⟩)]] w fun e w' => Parsed w p (rd (n + 1) s) e w' := by
  rw [rd_not n ho ho2]
  obtain ⟨X, hX⟩ : ∃ X, ((expT [32] (restT s)).bind fun s1 => (rd n s1).bind fun p => some ((⟨7, 0, 0, [p.1]⟩ : CondD), p.2)) = X := ⟨_, rfl⟩
  rw [hX]
  obtain ⟨W, hW⟩ : ∃ W, W = w.alloc (.cells #[.int .i64 0, .int .i64 0, .int .i64 0, .slice none 0 0] 27) := ⟨_, rfl⟩
  have bW : Below w.heap.size w W := by rw [hW]; exact (Below.refl _ _).alloc (Nat.le_refl _) _
  have cW : W.heap[w.heap.size]? = some (.cells #[.int .i64 0, .int .i64 0, .int .i64 0, .slice none 0 0] 27) := by rw [hW]; exact blk_new _ _ _
  have zW : W.heap.size = w.heap.size + 1 := by rw [hW]; simp
  have hpl := h.lt
  have hpne : w.heap.size ≠ p := by omega
  have HN := Lib.hid (impl_next W p s (h.below bW))
  have hn1 : (restT s).length < n := by have := rest_lt (s := s) (by intro e; rw [e] at ho2; cases ho2); omega
  have HTW := Lib.hid (Touch.of (fp := [p]) bW)
  have HCW := Lib.hid cW
  have HB0 := Lib.hid hb
  have HQ := Lib.hid (fun (tk : ByteArray) (h1 : tk.data.toList = tokL s) => (⟨by rw [tok_is h1]; exact decide_eq_false ho, fun U => opNamed_yes tk 7 (by rw [h1, ho2]) U⟩ : (tk.toList == [40]) = false ∧ ∀ U, Calls Tryz.prog 53 #[.string tk] U _))
  clear h hb hl cW bW ho ho2
  go_enter Tryz.func33, Tryz.ntmps33
  go_upto_region 1 with fail
  rw [← hW]
  clear hW
  go_upto_region 2 with (go_at_call 50; refine HN.out.mono ?_; rintro e u ⟨tk, rfl, htk, hR, t1⟩)
  obtain ⟨hq, hoN⟩ := HQ.out tk htk.1
  have HO := Lib.hid hoN
  obtain ⟨V, hV⟩ : ∃ V, V = u.alloc (.cells #[.int .i64 7, .int .i64 0, .int .i64 0, .slice none 0 0] 27) := ⟨_, rfl⟩
  have bV : Below u.heap.size u V := by rw [hV]; exact (Below.refl _ _).alloc (Nat.le_refl _) _
  have cV : V.heap[u.heap.size]? = some (.cells #[.int .i64 7, .int .i64 0, .int .i64 0, .slice none 0 0] 27) := by rw [hV]; exact blk_new _ _ _
  have zV : V.heap.size = u.heap.size + 1 := by rw [hV]; simp
  have hsu : W.heap.size ≤ u.heap.size := t1.size
  have HT1 := Lib.hid ((HTW.out.trans t1).trans (Touch.of (fp := [p]) bV))
  have HC0 := Lib.hid (blk_keep (tch_blk HCW.out t1 hpne) bV (by omega))
  have HR := Lib.hid (hR.below bV)
  have HCV := Lib.hid cV
  have x0 := (cls_4 cV).1.1
  clear hR t1 htk HQ HN hoN bV cV HCW HTW
  go_upto_region 5 with (go_at_call 53; refine (HO.out u).mono ?_; rintro e w' ⟨rfl, rfl⟩)
  rw [← hV]
  clear hV
  by_cases ht : tokL (restT s) = [32]
  · rw [exp_yes ht, Option.bind_some] at hX
    have hn2 := rest_le (restT s)
    have HE := Lib.hid (expect_yes V p _ ⟨#[32]⟩ HR.out ht)
    clear ht
    go_wp2_with (go_at_call 34; refine HE.out.mono ?_; rintro e u4 ⟨rfl, hR4, t4⟩)
    have HI2 := Lib.hid (ih u4 p _ (show (restT (restT s)).length < n from by omega) (tch_base HB0.out hp (HT1.out.trans t4)) hp hR4)
    have HT4 := Lib.hid t4
    have hs4 : V.heap.size ≤ u4.heap.size := t4.size
    clear hR4 t4 HE
    go_wp2_with fail
    refine HI2.out.mono ?_
    rintro e u5 ⟨t5, ⟨y, r5, us, f5, hr5, rfl, ho5, nd5, rg5, hR5⟩ | ⟨hr5, T, v, rfl⟩⟩
    · rw [hr5, Option.bind_some] at hX
      dsimp only at hX
      obtain ⟨o1, a1, b1, e1⟩ := y
      obtain ⟨k1, g1, rfl, hg1, y0, y1, y2, y3⟩ := CondD.ow ho5
      obtain ⟨av, cv, hk1, -, -⟩ := y3.form
      generalize e1.length = m1 at hk1
      subst hk1
      clear hg1 y3
      have t45 := HT4.out.trans t5
      have hs5 : u4.heap.size ≤ u5.heap.size := t5.size
      obtain ⟨U5, hU5⟩ : ∃ U5, U5 = u5.alloc (.cells #[.int .i64 o1, .int .i64 a1, .int .i64 b1, .slice av m1 cv] 27) := ⟨_, rfl⟩
      have bU5 : Below u5.heap.size u5 U5 := by rw [hU5]; exact (Below.refl _ _).alloc (Nat.le_refl _) _
      have cU5 : U5.heap[u5.heap.size]? = some (.cells #[.int .i64 o1, .int .i64 a1, .int .i64 b1, .slice av m1 cv] 27) := by rw [hU5]; exact blk_new _ _ _
      have zU5 : U5.heap.size = u5.heap.size + 1 := by rw [hU5]; simp
      have cX := blk_keep (tch_blk HCV.out t45 (by omega)) bU5 (by omega)
      have c0 := blk_keep (tch_blk HC0.out t45 hpne) bU5 (by omega)
      have tU5 := (HT1.out.trans t45).trans (Touch.of (fp := [p]) bU5)
      have rU5 := hR5.below bU5
      have oU5 := ho5.at bU5
      obtain ⟨⟨v0, v1, v2, v3⟩, v4, v5, v6, v7⟩ := cls_4 cX
      obtain ⟨Z, hZ⟩ : ∃ Z, Z = U5.setCell ⟨u.heap.size, 3, none⟩ (.slice (some ⟨u5.heap.size, 0, none⟩) 1 1) := ⟨_, rfl⟩
      have cZ : Z.heap[u.heap.size]? = some (.cells #[.int .i64 7, .int .i64 0, .int .i64 0, .slice (some ⟨u5.heap.size, 0, none⟩) 1 1] 27) := by rw [hZ]; exact blk_set (i := 3) cX _
      have tZ : Touch [u.heap.size] U5 Z := by rw [hZ]; exact Touch.set List.mem_cons_self _ 3 _
      have hsZ : U5.heap.size ≤ Z.heap.size := tZ.size
      have HTZ := Lib.hid (tch_over tU5 tZ (by omega))
      have HRZ := Lib.hid (rU5.off tZ (by omega))
      have HCZ := Lib.hid cZ
      have HGZ := Lib.hid (tch_blk cU5 tZ (by omega))
      have H0Z := Lib.hid (tch_blk c0 tZ (by omega))
      have HRG := Lib.hid rg5
      have HND := Lib.hid nd5
      have HOZ : Hid (owE Z (CondD.c ⟨o1, a1, b1, e1⟩) [.int .i64 o1, .int .i64 a1, .int .i64 b1, .slice av m1 cv] f5) := Lib.hid (oU5.keep fun k hk => tZ.block k (owE.lt oU5 k hk) (fun h2 => by have h3 := List.mem_singleton.1 h2; have := (HRG.out k hk).1; omega))
      have HNB := Lib.hid (impl_numbersOf Z u.heap.size 7 0 0 _ cZ)
      clear cX c0 tU5 rU5 oU5 cZ tZ bU5 cU5 ho5 hR5 rg5 nd5 t5 t45 HI2
      have HZU := Lib.hid zU5
      have HSZ := Lib.hid hsZ
      clear zU5 hsZ
      subst hU5
      go_upto_region 8 with fail
      rw [← hZ]
      clear hZ v0 v1 v2 v3 v4 v5 v6 v7 x0
      go_wp2_with (go_at_call 38; refine HNB.out.mono ?_; rintro e u8 ⟨vs, rfl, hP, bN⟩; obtain ⟨A, cc, rfl⟩ : ∃ A cc, vs = .slice A 0 cc := (by rcases hP.2 with ⟨rfl, _⟩ | ⟨g, cap, cur, rfl, _⟩; exact ⟨_, _, rfl⟩; exact ⟨_, _, rfl⟩); clear hP)
      have cX8 := blk_keep HCZ.out bN (blk_lt HCZ.out)
      have c08 := blk_keep H0Z.out bN (blk_lt H0Z.out)
      obtain ⟨⟨v0, v1, v2, v3⟩, -⟩ := cls_4 cX8
      have ST := stt_4 c08 (.int .i64 7) (.int .i64 0) (.int .i64 0) (.slice (some ⟨u5.heap.size, 0, none⟩) 1 1)
      obtain ⟨⟨w0', w1', w2', w3'⟩, w4', w5', w6', w7'⟩ := cls_4 c08
      have HST := Lib.hid ST
      have HBN := Lib.hid bN
      clear ST cX8 c08 bN
      go_loop [27] (fun j => j = .int .i64 0) (fun _ => 0)
      case atStart => rfl
      case round =>
        subst hrel
        go_wp2_with fail
        have HT2 := HST.out
        have zU5 := HZU.out
        have hsZ := HSZ.out
        have hs8 := HBN.out.size
        generalize hWF : ((((u8.setCell ⟨w.heap.size, 0, none⟩ (.int .i64 7)).setCell ⟨w.heap.size, 1, none⟩ (.int .i64 0)).setCell ⟨w.heap.size, 2, none⟩ (.int .i64 0)).setCell ⟨w.heap.size, 3, none⟩ (.slice (some ⟨u5.heap.size, 0, none⟩) 1 1)) = WF at HT2 ⊢
        obtain ⟨⟨q0, q1, q2, q3⟩, -⟩ := cls_4 HT2.1
        have tW := HT2.2
        have hsW := tW.size
        have hG := tch_blk (blk_keep HGZ.out HBN.out (blk_lt HGZ.out)) tW (by omega)
        have hO8 := HOZ.out.at HBN.out
        have hO : owE WF _ _ f5 := hO8.keep fun k hk => tW.block k (owE.lt hO8 k hk) (fun h2 => by have h3 := List.mem_singleton.1 h2; have := (HRG.out k hk).1; omega)
        refine bodyPost_ret (v := .agg #[.int .i64 7, .int .i64 0, .int .i64 0, .slice (some ⟨u5.heap.size, 0, none⟩) 1 1]) (by simp [results, Tryz.results33, go_sem, q0, q1, q2, q3]) rfl ?_
        refine Parsed.yes (us := [.int .i64 7, .int .i64 0, .int .i64 0, .slice (some ⟨u5.heap.size, 0, none⟩) 1 1]) (fp := u5.heap.size :: f5) hX.symm (tch_over (HTZ.out.trans (Touch.of HBN.out)) tW (Nat.le_refl _)) (CondD.ow_mk rfl rfl rfl (one_own (us := [.int .i64 o1, .int .i64 a1, .int .i64 b1, .slice av m1 cv]) hG hO)) ?_ ?_ ((HRZ.out.below HBN.out).off tW (by omega))
        · exact List.nodup_cons.2 ⟨fun hk => by have := (HRG.out _ hk).2; omega, HND.out⟩
        · intro k hk
          rcases List.mem_cons.1 hk with rfl | hk
          · omega
          · have := HRG.out _ hk; omega
    · rw [hr5] at hX
      go_wp2
      exact ⟨rfl, Parsed.no (by rw [← hX]; rfl) ((HT1.out.trans HT4.out).trans t5) ⟨_, _, rfl⟩⟩
  · rw [exp_no ht] at hX
    have HE := Lib.hid (expect_no V p _ ⟨#[32]⟩ HR.out ht)
    clear ht
    go_wp2_with (go_at_call 34; refine HE.out.mono ?_; rintro e u4 ⟨⟨T, v, rfl⟩, t4⟩)
    exact ⟨rfl, Parsed.no (by rw [← hX]; rfl) (HT1.out.trans t4) ⟨_, _, rfl⟩⟩
end Go.Proofs.YtmdmkdjeaffhaaaGreatDoor
