/- Text of conditions (chapter 16): one condition, read as landed: a bracket, a word that is none, 'not'. Condition: the reading of shorter texts, by induction. -/
import Derived.Test.YtmdmkdjeaffhaaaDoorTok7
namespace Go.Proofs.YtmdmkdjeaffhaaaDoor
open Go.Lib Go.ChangeShapes Go.WideShapes Go.ChangeAt Go.RowKit
set_option linter.unusedVariables false

theorem rd_open (n : Nat) {s : List UInt8} (h : tokL s = [40]) : rd (n + 1) s = pairT n (restT s) := by rw [rd, if_pos h]; rfl
theorem rd_bad (n : Nat) {s : List UInt8} (h : tokL s ≠ [40]) (ho : opW (tokL s) = none) : rd (n + 1) s = none := by rw [rd, if_neg h, ho]; rfl
theorem rd_not (n : Nat) {s : List UInt8} (h : tokL s ≠ [40]) (ho : opW (tokL s) = some 7) : rd (n + 1) s = (expT [32] (restT s)).bind fun s1 => (rd n s1).bind fun p => some (⟨7, 0, 0, [p.1]⟩, p.2) := by rw [rd, if_neg h, ho, Option.bind_some, if_pos rfl]
theorem rd_leaf (n : Nat) {s : List UInt8} {o : Int} (h : tokL s ≠ [40]) (ho : opW (tokL s) = some o) (h7 : o ≠ 7) : rd (n + 1) s = leafT o (restT s) := by rw [rd, if_neg h, ho, Option.bind_some, if_neg h7]
theorem tch_over {w u v : World} {p g : Nat} (h : Touch [p] w u) (t : Touch [g] u v) (hg : w.heap.size ≤ g) : Touch [p] w v :=
  ⟨t.os.trans h.os, t.tape.trans h.tape, t.output.trans h.output, Nat.le_trans h.size t.size, fun k hk hk2 => by
    rw [t.block k (Nat.lt_of_lt_of_le hk h.size) (fun h2 => by have h3 := List.mem_singleton.1 h2; omega)]
    exact h.block k hk hk2⟩
theorem Rdr.off {u v : World} {p g : Nat} {s : List UInt8} (h : Rdr u p s) (t : Touch [g] u v) (hg : p ≠ g) : Rdr v p s := by
  obtain ⟨B, h1, h2, h3⟩ := h
  exact ⟨B, h1, h2, tch_blk h3 t hg⟩
theorem tok_is {tk : ByteArray} {s l : List UInt8} (h : tk.data.toList = tokL s) : (tk.toList == l) = decide (tokL s = l) := by
  rw [ByteArray.toList_eq, h]
  by_cases e : tokL s = l
  · rw [decide_eq_true e, beq_iff_eq]; exact e
  · rw [decide_eq_false e, beq_eq_false_iff_ne]; exact e
set_option maxHeartbeats 4000000 in
set_option maxRecDepth 100000 in
theorem cond_open (w0 w : World) (n p : Nat) (s : List UInt8) (ih : ReadsT w0 n) (hl : s.length < n + 1) (hb : Below w0.heap.size w0 w) (hp : w0.heap.size ≤ p) (h : Rdr w p s) (ho : tokL s = [40]) :
    Calls Tryd.prog 38 #[.func (Fn.func 48) #[] #[.pointer (some ⟨p, 0, none⟩)]] w fun e w' => Parsed w p (rd (n + 1) s) e w' := by
  rw [rd_open n ho]
  obtain ⟨W, hW⟩ : ∃ W, W = w.alloc (.cells #[.int .i64 0, .int .i64 0, .int .i64 0, .slice none 0 0] 29) := ⟨_, rfl⟩
  have bW : Below w.heap.size w W := by rw [hW]; exact (Below.refl _ _).alloc (Nat.le_refl _) _
  have cW : W.heap[w.heap.size]? = some (.cells #[.int .i64 0, .int .i64 0, .int .i64 0, .slice none 0 0] 29) := by rw [hW]; exact blk_new _ _ _
  have zW : W.heap.size = w.heap.size + 1 := by rw [hW]; simp
  have hpl := h.lt
  have hpne : w.heap.size ≠ p := by omega
  have HN := Lib.hid (impl_next W p s (h.below bW))
  have hn1 : (restT s).length < n := by have := rest_lt (s := s) (by rw [ho]; intro e; cases e); omega
  have HTW := Lib.hid (Touch.of (fp := [p]) bW)
  have HCW := Lib.hid cW
  have HP := Lib.hid (fun (u : World) (t : Touch [p] W u) (hR : Rdr u p (restT s)) => impl_pair w0 u n p (restT s) ih hn1 (tch_base hb hp ((Touch.of (fp := [p]) bW).trans t)) hp hR)
  have HQ := Lib.hid (fun (tk : ByteArray) (h1 : tk.data.toList = tokL s) => (show (tk.toList == [40]) = true from by rw [tok_is h1]; exact decide_eq_true ho))
  generalize pairT n (restT s) = X at HP ⊢
  clear h hb hl cW bW ih ho
  go_enter Tryd.func38, Tryd.ntmps38
  go_upto_region 1 with fail
  rw [← hW]
  clear hW
  go_upto_region 2 with (go_at_call 48; refine HN.out.mono ?_; rintro e u ⟨tk, rfl, htk, hR, t1⟩)
  have hq := HQ.out tk htk.1
  have HT1 := Lib.hid t1
  have HR := Lib.hid hR
  clear hR t1 htk HQ HN
  go_wp2_with fail
  have tWu := HT1.out
  have cU := tch_blk HCW.out tWu hpne
  have hsu : W.heap.size ≤ u.heap.size := tWu.size
  refine (HP.out u tWu HR.out).mono ?_
  clear cU tWu
  rintro e u1 ⟨t1, ⟨y, r1, us, f1, hr1, rfl, ho1, nd1, rg1, hR1⟩ | ⟨hr1, T, v, rfl⟩⟩
  · obtain ⟨o1, a1, b1, e1⟩ := y
    obtain ⟨k1, g1, rfl, hg1, y0, y1, y2, y3⟩ := CondD.ow ho1
    obtain ⟨av, cv, hk1, -, -⟩ := y3.form
    generalize e1.length = m1 at hk1
    subst hk1
    clear hg1 y3
    have cU := tch_blk (tch_blk HCW.out HT1.out hpne) t1 hpne
    have ST := stt_4 cU (.int .i64 o1) (.int .i64 a1) (.int .i64 b1) (.slice av m1 cv)
    obtain ⟨⟨w0', w1', w2', w3'⟩, w4', w5', w6', w7'⟩ := cls_4 cU
    have HST := Lib.hid ST
    have HT := Lib.hid ((HTW.out.trans HT1.out).trans t1)
    have HO1 := Lib.hid ho1
    have HR1 := Lib.hid hR1
    have HRG := Lib.hid rg1
    clear ST cU t1 ho1 hR1 rg1 HP
    go_wp2_with fail
    have HT2 := HST.out
    generalize hWF : ((((u1.setCell ⟨w.heap.size, 0, none⟩ (.int .i64 o1)).setCell ⟨w.heap.size, 1, none⟩ (.int .i64 a1)).setCell ⟨w.heap.size, 2, none⟩ (.int .i64 b1)).setCell ⟨w.heap.size, 3, none⟩ (.slice av m1 cv)) = WF at HT2 ⊢
    obtain ⟨⟨q0, q1, q2, q3⟩, -⟩ := cls_4 HT2.1
    have tW := HT2.2
    refine bodyPost_ret (v := .agg #[.int .i64 o1, .int .i64 a1, .int .i64 b1, .slice av m1 cv]) (by simp [results, Tryd.results38, go_sem, q0, q1, q2, q3]) rfl ?_
    refine Parsed.yes (us := [.int .i64 o1, .int .i64 a1, .int .i64 b1, .slice av m1 cv]) (fp := f1) hr1 (tch_over HT.out tW (Nat.le_refl _)) (HO1.out.keep fun k hk => tW.block k (owE.lt HO1.out k hk) (fun h2 => by have h3 := List.mem_singleton.1 h2; have := (HRG.out k hk).1; omega)) nd1 (fun k hk => by have := HRG.out k hk; have := tW.size; omega) (HR1.out.off tW (by omega))
  · go_wp2
    exact ⟨rfl, Parsed.no hr1 ((HTW.out.trans HT1.out).trans t1) ⟨_, _, rfl⟩⟩
end Go.Proofs.YtmdmkdjeaffhaaaDoor
