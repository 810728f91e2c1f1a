/- Measurements (chapter 12): contracts of the model: quotes. Condition: what is told are integers of their type. -/
import Derived.Test.YtjfmmingkciapabDoorMeas
namespace Go.Proofs.YtjfmmingkciapabDoor
open Go.ChangeShapes Go.WideShapes Go.ChangeAt Go.RowKit
set_option linter.unusedVariables false

def okQuote (key dev : Int) (log : List Int) (t : Int) : Bool := validKey key && (hasOf dev 2 && (logB log && decide (isT t)))
def quoteOf (key dev : Int) (log : List Int) (nonce t : Int) : QuoteD := ⟨dev, regOf log, nonce, t, keyed key [dev, regOf log, nonce, t]⟩
def makeQ (key dev : Int) (log : List Int) (nonce t : Int) : QuoteD := if okQuote key dev log t then quoteOf key dev log nonce t else ⟨0, 0, 0, 0, 0⟩
def checkQ (key : Int) (q : QuoteD) (log : List Int) (nonce now age : Int) : Bool :=
  okQuote key q.Device log q.At && (((regOf log == q.Register) && ((nonce == q.Nonce) && (keyed key [q.Device, regOf log, nonce, q.At] == q.Mark))) && freshOf q.At now age)
set_option maxHeartbeats 4000000 in
set_option maxRecDepth 100000 in
theorem spec_makeQuote (key dev nonce t : Int) (w : World) (hi c : Nat) (a : Option Addr) (log : List Int) (h : Row .i64 w hi (.slice a log.length c) log) (hh : hi ≤ w.heap.size) (hkw : (Lit.int .i64 key).wf = true) (hdw : (Lit.int .i64 dev).wf = true) (hnw : (Lit.int .i64 nonce).wf = true) (htw : (Lit.int .i64 t).wf = true) :
    Calls Tryd.prog 25 #[.int .i64 key, .int .i64 dev, .slice a log.length c, .int .i64 nonce, .int .i64 t] w fun e w' => e = .returned (.tuple #[(makeQ key dev log nonce t).val, .bool (okQuote key dev log t)]) ∧ Below w.heap.size w w' := by
  obtain ⟨W0, hW0⟩ : ∃ W0, W0 = w.alloc (.cells #[.int .i64 0, .int .i64 0, .int .i64 0, .int .i64 0, .int .i64 0] 34) := ⟨_, rfl⟩
  have hb0 : Below w.heap.size w W0 := by rw [hW0]; exact (Below.refl _ _).alloc (Nat.le_refl _) _
  have hk0 : W0.heap[w.heap.size]? = some (.cells #[.int .i64 0, .int .i64 0, .int .i64 0, .int .i64 0, .int .i64 0] 34) := by rw [hW0]; exact blk_new _ _ _
  have hrw := regOf_wf log
  have CL := Lib.hid (fun (W : World) (hW : Below W0.heap.size W0 W) => spec_isLog W hi c a log (h.below (hb0.trans (hW.mono hb0.size)) hh))
  have CR := Lib.hid (fun (W : World) (hW : Below W0.heap.size W0 W) => spec_registerOf W hi c a log (h.below (hb0.trans (hW.mono hb0.size)) hh))
  have CV := Lib.hid (fun W => show Calls Tryd.prog 39 #[.int .i64 key] W fun e w' => e = .returned (.bool (validKey key)) ∧ W = w' from spec_valid key W)
  have CH := Lib.hid (fun W => spec_hasKind dev 2 W)
  have CT := Lib.hid (fun W => spec_isTime t W)
  have hm : makeQ key dev log nonce t = if validKey key && (hasOf dev 2 && (logB log && decide (isT t))) then ⟨dev, regOf log, nonce, t, keyed key [dev, regOf log, nonce, t]⟩ else ⟨0, 0, 0, 0, 0⟩ := rfl
  have CK := Lib.hid (fun (W : World) (hD : ∀ y ∈ [dev, regOf log, nonce, t], (Lit.int .i64 y).wf = true) => show Calls Tryd.prog 42 #[.int .i64 key, .slice (some ⟨W.heap.size, 0, none⟩) 4 4] (W.alloc (.cells #[.int .i64 dev, .int .i64 (regOf log), .int .i64 nonce, .int .i64 t] 3)) _ from
    spec_keyed (W.alloc (.cells #[.int .i64 dev, .int .i64 (regOf log), .int .i64 nonce, .int .i64 t] 3)) (W.heap.size + 1) key _ [dev, regOf log, nonce, t] hkw (Own.lit 3 W [dev, regOf log, nonce, t] hD (by show 4 ≤ maxLen; decide)).read (by simp) (by show 4 ≤ _; decide))
  have hD : ∀ y ∈ [dev, regOf log, nonce, t], (Lit.int .i64 y).wf = true := fun y hy => by
    simp only [List.mem_cons, List.not_mem_nil, or_false] at hy
    rcases hy with rfl | rfl | rfl | rfl
    · exact hdw
    · exact hrw
    · exact hnw
    · exact htw
  have CK := Lib.hid (fun W => CK.out W hD)
  unfold okQuote
  rw [hm]
  generalize keyed key [dev, regOf log, nonce, t] = mk at CK ⊢
  generalize regOf log = r at CR CK ⊢
  generalize logB log = lv at CL ⊢
  generalize hasOf dev 2 = hv at CH ⊢
  generalize validKey key = kv at CV ⊢
  generalize decide (isT t) = tv at CT ⊢
  obtain ⟨R, hR⟩ : ∃ R : Value, Value.tuple #[(if kv && (hv && (lv && tv)) then (⟨dev, r, nonce, t, mk⟩ : QuoteD) else ⟨0, 0, 0, 0, 0⟩).val, .bool (kv && (hv && (lv && tv)))] = R := ⟨_, rfl⟩
  rw [hR]
  have HR := Lib.hid hR
  clear hR hm hD hrw hkw hdw hnw htw h
  go_enter Tryd.func25, Tryd.ntmps25
  go_upto_region 1 with fail
  rw [← hW0]
  clear hW0
  have hr0 := Below.refl W0.heap.size W0
  go_wp2_with fail
  refine (CV.out _).mono ?_
  rintro e u ⟨rfl, hw⟩
  subst hw
  cases kv
  · skip
    have hkx := blk_keep hk0 hr0 (blk_lt hk0)
    obtain ⟨⟨d0, d1, d2, d3, d4⟩, g0, g1, g2, g3, g4⟩ := cls_5 hkx
    obtain ⟨hE, tE⟩ := stt_5 hkx (.int .i64 0) (.int .i64 0) (.int .i64 0) (.int .i64 0) (.int .i64 0)
    have HE := Lib.hid (cls_5 hE).1
    have HB := Lib.hid ((hb0.trans (hr0.mono hb0.size)).trans (tE.below (B := w.heap.size) (fun k hk => by rw [List.mem_singleton] at hk; omega) (hb0.trans (hr0.mono hb0.size)).size))
    clear hE tE hkx
    go_wp2
    obtain ⟨e0, e1, e2, e3, e4⟩ := HE.out
    have B4 := HB.out
    generalize World.setCell _ _ _ = V at e0 e1 e2 e3 e4 B4 ⊢
    refine bodyPost_ret (v := .tuple #[.agg #[.int .i64 0, .int .i64 0, .int .i64 0, .int .i64 0, .int .i64 0], .bool false]) (by simp [results, Tryd.results25, go_sem, e0, e1, e2, e3, e4]) rfl ?_
    exact ⟨by rw [← HR.out]; rfl, B4⟩
  · go_wp2_with fail
    refine (CH.out _).mono ?_
    rintro e u ⟨rfl, hw⟩
    subst hw
    cases hv
    · skip
      have hkx := blk_keep hk0 hr0 (blk_lt hk0)
      obtain ⟨⟨d0, d1, d2, d3, d4⟩, g0, g1, g2, g3, g4⟩ := cls_5 hkx
      obtain ⟨hE, tE⟩ := stt_5 hkx (.int .i64 0) (.int .i64 0) (.int .i64 0) (.int .i64 0) (.int .i64 0)
      have HE := Lib.hid (cls_5 hE).1
      have HB := Lib.hid ((hb0.trans (hr0.mono hb0.size)).trans (tE.below (B := w.heap.size) (fun k hk => by rw [List.mem_singleton] at hk; omega) (hb0.trans (hr0.mono hb0.size)).size))
      clear hE tE hkx
      go_wp2
      obtain ⟨e0, e1, e2, e3, e4⟩ := HE.out
      have B4 := HB.out
      generalize World.setCell _ _ _ = V at e0 e1 e2 e3 e4 B4 ⊢
      refine bodyPost_ret (v := .tuple #[.agg #[.int .i64 0, .int .i64 0, .int .i64 0, .int .i64 0, .int .i64 0], .bool false]) (by simp [results, Tryd.results25, go_sem, e0, e1, e2, e3, e4]) rfl ?_
      exact ⟨by rw [← HR.out]; rfl, B4⟩
    · go_wp2_with fail
      refine (CL.out _ hr0).mono ?_
      rintro e w1 ⟨rfl, b1⟩
      cases lv
      · skip
        have hkx := blk_keep hk0 b1 (blk_lt hk0)
        obtain ⟨⟨d0, d1, d2, d3, d4⟩, g0, g1, g2, g3, g4⟩ := cls_5 hkx
        obtain ⟨hE, tE⟩ := stt_5 hkx (.int .i64 0) (.int .i64 0) (.int .i64 0) (.int .i64 0) (.int .i64 0)
        have HE := Lib.hid (cls_5 hE).1
        have HB := Lib.hid ((hb0.trans (b1.mono hb0.size)).trans (tE.below (B := w.heap.size) (fun k hk => by rw [List.mem_singleton] at hk; omega) (hb0.trans (b1.mono hb0.size)).size))
        clear hE tE hkx
        go_wp2
        obtain ⟨e0, e1, e2, e3, e4⟩ := HE.out
        have B4 := HB.out
        generalize World.setCell _ _ _ = V at e0 e1 e2 e3 e4 B4 ⊢
        refine bodyPost_ret (v := .tuple #[.agg #[.int .i64 0, .int .i64 0, .int .i64 0, .int .i64 0, .int .i64 0], .bool false]) (by simp [results, Tryd.results25, go_sem, e0, e1, e2, e3, e4]) rfl ?_
        exact ⟨by rw [← HR.out]; rfl, B4⟩
      · go_wp2_with fail
        refine (CT.out _).mono ?_
        rintro e u ⟨rfl, hw⟩
        subst hw
        cases tv
        · skip
          have hkx := blk_keep hk0 b1 (blk_lt hk0)
          obtain ⟨⟨d0, d1, d2, d3, d4⟩, g0, g1, g2, g3, g4⟩ := cls_5 hkx
          obtain ⟨hE, tE⟩ := stt_5 hkx (.int .i64 0) (.int .i64 0) (.int .i64 0) (.int .i64 0) (.int .i64 0)
          have HE := Lib.hid (cls_5 hE).1
          have HB := Lib.hid ((hb0.trans (b1.mono hb0.size)).trans (tE.below (B := w.heap.size) (fun k hk => by rw [List.mem_singleton] at hk; omega) (hb0.trans (b1.mono hb0.size)).size))
          clear hE tE hkx
          go_wp2
          obtain ⟨e0, e1, e2, e3, e4⟩ := HE.out
          have B4 := HB.out
          generalize World.setCell _ _ _ = V at e0 e1 e2 e3 e4 B4 ⊢
          refine bodyPost_ret (v := .tuple #[.agg #[.int .i64 0, .int .i64 0, .int .i64 0, .int .i64 0, .int .i64 0], .bool false]) (by simp [results, Tryd.results25, go_sem, e0, e1, e2, e3, e4]) rfl ?_
          exact ⟨by rw [← HR.out]; rfl, B4⟩
        · go_wp2_with fail
          refine (CR.out _ b1).mono ?_
          rintro e w2 ⟨rfl, b2⟩
          have b12 := b1.trans (b2.mono b1.size)
          obtain ⟨W3, hW3⟩ : ∃ W3, W3 = w2.alloc (.cells #[.int .i64 dev, .int .i64 r, .int .i64 nonce, .int .i64 t, .int .i64 0] 34) := ⟨_, rfl⟩
          have b3 : Below w2.heap.size w2 W3 := by rw [hW3]; exact (Below.refl _ _).alloc (Nat.le_refl _) _
          have hk3 : W3.heap[w2.heap.size]? = some (.cells #[.int .i64 dev, .int .i64 r, .int .i64 nonce, .int .i64 t, .int .i64 0] 34) := by rw [hW3]; exact blk_new _ _ _
          have b13 := b12.trans (b3.mono b12.size)
          have hF0 : W0.heap.size ≤ w2.heap.size := b12.size
          clear b3
          go_upto_region 4 with fail
          rw [← hW3]
          generalize hF : w2.heap.size = F at hk3 hF0 ⊢
          clear hW3 hF
          obtain ⟨⟨p0, p1, p2, p3, p4⟩, -⟩ := cls_5 hk3
          go_wp2_with fail
          refine (CK.out _).mono ?_
          rintro e w4 ⟨rfl, b4⟩
          have bA : Below W3.heap.size W3 (W3.alloc (.cells #[.int .i64 dev, .int .i64 r, .int .i64 nonce, .int .i64 t] 3)) := (Below.refl _ _).alloc (Nat.le_refl _) _
          have b34 := bA.trans (b4.mono bA.size)
          have hk4 := blk_keep hk3 b34 (blk_lt hk3)
          have b14 := b13.trans (b34.mono b13.size)
          obtain ⟨W5, hW5⟩ : ∃ W5, w4.setCell ⟨F, 4, none⟩ (.int .i64 mk) = W5 := ⟨_, rfl⟩
          have hk5 : W5.heap[F]? = some (.cells #[.int .i64 dev, .int .i64 r, .int .i64 nonce, .int .i64 t, .int .i64 mk] 34) := by rw [← hW5]; exact blk_set hk4 _
          have b15 : Below W0.heap.size W0 W5 := by rw [← hW5]; exact b14.setCell (p := ⟨F, 4, none⟩) hF0 _
          obtain ⟨⟨x0, x1, x2, x3, x4⟩, y0, y1, y2, y3, y4⟩ := cls_5 hk4
          clear p0 p1 p2 p3 p4
          go_upto_region 5 with fail
          (try rw [hW5])
          clear hW5 x0 x1 x2 x3 x4 y0 y1 y2 y3 y4
          obtain ⟨⟨x0, x1, x2, x3, x4⟩, -⟩ := cls_5 hk5
          have hkx := blk_keep hk0 b15 (blk_lt hk0)
          obtain ⟨⟨d0, d1, d2, d3, d4⟩, g0, g1, g2, g3, g4⟩ := cls_5 hkx
          obtain ⟨hE, tE⟩ := stt_5 hkx (.int .i64 dev) (.int .i64 r) (.int .i64 nonce) (.int .i64 t) (.int .i64 mk)
          have HE := Lib.hid (cls_5 hE).1
          have HB := Lib.hid ((hb0.trans (b15.mono hb0.size)).trans (tE.below (B := w.heap.size) (fun k hk => by rw [List.mem_singleton] at hk; omega) (hb0.trans (b15.mono hb0.size)).size))
          clear hE tE hkx
          go_wp2
          obtain ⟨e0, e1, e2, e3, e4⟩ := HE.out
          have B4 := HB.out
          generalize World.setCell _ _ _ = V at e0 e1 e2 e3 e4 B4 ⊢
          refine bodyPost_ret (v := .tuple #[.agg #[.int .i64 dev, .int .i64 r, .int .i64 nonce, .int .i64 t, .int .i64 mk], .bool true]) (by simp [results, Tryd.results25, go_sem, e0, e1, e2, e3, e4]) rfl ?_
          exact ⟨by rw [← HR.out]; rfl, B4⟩
end Go.Proofs.YtjfmmingkciapabDoor
