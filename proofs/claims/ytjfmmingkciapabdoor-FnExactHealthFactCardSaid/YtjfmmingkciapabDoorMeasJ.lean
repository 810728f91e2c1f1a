/- Measurements (chapter 12): the landed MakeQuote. Condition: NoKey; else none but the bounds of what came in. -/
import Derived.Test.YtjfmmingkciapabDoorMeas2
import Derived.Test.YtjfmmingkciapabDoorSeal
import Derived.Test.YtjfmmingkciapabDoorMeasI
import Derived.Test.YtjfmmingkciapabDoorCryD
import Derived.Test.YtjfmmingkciapabDoorNamesI
import Derived.Test.YtjfmmingkciapabDoorTimesI
namespace Go.Proofs.YtjfmmingkciapabDoor
open Go.ChangeShapes Go.WideShapes Go.ChangeAt Go.RowKit
set_option linter.unusedVariables false

set_option maxHeartbeats 4000000 in
set_option maxRecDepth 100000 in
theorem impl_makeQuote (key dev nonce t : Int) (w : World) (hi c : Nat) (a : Option Addr) (log : List Int) (h : Row .i64 w hi (.slice a log.length c) log) (hh : hi ≤ w.heap.size) (hn : log.length ≤ 1099511627776) (hkw : (Lit.int .i64 key).wf = true) (hdw : (Lit.int .i64 dev).wf = true) (hnw : (Lit.int .i64 nonce).wf = true) (htw : (Lit.int .i64 t).wf = true) (hK : NoKey w) :
    Calls Tryd.prog 33 #[.int .i64 key, .int .i64 dev, .slice a log.length c, .int .i64 nonce, .int .i64 t] w fun e w' => e = .returned (.tuple #[(makeQ key dev log nonce t).val, .bool (okQuote key dev log t)]) ∧ Below w.heap.size w w' := by
  obtain ⟨W0, hW0⟩ : ∃ W0, W0 = w.alloc (.cells #[.int .i64 0, .int .i64 0, .int .i64 0, .int .i64 0, .int .i64 0] 34) := ⟨_, rfl⟩
  have hb0 : Below w.heap.size w W0 := by rw [hW0]; exact (Below.refl _ _).alloc (Nat.le_refl _) _
  have hk0 : W0.heap[w.heap.size]? = some (.cells #[.int .i64 0, .int .i64 0, .int .i64 0, .int .i64 0, .int .i64 0] 34) := by rw [hW0]; exact blk_new _ _ _
  have hrw := regOf_wf log
  have CL := Lib.hid (fun (W : World) (hW : Below W0.heap.size W0 W) => impl_isLog W hi c a log (h.below (hb0.trans (hW.mono hb0.size)) hh))
  have CR := Lib.hid (fun (W : World) (hW : Below W0.heap.size W0 W) => impl_registerOf W hi c a log (h.below (hb0.trans (hW.mono hb0.size)) hh) (Nat.le_trans hh (hb0.trans (hW.mono hb0.size)).size) hn)
  have CV := Lib.hid (fun (W : World) (hW : Below W0.heap.size W0 W) => show Calls Tryd.prog 49 #[.int .i64 key] W fun e w' => e = .returned (.bool (validKey key)) ∧ Below W.heap.size W w' from impl_valid key W (hK.kept (hb0.trans (hW.mono hb0.size))))
  have CH := Lib.hid (fun W => impl_hasKind dev 2 W)
  have CT := Lib.hid (fun W => impl_isTime t W)
  have hm : makeQ key dev log nonce t = if validKey key && (hasOf dev 2 && (logB log && decide (isT t))) then ⟨dev, regOf log, nonce, t, keyed key [dev, regOf log, nonce, t]⟩ else ⟨0, 0, 0, 0, 0⟩ := rfl
  have hD : ∀ y ∈ [dev, regOf log, nonce, t], (Lit.int .i64 y).wf = true := fun y hy => by
    simp only [List.mem_cons, List.not_mem_nil, or_false] at hy
    rcases hy with rfl | rfl | rfl | rfl
    · exact hdw
    · exact hrw
    · exact hnw
    · exact htw
  have CK := Lib.hid (fun (W : World) (B : Nat) (hB : (W.alloc (.cells #[.int .i64 dev, .int .i64 (regOf log), .int .i64 nonce, .int .i64 t] 3)).cell? ⟨B, 0, none⟩ = some (.int .i64 key)) =>
    impl_sealAt (W.alloc (.cells #[.int .i64 dev, .int .i64 (regOf log), .int .i64 nonce, .int .i64 t] 3)) B (W.heap.size + 1) key _ [dev, regOf log, nonce, t] hkw hB (Own.lit 3 W [dev, regOf log, nonce, t] hD (by show 4 ≤ maxLen; decide)).read (by simp) (by show 4 ≤ _; decide))
  unfold okQuote
  rw [hm]
  generalize keyed key [dev, regOf log, nonce, t] = mk at CK ⊢
  generalize regOf log = r at CR CK ⊢
  generalize logB log = lv at CL ⊢
  generalize hasOf dev 2 = hv at CH ⊢
  generalize validKey key = kv at CV ⊢
  generalize decide (isT t) = tv at CT ⊢
  obtain ⟨R, hR⟩ : ∃ R : Value, Value.tuple #[(if kv && (hv && (lv && tv)) then (⟨dev, r, nonce, t, mk⟩ : QuoteD) else ⟨0, 0, 0, 0, 0⟩).val, .bool (kv && (hv && (lv && tv)))] = R := ⟨_, rfl⟩
  rw [hR]
  have HR := Lib.hid hR
  clear hR hm hD hrw hkw hdw hnw htw h hn hK
  go_enter Tryd.func33, Tryd.ntmps33
  go_upto_region 1 with fail
  rw [← hW0]
  clear hW0
  have hr0 := Below.refl W0.heap.size W0
  go_wp2_with fail
  refine (CV.out _ hr0).mono ?_
  rintro e w1 ⟨rfl, b1⟩
  cases kv
  · skip
    have hkx := blk_keep hk0 b1 (blk_lt hk0)
    obtain ⟨⟨d0, d1, d2, d3, d4⟩, g0, g1, g2, g3, g4⟩ := cls_5 hkx
    obtain ⟨hE, tE⟩ := stt_5 hkx (.int .i64 0) (.int .i64 0) (.int .i64 0) (.int .i64 0) (.int .i64 0)
    have HE := Lib.hid (cls_5 hE).1
    have HB := Lib.hid ((hb0.trans (b1.mono hb0.size)).trans (tE.below (B := w.heap.size) (fun k hk => by rw [List.mem_singleton] at hk; omega) (hb0.trans (b1.mono hb0.size)).size))
    clear hE tE hkx
    go_wp2
    obtain ⟨e0, e1, e2, e3, e4⟩ := HE.out
    have B4 := HB.out
    generalize World.setCell _ _ _ = V at e0 e1 e2 e3 e4 B4 ⊢
    refine bodyPost_ret (v := .tuple #[.agg #[.int .i64 0, .int .i64 0, .int .i64 0, .int .i64 0, .int .i64 0], .bool false]) (by simp [results, Tryd.results33, go_sem, e0, e1, e2, e3, e4]) rfl ?_
    exact ⟨by rw [← HR.out]; rfl, B4⟩
  · go_wp2_with fail
    refine (CH.out _).mono ?_
    rintro e w2 ⟨rfl, b2⟩
    have c2 := b1.trans (b2.mono b1.size)
    cases hv
    · skip
      have hkx := blk_keep hk0 c2 (blk_lt hk0)
      obtain ⟨⟨d0, d1, d2, d3, d4⟩, g0, g1, g2, g3, g4⟩ := cls_5 hkx
      obtain ⟨hE, tE⟩ := stt_5 hkx (.int .i64 0) (.int .i64 0) (.int .i64 0) (.int .i64 0) (.int .i64 0)
      have HE := Lib.hid (cls_5 hE).1
      have HB := Lib.hid ((hb0.trans (c2.mono hb0.size)).trans (tE.below (B := w.heap.size) (fun k hk => by rw [List.mem_singleton] at hk; omega) (hb0.trans (c2.mono hb0.size)).size))
      clear hE tE hkx
      go_wp2
      obtain ⟨e0, e1, e2, e3, e4⟩ := HE.out
      have B4 := HB.out
      generalize World.setCell _ _ _ = V at e0 e1 e2 e3 e4 B4 ⊢
      refine bodyPost_ret (v := .tuple #[.agg #[.int .i64 0, .int .i64 0, .int .i64 0, .int .i64 0, .int .i64 0], .bool false]) (by simp [results, Tryd.results33, go_sem, e0, e1, e2, e3, e4]) rfl ?_
      exact ⟨by rw [← HR.out]; rfl, B4⟩
    · go_wp2_with fail
      refine (CL.out _ c2).mono ?_
      rintro e w3 ⟨rfl, b3⟩
      have c3 := c2.trans (b3.mono c2.size)
      cases lv
      · skip
        have hkx := blk_keep hk0 c3 (blk_lt hk0)
        obtain ⟨⟨d0, d1, d2, d3, d4⟩, g0, g1, g2, g3, g4⟩ := cls_5 hkx
        obtain ⟨hE, tE⟩ := stt_5 hkx (.int .i64 0) (.int .i64 0) (.int .i64 0) (.int .i64 0) (.int .i64 0)
        have HE := Lib.hid (cls_5 hE).1
        have HB := Lib.hid ((hb0.trans (c3.mono hb0.size)).trans (tE.below (B := w.heap.size) (fun k hk => by rw [List.mem_singleton] at hk; omega) (hb0.trans (c3.mono hb0.size)).size))
        clear hE tE hkx
        go_wp2
        obtain ⟨e0, e1, e2, e3, e4⟩ := HE.out
        have B4 := HB.out
        generalize World.setCell _ _ _ = V at e0 e1 e2 e3 e4 B4 ⊢
        refine bodyPost_ret (v := .tuple #[.agg #[.int .i64 0, .int .i64 0, .int .i64 0, .int .i64 0, .int .i64 0], .bool false]) (by simp [results, Tryd.results33, go_sem, e0, e1, e2, e3, e4]) rfl ?_
        exact ⟨by rw [← HR.out]; rfl, B4⟩
      · go_wp2_with fail
        refine (CT.out _).mono ?_
        rintro e w4 ⟨rfl, b4⟩
        have c4 := c3.trans (b4.mono c3.size)
        cases tv
        · skip
          have hkx := blk_keep hk0 c4 (blk_lt hk0)
          obtain ⟨⟨d0, d1, d2, d3, d4⟩, g0, g1, g2, g3, g4⟩ := cls_5 hkx
          obtain ⟨hE, tE⟩ := stt_5 hkx (.int .i64 0) (.int .i64 0) (.int .i64 0) (.int .i64 0) (.int .i64 0)
          have HE := Lib.hid (cls_5 hE).1
          have HB := Lib.hid ((hb0.trans (c4.mono hb0.size)).trans (tE.below (B := w.heap.size) (fun k hk => by rw [List.mem_singleton] at hk; omega) (hb0.trans (c4.mono hb0.size)).size))
          clear hE tE hkx
          go_wp2
          obtain ⟨e0, e1, e2, e3, e4⟩ := HE.out
          have B4 := HB.out
          generalize World.setCell _ _ _ = V at e0 e1 e2 e3 e4 B4 ⊢
          refine bodyPost_ret (v := .tuple #[.agg #[.int .i64 0, .int .i64 0, .int .i64 0, .int .i64 0, .int .i64 0], .bool false]) (by simp [results, Tryd.results33, go_sem, e0, e1, e2, e3, e4]) rfl ?_
          exact ⟨by rw [← HR.out]; rfl, B4⟩
        · go_wp2_with fail
          refine (CR.out _ c4).mono ?_
          rintro e w5 ⟨rfl, b5⟩
          have c5 := c4.trans (b5.mono c4.size)
          obtain ⟨W6, hW6⟩ : ∃ W6, W6 = w5.alloc (.cells #[.int .i64 dev, .int .i64 r, .int .i64 nonce, .int .i64 t, .int .i64 0] 34) := ⟨_, rfl⟩
          have b6 : Below w5.heap.size w5 W6 := by rw [hW6]; exact (Below.refl _ _).alloc (Nat.le_refl _) _
          have hk6 : W6.heap[w5.heap.size]? = some (.cells #[.int .i64 dev, .int .i64 r, .int .i64 nonce, .int .i64 t, .int .i64 0] 34) := by rw [hW6]; exact blk_new _ _ _
          have c6 := c5.trans (b6.mono c5.size)
          have hF0 : W0.heap.size ≤ w5.heap.size := c5.size
          clear b6
          go_upto_region 4 with fail
          rw [← hW6]
          generalize hF : w5.heap.size = F at hk6 hF0 ⊢
          clear hW6 hF
          go_wp2_with fail
          refine (impl_sealUnder _ _).mono ?_
          rintro e W7 ⟨rfl, hW7⟩
          have b7 : Below W6.heap.size W6 W7 := by rw [hW7]; exact (Below.refl _ _).alloc (Nat.le_refl _) _
          have hk7 := blk_keep hk6 b7 (blk_lt hk6)
          have hs7 : W7.heap[W6.heap.size]? = some (.cells #[.int .i64 key] 3) := by rw [hW7]; exact blk_new _ _ _
          have c7 := c6.trans (b7.mono c6.size)
          clear hW7
          generalize W6.heap.size = B at hs7 ⊢
          obtain ⟨⟨p0, p1, p2, p3, p4⟩, -⟩ := cls_5 hk7
          have bA : Below W7.heap.size W7 (W7.alloc (.cells #[.int .i64 dev, .int .i64 r, .int .i64 nonce, .int .i64 t] 3)) := (Below.refl _ _).alloc (Nat.le_refl _) _
          have CQ := CK.out W7 B (blk_cell (blk_keep hs7 bA (blk_lt hs7)) 0 rfl)
          go_wp2_with fail
          refine CQ.mono ?_
          rintro e w8 ⟨rfl, b8⟩
          have b78 := bA.trans (b8.mono bA.size)
          have hk8 := blk_keep hk7 b78 (blk_lt hk7)
          have c8 := c7.trans (b78.mono c7.size)
          obtain ⟨W9, hW9⟩ : ∃ W9, w8.setCell ⟨F, 4, none⟩ (.int .i64 mk) = W9 := ⟨_, rfl⟩
          have hk9 : W9.heap[F]? = some (.cells #[.int .i64 dev, .int .i64 r, .int .i64 nonce, .int .i64 t, .int .i64 mk] 34) := by rw [← hW9]; exact blk_set hk8 _
          have c9 : Below W0.heap.size W0 W9 := by rw [← hW9]; exact c8.setCell (p := ⟨F, 4, none⟩) hF0 _
          obtain ⟨⟨x0, x1, x2, x3, x4⟩, y0, y1, y2, y3, y4⟩ := cls_5 hk8
          clear p0 p1 p2 p3 p4
          go_upto_region 6 with fail
          (try rw [hW9])
          clear hW9 x0 x1 x2 x3 x4 y0 y1 y2 y3 y4
          obtain ⟨⟨x0, x1, x2, x3, x4⟩, -⟩ := cls_5 hk9
          have hkx := blk_keep hk0 c9 (blk_lt hk0)
          obtain ⟨⟨d0, d1, d2, d3, d4⟩, g0, g1, g2, g3, g4⟩ := cls_5 hkx
          obtain ⟨hE, tE⟩ := stt_5 hkx (.int .i64 dev) (.int .i64 r) (.int .i64 nonce) (.int .i64 t) (.int .i64 mk)
          have HE := Lib.hid (cls_5 hE).1
          have HB := Lib.hid ((hb0.trans (c9.mono hb0.size)).trans (tE.below (B := w.heap.size) (fun k hk => by rw [List.mem_singleton] at hk; omega) (hb0.trans (c9.mono hb0.size)).size))
          clear hE tE hkx
          go_wp2
          obtain ⟨e0, e1, e2, e3, e4⟩ := HE.out
          have B4 := HB.out
          generalize World.setCell _ _ _ = V at e0 e1 e2 e3 e4 B4 ⊢
          refine bodyPost_ret (v := .tuple #[.agg #[.int .i64 dev, .int .i64 r, .int .i64 nonce, .int .i64 t, .int .i64 mk], .bool true]) (by simp [results, Tryd.results33, go_sem, e0, e1, e2, e3, e4]) rfl ?_
          exact ⟨by rw [← HR.out]; rfl, B4⟩
end Go.Proofs.YtjfmmingkciapabDoor
