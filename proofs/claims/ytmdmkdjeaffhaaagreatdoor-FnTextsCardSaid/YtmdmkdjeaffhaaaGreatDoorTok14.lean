/- Text of conditions (chapter 16): ParseCond as landed. Condition: the library's tables and errors lie in the world. -/
import Derived.Test.YtmdmkdjeaffhaaaGreatDoorTok11
import Derived.Test.YtmdmkdjeaffhaaaGreatDoorText9
import Derived.Test.YtmdmkdjeaffhaaaGreatDoorNode7
namespace Go.Proofs.YtmdmkdjeaffhaaaGreatDoor
open Go.Lib Go.ChangeShapes Go.WideShapes Go.ChangeAt Go.RowKit
set_option linter.unusedVariables false
set_option linter.unusedSimpArgs false

set_option maxHeartbeats 4000000 in
set_option maxRecDepth 100000 in
theorem implZ_parseCond (w : World) (s : ByteArray) (hK : Tabs w) :
    Calls Tryz.prog 6 #[.string s] w fun e w' => OwnP w s.data.toList e w' := by
  have hlen : s.data.toList.length = s.size := Array.length_toList
  obtain ⟨W, hW⟩ : ∃ W, W = w.alloc (.cells #[.int .i64 0, .int .i64 0, .int .i64 0, .slice none 0 0] 27) := ⟨_, rfl⟩
  have bW : Below w.heap.size w W := by rw [hW]; exact (Below.refl _ _).alloc (Nat.le_refl _) _
  have cW : W.heap[w.heap.size]? = some (.cells #[.int .i64 0, .int .i64 0, .int .i64 0, .slice none 0 0] 27) := by rw [hW]; exact blk_new _ _ _
  have zW : W.heap.size = w.heap.size + 1 := by rw [hW]; simp
  have HBW := Lib.hid bW
  have HCW := Lib.hid cW
  have ZERO := Lib.hid (show okText s.data.toList = false → ∀ u : World, Below W.heap.size W u → ∃ WF, WF = ((((u.setCell ⟨w.heap.size, 0, none⟩ (.int .i64 0)).setCell ⟨w.heap.size, 1, none⟩ (.int .i64 0)).setCell ⟨w.heap.size, 2, none⟩ (.int .i64 0)).setCell ⟨w.heap.size, 3, none⟩ (.slice none 0 0)) ∧ (WF.cell? ⟨w.heap.size, 0, none⟩ = some (.int .i64 0) ∧ WF.cell? ⟨w.heap.size, 1, none⟩ = some (.int .i64 0) ∧ WF.cell? ⟨w.heap.size, 2, none⟩ = some (.int .i64 0) ∧ WF.cell? ⟨w.heap.size, 3, none⟩ = some (.slice none 0 0)) ∧ OwnP w s.data.toList (.returned (.tuple #[.agg #[.int .i64 0, .int .i64 0, .int .i64 0, .slice none 0 0], .bool false])) WF from fun hz u hu => by
    have hc := blk_keep HCW.out hu (blk_lt HCW.out)
    have ST := stt_4 hc (.int .i64 0) (.int .i64 0) (.int .i64 0) (.slice none 0 0)
    have hd := HBW.out.trans (hu.mono HBW.out.size)
    exact ⟨_, rfl, (cls_4 ST.1).1, OwnP.no hz (hd.trans (ST.2.below (fun k hk => by rw [List.mem_singleton] at hk; omega) hd.size))⟩)
  have bW2 := bW
  clear bW cW
  by_cases hl : s.size ≤ 400
  · have hl1 : ¬ (400 : Int) < (s.size : Int) := by omega
    have HL := Lib.hid (show s.data.toList.length ≤ 400 from by omega)
    have HR := Lib.hid (impl_readText W s hl (hK.kept bW2))
    have HOK := Lib.hid (land_ok (s := s.data.toList) HL.out)
    have HLS := Lib.hid (show szE (CondD.c (landR s.data.toList)) ≤ 100000000 from by have h1 := land_size s.data.toList; have h2 := HL.out; unfold sizeD at h1; omega)
    clear hl hlen hK
    go_enter Tryz.func6, Tryz.ntmps6
    go_upto_region 1 with fail
    rw [← hW]
    clear hW
    go_wp2_with fail
    refine HR.out.mono ?_
    rintro e u1 ⟨us, fp, rfl, ho, nd, rg, b1⟩
    obtain ⟨x, hx⟩ : ∃ x, landR s.data.toList = x := ⟨_, rfl⟩
    rw [hx] at ho HOK HLS
    clear hx HR bW2
    have hrd := ho.list (hi := u1.heap.size) fun k hk => (rg k hk).2
    have CI := Lib.hid (fun (U : World) (hU : Below u1.heap.size u1 U) => implZ_isCond U u1.heap.size x us (hrd.below hU (Nat.le_refl _)) hU.size HLS.out)
    have HO := Lib.hid ho
    obtain ⟨o, a, b, es⟩ := x
    obtain ⟨A, c, hus, -, -, -⟩ := cond_in hrd
    generalize es.length = n at hus
    subst hus
    obtain ⟨V, hV⟩ : ∃ V, V = u1.alloc (.cells #[.int .i64 o, .int .i64 a, .int .i64 b, .slice A n c] 27) := ⟨_, rfl⟩
    have bV : Below u1.heap.size u1 V := by rw [hV]; exact (Below.refl _ _).alloc (Nat.le_refl _) _
    have cV : V.heap[u1.heap.size]? = some (.cells #[.int .i64 o, .int .i64 a, .int .i64 b, .slice A n c] 27) := by rw [hV]; exact blk_new _ _ _
    have zV : V.heap.size = u1.heap.size + 1 := by rw [hV]; simp
    have HCV := Lib.hid (show ∀ u, Below V.heap.size V u → _ from fun u (hu : Below V.heap.size V u) => (cls_4 (blk_keep cV hu (blk_lt cV))).1)
    obtain ⟨x0, x1, x2, x3⟩ := (cls_4 cV).1
    have HBV := Lib.hid bV
    have HB1 := Lib.hid b1
    have HRG := Lib.hid rg
    have C1 := Lib.hid (CI.out V bV)
    have hs1 : W.heap.size ≤ u1.heap.size := b1.size
    clear ho rg hrd cV bV b1 CI
    go_upto_region 4 with fail
    rw [← hV]
    clear hV
    cases hc : condB ⟨o, a, b, es⟩
    · rw [hc] at C1
      have HN := Lib.hid (show okText s.data.toList = false from by rw [← HOK.out.1]; exact hc)
      clear hc
      go_upto_region 5 with (go_at_call 9; refine C1.out.mono ?_; rintro e u2 ⟨rfl, h2⟩)
      have hd2 := HB1.out.trans ((HBV.out.trans (h2.mono HBV.out.size)).mono HB1.out.size)
      clear h2
      obtain ⟨WF, hWF, ⟨q0, q1, q2, q3⟩, hO⟩ := ZERO.out HN.out u2 hd2
      have cR := blk_keep HCW.out hd2 (blk_lt HCW.out)
      obtain ⟨⟨w0', w1', w2', w3'⟩, w4', w5', w6', w7'⟩ := cls_4 cR
      clear cR
      go_wp2_with fail
      rw [← hWF]
      exact bodyPost_ret (v := .tuple #[.agg #[.int .i64 0, .int .i64 0, .int .i64 0, .slice none 0 0], .bool false]) (by simp [results, Tryz.results6, go_sem, q0, q1, q2, q3]) rfl hO
    · rw [hc] at C1
      have HN := Lib.hid (show okText s.data.toList = true from by rw [← HOK.out.1]; exact hc)
      clear hc
      go_upto_region 6 with (go_at_call 9; refine C1.out.mono ?_; rintro e u2 ⟨rfl, h3⟩)
      have h12 := HBV.out.trans (h3.mono HBV.out.size)
      obtain ⟨z0, z1, z2, z3⟩ := HCV.out u2 h3
      have hd2 := HB1.out.trans (h12.mono HB1.out.size)
      have hO2 := HO.out.at h12
      have cR := blk_keep HCW.out hd2 (blk_lt HCW.out)
      obtain ⟨⟨w0', w1', w2', w3'⟩, w4', w5', w6', w7'⟩ := cls_4 cR
      have ST := stt_4 cR (.int .i64 o) (.int .i64 a) (.int .i64 b) (.slice A n c)
      obtain ⟨WF, hWF⟩ : ∃ WF, WF = ((((u2.setCell ⟨w.heap.size, 0, none⟩ (.int .i64 o)).setCell ⟨w.heap.size, 1, none⟩ (.int .i64 a)).setCell ⟨w.heap.size, 2, none⟩ (.int .i64 b)).setCell ⟨w.heap.size, 3, none⟩ (.slice A n c)) := ⟨_, rfl⟩
      rw [← hWF] at ST
      have HST := Lib.hid ST
      have HO2 := Lib.hid hO2
      have HD2 := Lib.hid hd2
      have HS12 := Lib.hid h12.size
      clear ST cR hO2 h3 h12 hd2
      go_wp2_with fail
      rw [← hWF]
      obtain ⟨⟨q0, q1, q2, q3⟩, -⟩ := cls_4 HST.out.1
      have tW := HST.out.2
      have hd := HBW.out.trans (HD2.out.mono HBW.out.size)
      have hsW : u2.heap.size ≤ WF.heap.size := tW.size
      have hs12 := HS12.out
      refine bodyPost_ret (v := .tuple #[.agg #[.int .i64 o, .int .i64 a, .int .i64 b, .slice A n c], .bool true]) (by simp [results, Tryz.results6, go_sem, q0, q1, q2, q3]) rfl ?_
      exact OwnP.yes (us := [.int .i64 o, .int .i64 a, .int .i64 b, .slice A n c]) HN.out (by rw [← HOK.out.2 HN.out]; exact HO2.out.keep fun k hk => tW.block k (owE.lt HO2.out k hk) (fun h2 => by have h3 := List.mem_singleton.1 h2; have := (HRG.out k hk).1; omega)) nd (fun k hk => by have := HRG.out k hk; omega) (hd.trans (tW.below (fun k hk => by rw [List.mem_singleton] at hk; omega) hd.size))
  · have hl1 : (400 : Int) < (s.size : Int) := by omega
    obtain ⟨WF, hWF, ⟨q0, q1, q2, q3⟩, hO⟩ := ZERO.out (ok_long (by omega)) W (Below.refl _ _)
    obtain ⟨⟨w0', w1', w2', w3'⟩, w4', w5', w6', w7'⟩ := cls_4 HCW.out
    clear hlen hl
    go_enter Tryz.func6, Tryz.ntmps6
    go_upto_region 1 with fail
    rw [← hW]
    clear hW
    go_wp2_with fail
    rw [← hWF]
    exact bodyPost_ret (v := .tuple #[.agg #[.int .i64 0, .int .i64 0, .int .i64 0, .slice none 0 0], .bool false]) (by simp [results, Tryz.results6, go_sem, q0, q1, q2, q3]) rfl hO
/-- The laws' forms. -/
theorem implX_parseCond (w : World) (a0 : ByteArray) (hK : Tabs w) : Calls Tryz.prog 6 #[.string a0] w fun e w' => ∃ u fp, e = .returned (.tuple #[.agg u.toArray, .bool (okText a0.data.toList)]) ∧ owE w' (CondD.c (parseD a0.data.toList)) u fp ∧ fp.Nodup ∧ (∀ k ∈ fp, w.heap.size ≤ k ∧ k < w'.heap.size) ∧ Below w.heap.size w w' := implZ_parseCond w a0 hK
end Go.Proofs.YtmdmkdjeaffhaaaGreatDoor
