/- The draws of chapter 16 (text of conditions). No condition but what came in. -/
import Derived.Test.YtmdmkdjeaffhaaaGreatDoorMNum
import Derived.Test.YtmdmkdjeaffhaaaGreatDoorText9
import Derived.Deep.LoopGhost
namespace Go.Proofs.YtmdmkdjeaffhaaaGreatDoor
open Go.ChangeShapes Go.WideShapes Go.ChangeAt Go.RowKit
set_option linter.unusedVariables false
set_option linter.unusedSimpArgs false

/-- A drawn condition: its blocks are new. -/
def DrawnC (w : World) (e : Ending) (w' : World) : Prop := ∃ x us fp, e = .returned (.agg us.toArray) ∧ owE w' (CondD.c x) us fp ∧ (∀ k ∈ fp, w.heap.size ≤ k) ∧ sizeD x ≤ 15 ∧ Below w.heap.size w w'
theorem own_open {w : World} {x : CondD} {us : List Value} {fp : List Nat} (h : owE w (CondD.c x) us fp) : ∃ o a b A n c, us = [.int .i64 o, .int .i64 a, .int .i64 b, .slice A n c] := by
  obtain ⟨o1, a1, b1, e1⟩ := x
  obtain ⟨k1, g1, rfl, hg1, y0, y1, y2, y3⟩ := CondD.ow h
  obtain ⟨av, cv, hk1, -, -⟩ := y3.form
  exact ⟨_, _, _, _, _, _, by rw [hk1]⟩
set_option maxHeartbeats 8000000 in
set_option maxRecDepth 100000 in
theorem draw_isCond (w : World) (a : Option Addr) (len cap : Nat) (z : List Int) (hr : IsRow .u8 w a len cap z) :
    Calls Tryz.prog 18 #[.slice a len cap] w fun e w' => DrawnC w e w' := by
  obtain ⟨W0, hW0⟩ : ∃ W0, W0 = w.alloc (.cells #[.int .i64 0, .int .i64 0, .int .i64 0, .slice none 0 0] 27) := ⟨_, rfl⟩
  have hb0 : Below w.heap.size w W0 := by rw [hW0]; go_grown
  have hs0 : W0.heap.size = w.heap.size + 1 := by rw [hW0]; simp
  have hk2 : W0.heap[w.heap.size]? = some (.cells #[.int .i64 0, .int .i64 0, .int .i64 0, .slice none 0 0] 27) := by rw [hW0]; exact blk_new _ _ _
  have hr0 := hr.below hb0
  have FIN := Lib.hid (show ∀ (u : World) (x : CondD) (o' a' b' : Int) (A' : Option Addr) (n' c' : Nat) (fp : List Nat) (z0 z1 z2 z3 : Value), u.heap[w.heap.size]? = some (.cells #[z0, z1, z2, z3] 27) → owE u (CondD.c x) [.int .i64 o', .int .i64 a', .int .i64 b', .slice A' n' c'] fp → (∀ k ∈ fp, w.heap.size < k) → sizeD x ≤ 15 → Below w.heap.size w u →
      ∃ WF, WF = ((((u.setCell ⟨w.heap.size, 0, none⟩ (.int .i64 o')).setCell ⟨w.heap.size, 1, none⟩ (.int .i64 a')).setCell ⟨w.heap.size, 2, none⟩ (.int .i64 b')).setCell ⟨w.heap.size, 3, none⟩ (.slice A' n' c')) ∧ (WF.cell? ⟨w.heap.size, 0, none⟩ = some (.int .i64 o') ∧ WF.cell? ⟨w.heap.size, 1, none⟩ = some (.int .i64 a') ∧ WF.cell? ⟨w.heap.size, 2, none⟩ = some (.int .i64 b') ∧ WF.cell? ⟨w.heap.size, 3, none⟩ = some (.slice A' n' c')) ∧ DrawnC w (.returned (.agg #[.int .i64 o', .int .i64 a', .int .i64 b', .slice A' n' c'])) WF from fun u x o' a' b' A' n' c' fp z0 z1 z2 z3 hc ho hf hs hb => by
    have ST := stt_4 hc (.int .i64 o') (.int .i64 a') (.int .i64 b') (.slice A' n' c')
    refine ⟨_, rfl, (cls_4 ST.1).1, x, [.int .i64 o', .int .i64 a', .int .i64 b', .slice A' n' c'], fp, rfl, ?_, fun k hk => Nat.le_of_lt (hf k hk), hs, hb.trans (ST.2.below (fun k hk => by rw [List.mem_singleton] at hk; omega) hb.size)⟩
    exact ho.keep fun k hk => ST.2.block k (owE.lt ho k hk) (fun h2 => by have h3 := List.mem_singleton.1 h2; have := hf k hk; omega))
  go_enter Tryz.func18, Tryz.ntmps18
  go_upto_region 1 with fail
  rw [← hW0]
  clear hW0
  go_wp2_with fail
  refine (new_any W0 a len cap z hr0).mono ?_
  rintro e w1 ⟨B, rfl, hB, hb1, hc1⟩
  have d1 := hb0.trans (hb1.mono hb0.size)
  have k1 := blk_keep hk2 hb1 (by omega)
  clear hr0 hk2 hr
  go_wp2_with fail
  refine (once_any w1 B a len cap z 8 (by decide) (by decide) hc1).mono ?_
  rintro e w2 ⟨t, rfl, ho2, hc2⟩
  have d2 := d1.trans (ho2.below d1.size (by omega))
  have k2 := (ho2.block _ (blk_lt k1) (by omega)).trans k1
  have hs2 : w1.heap.size ≤ w2.heap.size := ho2.size
  have hs1 : W0.heap.size ≤ w1.heap.size := hb1.size
  have hlB := hc1.lt
  clear ho2 hc1 d1 k1 hb1
  cases t
  · go_wp2_with fail
    refine (any_any w2 B a len cap z hc2).mono ?_
    rintro e w3 ⟨u, x, rfl, hco, hsz, ho3, hc3⟩
    obtain ⟨A, c, rfl, -⟩ := hco.read
    obtain ⟨fp, h1, h2, h3⟩ := own_fp hco
    have d3 := d2.trans (ho3.below d2.size (by omega))
    have k3 := (ho3.block _ (blk_lt k2) (by omega)).trans k2
    generalize x.Args.length = n at h1
    obtain ⟨WF, hWF, ⟨q0, q1, q2, q3⟩, hO⟩ := FIN.out w3 x _ _ _ _ _ _ fp _ _ _ _ k3 h1 (fun k hk => by have := (h3 k hk).1; omega) (by omega) d3
    generalize x.Op = o at h1 hWF q0 hO
    generalize x.A = p at h1 hWF q1 hO
    generalize x.B = q at h1 hWF q2 hO
    obtain ⟨⟨w0', w1', w2', w3'⟩, w4', w5', w6', w7'⟩ := cls_4 k3
    have HO := Lib.hid hO
    clear hco h1 h3 d3 k3 hO hc3 ho3 d2 k2
    go_wp2
    rw [← hWF]
    exact bodyPost_ret (v := .agg #[.int .i64 o, .int .i64 p, .int .i64 q, .slice A n c]) (by simp [results, Tryz.results18, go_sem, q0, q1, q2, q3]) rfl HO.out
  · go_wp2_with fail
    refine (cond_any B a len cap z 2 w2 (Nat.le_refl _) hc2).mono ?_
    rintro e w3 ⟨u, x, rfl, hco, hsz, ho3, hc3⟩
    have hsz7 : sizeD x ≤ 7 := hsz
    obtain ⟨A, c, rfl, -⟩ := hco.read
    obtain ⟨fp, h1, h2, h3⟩ := own_fp hco
    have d3 := d2.trans (ho3.below d2.size (by omega))
    have k3 := (ho3.block _ (blk_lt k2) (by omega)).trans k2
    have hs3 : w2.heap.size ≤ w3.heap.size := ho3.size
    generalize x.Args.length = n at h1
    obtain ⟨o, ho⟩ : ∃ o, x.Op = o := ⟨_, rfl⟩
    obtain ⟨p, hp⟩ : ∃ o, x.A = o := ⟨_, rfl⟩
    obtain ⟨q, hq⟩ : ∃ o, x.B = o := ⟨_, rfl⟩
    rw [ho, hp, hq] at h1 ⊢
    obtain ⟨V, hV⟩ : ∃ V, V = w3.alloc (.cells #[.int .i64 o, .int .i64 p, .int .i64 q, .slice A n c] 27) := ⟨_, rfl⟩
    have bV : Below w3.heap.size w3 V := by rw [hV]; exact (Below.refl _ _).alloc (Nat.le_refl _) _
    have cV : V.heap[w3.heap.size]? = some (.cells #[.int .i64 o, .int .i64 p, .int .i64 q, .slice A n c] 27) := by rw [hV]; exact blk_new _ _ _
    have HCV := Lib.hid cV
    have HOV := Lib.hid (h1.at bV)
    have HDV := Lib.hid (d3.trans (bV.mono d3.size))
    have HKV := Lib.hid (blk_keep k3 bV (blk_lt k3))
    have HFP := Lib.hid h3
    clear hco h1 h2 h3 d3 k3 hc3 ho3 d2 k2 ho hp hq bV cV hc2
    go_upto_region 4 with fail
    rw [← hV]
    clear hV
    go_wp2_with fail
    go_loopg [12] (14 - sizeD x).toNat (fun g _ wx => ∃ (y : CondD) (o' a' b' : Int) (A' : Option Addr) (n' c' : Nat) (fq : List Nat), sizeD y + g = 14 ∧ Hid (wx.heap[w3.heap.size]? = some (.cells #[.int .i64 o', .int .i64 a', .int .i64 b', .slice A' n' c'] 27)) ∧ Hid (owE wx (CondD.c y) [.int .i64 o', .int .i64 a', .int .i64 b', .slice A' n' c'] fq) ∧ Hid (∀ k ∈ fq, w.heap.size < k ∧ k ≠ w3.heap.size) ∧ Hid (Below w.heap.size w wx) ∧ Hid (wx.heap[w.heap.size]? = some (.cells #[.int .i64 0, .int .i64 0, .int .i64 0, .slice none 0 0] 27)))
    case atStart =>
      exact ⟨x, o, p, q, A, n, c, fp, by omega, HCV, HOV, Lib.hid (fun k hk => by have := HFP.out k hk; omega), HDV, HKV⟩
    case round =>
      obtain ⟨y, o', a', b', A', n', c', fq, hg, HC, HO, HF, HD, HK⟩ := hrel
      obtain ⟨⟨x0, x1, x2, x3⟩, x4, x5, x6, x7⟩ := cls_4 HC.out
      have hrd := HO.out.list (hi := wr.heap.size) (owE.lt HO.out)
      have hsw : w.heap.size ≤ wr.heap.size := HD.out.size
      have hl3 := blk_lt HC.out
      have HLK := Lib.hid (blk_lt HK.out)
      have CS := Lib.hid (spec_sizeOf y wr wr.heap.size _ hrd (Nat.le_refl _) (by omega))
      have CN := Lib.hid (fun (U : World) (hU : Below wr.heap.size wr U) => spec_condNot U wr.heap.size y _ (hrd.below hU (Nat.le_refl _)) hU.size (by omega))
      obtain ⟨sz, hsz⟩ : ∃ sz, sizeD y = sz := ⟨_, rfl⟩
      rw [hsz] at CS hg
      have HSZ := Lib.hid hsz
      clear hrd hsz
      go_wp2_with fail
      refine CS.out.mono ?_
      rintro e u4 ⟨rfl, b4⟩
      have y4 := blk_keep HC.out b4 hl3
      obtain ⟨⟨v0, v1, v2, v3⟩, v4, v5, v6, v7⟩ := cls_4 y4
      have C4 := Lib.hid (CN.out u4 b4)
      have HY4 := Lib.hid y4
      have HB4 := Lib.hid b4
      have hs4 : wr.heap.size ≤ u4.heap.size := b4.size
      clear y4 b4 CN CS
      cases gk with
      | zero =>
        have hge : ¬ sz < 14 := by omega
        go_wp2_with fail
        refine C4.out.mono ?_
        rintro e u5 ⟨vs, fr, rfl, ho5, nd5, rg5, b5⟩
        obtain ⟨o5, a5, b5', A5, n5, c5, rfl⟩ := own_open ho5
        have hd5 := (HD.out.trans (HB4.out.mono HD.out.size)).trans (b5.mono (Nat.le_trans HD.out.size HB4.out.size))
        have k5 := blk_keep (blk_keep HK.out HB4.out HLK.out) b5 (by have := HLK.out; omega)
        obtain ⟨WF, hWF, ⟨q0, q1, q2, q3⟩, hO⟩ := FIN.out u5 (notD y) _ _ _ _ _ _ fr _ _ _ _ k5 ho5 (fun k hk => by have := (rg5 k hk).1; have := HLK.out; omega) (by rw [notD_size]; have := HSZ.out; omega) hd5
        obtain ⟨⟨w0', w1', w2', w3'⟩, w4', w5', w6', w7'⟩ := cls_4 k5
        have HOF := Lib.hid hO
        clear k5 hO ho5 rg5 b5 hd5
        go_wp2_with fail
        rw [← hWF]
        exact bodyPost_ret (v := .agg #[.int .i64 o5, .int .i64 a5, .int .i64 b5', .slice A5 n5 c5]) (by simp [results, Tryz.results18, go_sem, q0, q1, q2, q3]) rfl HOF.out
      | succ g =>
        have hlt : sz < 14 := by omega
        go_wp2_with fail
        refine C4.out.mono ?_
        rintro e u5 ⟨vs, fr, rfl, ho5, nd5, rg5, b5⟩
        obtain ⟨o5, a5, b5', A5, n5, c5, rfl⟩ := own_open ho5
        have hd5 := (HD.out.trans (HB4.out.mono HD.out.size)).trans (b5.mono (Nat.le_trans HD.out.size HB4.out.size))
        have y5 := blk_keep HY4.out b5 (blk_lt HY4.out)
        have k5 := blk_keep (blk_keep HK.out HB4.out HLK.out) b5 (by have := HLK.out; omega)
        obtain ⟨⟨w0', w1', w2', w3'⟩, w4', w5', w6', w7'⟩ := cls_4 y5
        have ST := stt_4 y5 (.int .i64 o5) (.int .i64 a5) (.int .i64 b5') (.slice A5 n5 c5)
        have HST := Lib.hid ST
        have HO5 := Lib.hid ho5
        have HRG := Lib.hid rg5
        have HK5 := Lib.hid k5
        have HD5 := Lib.hid hd5
        have hs5 : u4.heap.size ≤ u5.heap.size := b5.size
        clear ST ho5 rg5 y5 k5 hd5 b5
        go_wp2_with fail
        go_roundg g
        case measure => omega
        case rel =>
          have tW := HST.out.2
          have hle := HLK.out
          refine ⟨notD y, o5, a5, b5', A5, n5, c5, fr, by rw [notD_size]; have := HSZ.out; omega, Lib.hid HST.out.1, Lib.hid (HO5.out.keep fun k hk => tW.block k (owE.lt HO5.out k hk) (fun h2 => by have h3 := List.mem_singleton.1 h2; have := (HRG.out k hk).1; omega)), Lib.hid (fun k hk => by have := (HRG.out k hk).1; omega), Lib.hid (HD5.out.trans (tW.below (fun k hk => by rw [List.mem_singleton] at hk; omega) HD5.out.size)), Lib.hid ((tW.block _ (blk_lt HK5.out) (fun h2 => by have h3 := List.mem_singleton.1 h2; omega)).trans HK5.out)⟩
set_option maxHeartbeats 2000000 in
set_option maxRecDepth 100000 in
theorem draw_formatCond (w : World) (a : Option Addr) (len cap : Nat) (z : List Int) (hr : IsRow .u8 w a len cap z) :
    Calls Tryz.prog 7 #[.slice a len cap] w fun e w' => DrawnC w e w' := by
  obtain ⟨W0, hW0⟩ : ∃ W0, W0 = w.alloc (.cells #[.int .i64 0, .int .i64 0, .int .i64 0, .slice none 0 0] 27) := ⟨_, rfl⟩
  have hb0 : Below w.heap.size w W0 := by rw [hW0]; go_grown
  have hs0 : W0.heap.size = w.heap.size + 1 := by rw [hW0]; simp
  have hk2 : W0.heap[w.heap.size]? = some (.cells #[.int .i64 0, .int .i64 0, .int .i64 0, .slice none 0 0] 27) := by rw [hW0]; exact blk_new _ _ _
  have hr0 := hr.below hb0
  go_enter Tryz.func7, Tryz.ntmps7
  go_upto_region 1 with fail
  rw [← hW0]
  clear hW0
  go_wp2_with fail
  refine (draw_isCond W0 a len cap z hr0).mono ?_
  rintro e w1 ⟨x, us, fp, rfl, ho, hf, hsz, b1⟩
  obtain ⟨o, p, q, A, n, c, rfl⟩ := own_open ho
  have k1 := blk_keep hk2 b1 (by omega)
  have d1 := hb0.trans (b1.mono hb0.size)
  have ST := stt_4 k1 (.int .i64 o) (.int .i64 p) (.int .i64 q) (.slice A n c)
  obtain ⟨⟨w0', w1', w2', w3'⟩, w4', w5', w6', w7'⟩ := cls_4 k1
  have HST := Lib.hid ST
  have HO := Lib.hid ho
  have HD := Lib.hid d1
  clear ST k1 ho d1 b1 hk2 hr hr0 hb0
  go_wp2
  obtain ⟨⟨q0, q1, q2, q3⟩, -⟩ := cls_4 HST.out.1
  have tW := HST.out.2
  refine bodyPost_ret (v := .agg #[.int .i64 o, .int .i64 p, .int .i64 q, .slice A n c]) (by simp [results, Tryz.results7, go_sem, q0, q1, q2, q3]) rfl ?_
  exact ⟨x, [.int .i64 o, .int .i64 p, .int .i64 q, .slice A n c], fp, rfl, HO.out.keep fun k hk => tW.block k (owE.lt HO.out k hk) (fun h2 => by have h3 := List.mem_singleton.1 h2; have := hf k hk; omega), fun k hk => by have := hf k hk; omega, hsz, HD.out.trans (tW.below (fun k hk => by rw [List.mem_singleton] at hk; omega) HD.out.size)⟩
theorem textB_le (x : CondD) : (textB x).size ≤ 1048576 := by
  unfold textB
  split
  · rename_i h
    have h1 := text_len 15 x (condB_sz h).1 (condB_sz h).2
    have h2 := (condB_sz h).2
    show (textC x).toArray.size ≤ 1048576
    rw [List.size_toArray]
    omega
  · decide
set_option maxHeartbeats 2000000 in
set_option maxRecDepth 100000 in
theorem draw_parseCond (w : World) (a : Option Addr) (len cap : Nat) (z : List Int) (hr : IsRow .u8 w a len cap z) :
    Calls Tryz.prog 5 #[.slice a len cap] w fun e w' => ∃ s : ByteArray, e = .returned (.string s) ∧ s.size ≤ 1048576 ∧ Below w.heap.size w w' := by
  go_enter Tryz.func5, Tryz.ntmps5
  go_wp2_with fail
  refine (new_any w a len cap z hr).mono ?_
  rintro e w1 ⟨B, rfl, hB, hb1, hc1⟩
  go_wp2_with fail
  refine (once_any w1 B a len cap z 3 (by decide) (by decide) hc1).mono ?_
  rintro e w2 ⟨t, rfl, ho2, hc2⟩
  have d2 := hb1.trans (ho2.below hb1.size hB)
  cases t
  · go_wp2_with fail
    refine (any_any w2 B a len cap z hc2).mono ?_
    rintro e w3 ⟨u, x, rfl, hco, hsz, ho3, hc3⟩
    obtain ⟨A, c, rfl, hrd⟩ := hco.read
    have d3 := d2.trans (ho3.below d2.size hB)
    have HF := Lib.hid (spec_formatCond w3 w3.heap.size x _ hrd (Nat.le_refl _))
    have HT := Lib.hid (textB_le x)
    generalize textB x = T at HF HT
    clear hrd hco
    go_wp2_with fail
    refine HF.out.mono ?_
    rintro e w4 ⟨rfl, b4⟩
    go_wp2
    go_ret
    exact ⟨_, rfl, HT.out, d3.trans (b4.mono d3.size)⟩
  · go_wp2_with fail
    refine (str_any _ B a len cap z _ _ _ (by decide) (by decide) (strs_lit w2 B hc2.lt _ _ _ (by decide)) (hc2.alloc _)).mono ?_
    rintro e w3 ⟨v, hv, rfl, ho3, hc3⟩
    go_wp2
    go_ret
    exact ⟨v, rfl, hv, d2.trans ((((Only.refl _ _).alloc _).trans ho3).below d2.size hB)⟩
end Go.Proofs.YtmdmkdjeaffhaaaGreatDoor
