/- The draws of chapter 17's inputs: a request in a world of facts that are often about it. -/
import Derived.Test.YtmgigjpkpeamjaaGreatDraw17
import Derived.Test.YtmgigjpkpeamjaaGreatMDraw14
namespace Go.Proofs.YtmgigjpkpeamjaaGreat
open Go.ChangeShapes Go.WideShapes Go.ChangeAt Go.RowKit
set_option linter.unusedVariables false

/-- A store into a block of the call's own, the world named anew. -/
theorem store_one {w0 w : World} {B f : Nat} {T : TypeId} {cs : Array Value} {a : Option Addr} {len cap : Nat} {z : List Int} (lf : Loc w0 B f T cs w) (hc : Cur w B a len cap z) (hB : B < w0.heap.size) (i : Nat) (u : Value) :
    ∃ W, W = w.setCell ⟨f, i, none⟩ u ∧ Loc w0 B f T (cs.setIfInBounds i u) W ∧ Cur W B a len cap z :=
  ⟨_, rfl, lf.set i u, hc.setFar (Nat.lt_of_lt_of_le hB lf.new) i u⟩
set_option maxHeartbeats 16000000 in
set_option maxRecDepth 100000 in
theorem case_any (w : World) (B : Nat) (a : Option Addr) (len cap : Nat) (z : List Int) (hc : Cur w B a len cap z) :
    Calls Tryz.prog 14 #[.pointer (some ⟨B, 0, none⟩)] w fun e w' => ∃ u ls v xs, ∃ q : RequestD, e = .returned (.tuple #[u, v, q.val]) ∧ q.wf ∧ (ls.length ≤ 3 ∧ OwnIncludes w' w.heap.size w'.heap.size u ls) ∧ Drawn w w' v xs ∧ Only B w w' ∧ Cur w' B a len cap z := by
  have hBR : B < w.heap.size := hc.lt
  have hr : Loc w B w.heap.size 30 #[.int .i64 0, .int .i64 0, .int .i64 0, .int .i64 0, .int .i64 0, .int .i64 0] (w.alloc (.cells #[.int .i64 0, .int .i64 0, .int .i64 0, .int .i64 0, .int .i64 0, .int .i64 0] 30)) := Loc.mk_new (Only.refl _ _) hc.lt
  have hz0 : (w.alloc (.cells #[.int .i64 0, .int .i64 0, .int .i64 0, .int .i64 0, .int .i64 0, .int .i64 0] 30)).heap.size = w.heap.size + 1 := by simp
  go_enter Tryz.func14, Tryz.ntmps14
  go_wp2_with fail
  refine (pairs_any _ B a len cap z (hc.alloc _)).mono ?_
  rintro e w1 ⟨u, ls, rfl, ⟨hl, hd⟩, ho1, hc1⟩
  have hr1 := hr.call ho1
  rw [hz0] at hd
  have hs1 : w.heap.size + 1 ≤ w1.heap.size := by have := ho1.size; rw [hz0] at this; exact this
  clear hr ho1 hc hz0
  go_wp2_with fail
  refine (store_any w1 B a len cap z hc1).mono ?_
  rintro e w2 ⟨v0, M0, rfl, ⟨hml, hmw, hown⟩, ho2, hc2⟩
  have hr2 := hr1.call ho2
  have hd2 := (hd.only ho2 (by omega)).wide (Nat.le_refl _) ho2.size
  have hown2 := hown.wide hs1 (Nat.le_refl _)
  have hs2 := Nat.le_trans hs1 ho2.size
  have hmw := Lib.hid hmw
  clear hr1 ho2 hc1 hd hown hs1
  go_wp2_with fail
  refine (req_any w2 B a len cap z hc2).mono ?_
  rintro e w3 ⟨⟨p, d, g, k, ob, n⟩, hq, hn0, hn1, rfl, ho3, hc3⟩
  rw [RequestD.val_mk]
  replace hn0 : 0 ≤ n := hn0
  replace hn1 : n ≤ 30 := hn1
  have HQW := Lib.hid hq
  obtain ⟨wp, wd, wg, -, -, -⟩ := hq
  dsimp only at wp wd wg
  have hr3 := hr2.call ho3
  have hd3 := (hd2.only ho3 (by omega)).wide (Nat.le_refl _) ho3.size
  have hown3 := (hown2.only ho3 (by omega)).wide (Nat.le_refl _) ho3.size
  have hs3 := Nat.le_trans hs2 ho3.size
  clear hr2 ho3 hc2 hd2 hown2 hs2
  go_wp2_with fail
  obtain ⟨W4, hW4⟩ : ∃ W : World, W = w3.alloc (.cells #[.int .i64 p, .int .i64 d, .int .i64 g, .int .i64 k, .int .i64 ob, .int .i64 n] 30) := ⟨_, rfl⟩
  rw [← hW4]
  have lq4 : Loc w B w3.heap.size 30 #[.int .i64 p, .int .i64 d, .int .i64 g, .int .i64 k, .int .i64 ob, .int .i64 n] W4 := by rw [hW4]; exact Loc.mk_new hr3.only hc3.lt
  have lr4 : Loc w B w.heap.size 30 #[.int .i64 0, .int .i64 0, .int .i64 0, .int .i64 0, .int .i64 0, .int .i64 0] W4 := by rw [hW4]; exact hr3.alloc _
  have hc4 : Cur W4 B a len cap z := by rw [hW4]; exact hc3.alloc _
  have o4 : Only B w3 W4 := by rw [hW4]; exact (Only.refl _ _).alloc _
  have hd4 := (hd3.only o4 (by omega)).wide (Nat.le_refl _) o4.size
  have hown4 := (hown3.only o4 (by omega)).wide (Nat.le_refl _) o4.size
  clear hW4 hr3 hc3 hd3 hown3 o4
  generalize w3.heap.size = F at lq4 hs3 ⊢
  refine (below_any W4 B a len cap z 5 (by decide) (by decide) hc4).mono ?_
  rintro e w5 ⟨i0, hi0, rfl, ho5, hc5⟩
  have lq5 := lq4.call ho5
  have lr5 := lr4.call ho5
  have hd5 := (hd4.only ho5 (by omega)).wide (Nat.le_refl _) ho5.size
  have hown5 := (hown4.only ho5 (by omega)).wide (Nat.le_refl _) ho5.size
  have HQ := Lib.hid (fun (W : World) (ho : Only B w5 W) => (lq5.call ho).cells6)
  have HLR := Lib.hid (fun (W : World) (ho : Only B w5 W) => lr5.call ho)
  have HLQ := Lib.hid (fun (W : World) (ho : Only B w5 W) => lq5.call ho)
  have HD5 := Lib.hid (fun (W : World) (ho : Only B w5 W) => (hd5.only ho (by omega : B < w.heap.size + 1)).wide (Nat.le_refl _) ho.size)
  have hs5 : w.heap.size + 1 ≤ w5.heap.size := by have := lq5.lt; omega
  clear lq4 lr4 hc4 hd4 hown4 ho5 lq5 lr5 hd5
  go_wp2
  go_loopw [6, 8] (fun v i wr => ∃ (m : Nat) (M : List FactD), i = .int .i64 (m : Int) ∧ m ≤ 5 ∧ M.length ≤ 30 ∧ Hid (∀ x ∈ M, x.wf) ∧ OwnFact wr (w.heap.size + 1) wr.heap.size v M ∧ Only B w5 wr ∧ Cur wr B a len cap z) (fun _ i _ => (intOf i).toNat)
  case atStart => exact ⟨i0, M0, rfl, by omega, hml, hmw, hown5, Only.refl _ _, hc5⟩
  case round =>
    obtain ⟨m, M, rfl, hm, hm30, hwf, hown, ho, hcr⟩ := hrel
    clear hown5 hc5 hml hmw hi0
    by_cases hp : 0 < m
    · have hp' : (0 : Int) < (m : Int) := by omega
      go_wp2_with fail
      refine (fact_any wr B a len cap z hcr).mono ?_
      rintro e w6 ⟨⟨k', s', v', i', t', u'⟩, ⟨wk, ws, wv, wi, wt, wu⟩, rfl, ho6, hc6⟩
      dsimp only at wk ws wv wi wt wu
      rw [FactD.val_mk]
      have hBr := hcr.lt
      clear hcr
      go_upto_region 8 with fail
      obtain ⟨W7, hW7⟩ : ∃ W : World, W = w6.alloc (.cells #[.int .i64 k', .int .i64 s', .int .i64 v', .int .i64 i', .int .i64 t', .int .i64 u'] 34) := ⟨_, rfl⟩
      rw [← hW7]
      have lf7 : Loc wr B w6.heap.size 34 #[.int .i64 k', .int .i64 s', .int .i64 v', .int .i64 i', .int .i64 t', .int .i64 u'] W7 := by rw [hW7]; exact Loc.mk_new ho6 hc6.lt
      have hc7 : Cur W7 B a len cap z := by rw [hW7]; exact hc6.alloc _
      clear hW7 ho6 hc6
      generalize w6.heap.size = G at lf7 ⊢
      obtain ⟨x0, x1, x2, x3, x4, x5⟩ := HQ.out _ (ho.trans lf7.only)
      clear x3 x4 x5
      have c0 := lf7.cell 0 rfl
      by_cases k1 : k' = 1
      · subst k1
        have c1 := lf7.cell 1 rfl
        have f1 := lf7.frozen 1
        go_upto_region 17 with fail
        obtain ⟨W8, hW8, lf8, hc8⟩ := store_one lf7 hc7 hBr 1 (.int .i64 p)
        rw [← hW8]
        clear hW8 lf7 hc7 c0 c1 f1 x0 x1 x2
        simp only [List.setIfInBounds_toArray, List.set_cons_succ, List.set_cons_zero] at lf8
        have ho8 := ho.trans lf8.only
        have x5d := (HQ.out _ ho8.drew).2.2.2.2.2
        have ld := lf8.drew
        have hcd : Cur W8.drew B a len cap z := hc8.drewN 1
        clear hc8 ho8
        go_region_held3 (fun w' => w'.cell? ⟨F, 5, none⟩ = some (.int .i64 n))
          (first | exact x5d | exact y5 | exact (HQ.out _ (ho.trans (l9.set 4 _).only)).2.2.2.2.2)
          (first
            | (go_at_call 17; (with_reducible refine (below_any _ B a len cap z 6 (by decide) (by decide) hcd).mono ?_); rintro e9 w9 ⟨b, hb, rfl, ho9, hc9⟩; have l9 := ld.call ho9; have y5 := (HQ.out _ (ho.trans l9.only)).2.2.2.2.2; have e9 : IntKind.i64.wrap (n - (b : Int)) = n - (b : Int) := IntWalk.i64_in _ (by omega))
            | (go_at_call 35; (with_reducible refine (spec_max _ _ _).mono ?_); rintro e10 w10 ⟨rfl, rfl⟩; have c4 := l9.cell 4 rfl; have f4 := l9.frozen 4))
        have hmx : 0 ≤ mx 0 (n - (b : Int)) ∧ mx 0 (n - (b : Int)) ≤ 30 := by unfold mx; split <;> omega
        generalize mx 0 (n - (b : Int)) = at' at hmx ⊢
        obtain ⟨W10, hW10, lf10, hc10⟩ := store_one l9 hc9 hBr 4 (.int .i64 at')
        rw [← hW10]
        clear hW10 l9 hc9 ho9 c4 f4 ld hcd lf8 x5d y5 e9
        simp only [List.setIfInBounds_toArray, List.set_cons_succ, List.set_cons_zero] at lf10
        go_upto_region 18 with fail
        have x5d := (HQ.out _ (ho.trans lf10.only).drew).2.2.2.2.2
        have ld := lf10.drew
        have hcd : Cur W10.drew B a len cap z := hc10.drewN 1
        clear hc10
        go_region_held3 (fun w' => w'.cell? ⟨F, 5, none⟩ = some (.int .i64 n))
          (first | exact x5d | exact y5 | exact (HQ.out _ (ho.trans (l9.set 5 _).only)).2.2.2.2.2)
          (first
            | (go_at_call 17; (with_reducible refine (below_any _ B a len cap z 10 (by decide) (by decide) hcd).mono ?_); rintro e9 w9 ⟨b2, hb2, rfl, ho9, hc9⟩; have l9 := ld.call ho9; have y5 := (HQ.out _ (ho.trans l9.only)).2.2.2.2.2; have e9 : IntKind.i64.wrap (n + (b2 : Int)) = n + (b2 : Int) := IntWalk.i64_in _ (by omega); have c5 := l9.cell 5 rfl; have f5 := l9.frozen 5))
        obtain ⟨W12, hW12, lf12, hc12⟩ := store_one l9 hc9 hBr 5 (.int .i64 (n + (b2 : Int)))
        rw [← hW12]
        clear hW12 l9 hc9 ho9 c5 f5 ld hcd lf10 x5d y5 e9
        simp only [List.setIfInBounds_toArray, List.set_cons_succ, List.set_cons_zero] at lf12
        have hown12 := (hown.only lf12.only (by omega)).wide (Nat.le_refl _) lf12.only.size
        have hr12 := hown12.read
        have ho12 := ho.trans lf12.only
        obtain ⟨_, A, cp, rfl, _⟩ := id hr12
        have HP := Lib.hid (spec_putFact W12 W12.heap.size cp A M ⟨1, p, v', i', at', n + (b2 : Int)⟩ hr12 (Nat.le_refl _) (by omega))
        simp only [FactD.val_mk] at HP
        have hxw : FactD.wf ⟨1, p, v', i', at', n + (b2 : Int)⟩ := ⟨(show (Lit.int .i64 1).wf = true by decide), wp, wv, wi, wf_i64 (by show (-9223372036854775808 : Int) ≤ at'; omega) (by show at' ≤ (9223372036854775807 : Int); omega), wf_i64 (by show (-9223372036854775808 : Int) ≤ n + (b2 : Int); omega) (by show n + (b2 : Int) ≤ (9223372036854775807 : Int); omega)⟩
        have hwf2 := Lib.hid (putF_wf hwf.out hxw)
        have hl2 := putF_length M ⟨1, p, v', i', at', n + (b2 : Int)⟩ 30 hm30 (Nat.le_refl _)
        generalize putF M ⟨1, p, v', i', at', n + (b2 : Int)⟩ = R at HP hwf2 hl2
        obtain ⟨y0, y1, y2, y3, y4, y5⟩ := lf12.cells6
        clear hown12 hr12 hxw lf12
        go_wp2_with fail
        refine HP.out.mono ?_
        rintro e w13 ⟨v'', rfl, hown13, b13⟩
        have HO2 := Lib.hid (hown13.wide (lo' := w.heap.size + 1) (by have := ho12.size; omega) (Nat.le_refl _))
        have ho13 := ho12.trans (Below.only b13)
        have hc13 := hc12.only b13
        clear hown13 ho12 hc12 b13 HP y0 y1 y2 y3 y4 y5 hown
        go_wp2
        refine ⟨⟨m - 1, R.1, by go_num, by omega, hl2, hwf2, HO2.out, ho13, hc13⟩, by simp only [intOf]; omega⟩
      · by_cases k2 : k' = 2
        · subst k2
          have c1 := lf7.cell 1 rfl
          have f1 := lf7.frozen 1
          go_upto_region 14 with fail
          obtain ⟨W8a, hW8a, lf8a, hc8a⟩ := store_one lf7 hc7 hBr 1 (.int .i64 p)
          rw [← hW8a]
          clear hW8a x0 x1 x2 c0 c1 f1 lf7 hc7
          simp only [List.setIfInBounds_toArray, List.set_cons_succ, List.set_cons_zero] at lf8a
          have x1 := (HQ.out _ (ho.trans lf8a.only)).2.1
          have c2 := lf8a.cell 2 rfl
          have f2 := lf8a.frozen 2
          go_upto_region 17 with fail
          obtain ⟨W8, hW8, lf8, hc8⟩ := store_one lf8a hc8a hBr 2 (.int .i64 d)
          rw [← hW8]
          clear hW8 lf8a hc8a c2 f2 x1
          simp only [List.setIfInBounds_toArray, List.set_cons_succ, List.set_cons_zero] at lf8
          have ho8 := ho.trans lf8.only
          have x5d := (HQ.out _ ho8.drew).2.2.2.2.2
          have ld := lf8.drew
          have hcd : Cur W8.drew B a len cap z := hc8.drewN 1
          clear hc8 ho8
          go_region_held3 (fun w' => w'.cell? ⟨F, 5, none⟩ = some (.int .i64 n))
            (first | exact x5d | exact y5 | exact (HQ.out _ (ho.trans (l9.set 4 _).only)).2.2.2.2.2)
            (first
              | (go_at_call 17; (with_reducible refine (below_any _ B a len cap z 6 (by decide) (by decide) hcd).mono ?_); rintro e9 w9 ⟨b, hb, rfl, ho9, hc9⟩; have l9 := ld.call ho9; have y5 := (HQ.out _ (ho.trans l9.only)).2.2.2.2.2; have e9 : IntKind.i64.wrap (n - (b : Int)) = n - (b : Int) := IntWalk.i64_in _ (by omega))
              | (go_at_call 35; (with_reducible refine (spec_max _ _ _).mono ?_); rintro e10 w10 ⟨rfl, rfl⟩; have c4 := l9.cell 4 rfl; have f4 := l9.frozen 4))
          have hmx : 0 ≤ mx 0 (n - (b : Int)) ∧ mx 0 (n - (b : Int)) ≤ 30 := by unfold mx; split <;> omega
          generalize mx 0 (n - (b : Int)) = at' at hmx ⊢
          obtain ⟨W10, hW10, lf10, hc10⟩ := store_one l9 hc9 hBr 4 (.int .i64 at')
          rw [← hW10]
          clear hW10 l9 hc9 ho9 c4 f4 ld hcd lf8 x5d y5 e9
          simp only [List.setIfInBounds_toArray, List.set_cons_succ, List.set_cons_zero] at lf10
          go_upto_region 18 with fail
          have x5d := (HQ.out _ (ho.trans lf10.only).drew).2.2.2.2.2
          have ld := lf10.drew
          have hcd : Cur W10.drew B a len cap z := hc10.drewN 1
          clear hc10
          go_region_held3 (fun w' => w'.cell? ⟨F, 5, none⟩ = some (.int .i64 n))
            (first | exact x5d | exact y5 | exact (HQ.out _ (ho.trans (l9.set 5 _).only)).2.2.2.2.2)
            (first
              | (go_at_call 17; (with_reducible refine (below_any _ B a len cap z 10 (by decide) (by decide) hcd).mono ?_); rintro e9 w9 ⟨b2, hb2, rfl, ho9, hc9⟩; have l9 := ld.call ho9; have y5 := (HQ.out _ (ho.trans l9.only)).2.2.2.2.2; have e9 : IntKind.i64.wrap (n + (b2 : Int)) = n + (b2 : Int) := IntWalk.i64_in _ (by omega); have c5 := l9.cell 5 rfl; have f5 := l9.frozen 5))
          obtain ⟨W12, hW12, lf12, hc12⟩ := store_one l9 hc9 hBr 5 (.int .i64 (n + (b2 : Int)))
          rw [← hW12]
          clear hW12 l9 hc9 ho9 c5 f5 ld hcd lf10 x5d y5 e9
          simp only [List.setIfInBounds_toArray, List.set_cons_succ, List.set_cons_zero] at lf12
          have hown12 := (hown.only lf12.only (by omega)).wide (Nat.le_refl _) lf12.only.size
          have hr12 := hown12.read
          have ho12 := ho.trans lf12.only
          obtain ⟨_, A, cp, rfl, _⟩ := id hr12
          have HP := Lib.hid (spec_putFact W12 W12.heap.size cp A M ⟨2, p, d, i', at', n + (b2 : Int)⟩ hr12 (Nat.le_refl _) (by omega))
          simp only [FactD.val_mk] at HP
          have hxw : FactD.wf ⟨2, p, d, i', at', n + (b2 : Int)⟩ := ⟨(show (Lit.int .i64 2).wf = true by decide), wp, wd, wi, wf_i64 (by show (-9223372036854775808 : Int) ≤ at'; omega) (by show at' ≤ (9223372036854775807 : Int); omega), wf_i64 (by show (-9223372036854775808 : Int) ≤ n + (b2 : Int); omega) (by show n + (b2 : Int) ≤ (9223372036854775807 : Int); omega)⟩
          have hwf2 := Lib.hid (putF_wf hwf.out hxw)
          have hl2 := putF_length M ⟨2, p, d, i', at', n + (b2 : Int)⟩ 30 hm30 (Nat.le_refl _)
          generalize putF M ⟨2, p, d, i', at', n + (b2 : Int)⟩ = R at HP hwf2 hl2
          obtain ⟨y0, y1, y2, y3, y4, y5⟩ := lf12.cells6
          clear hown12 hr12 hxw lf12
          go_wp2_with fail
          refine HP.out.mono ?_
          rintro e w13 ⟨v'', rfl, hown13, b13⟩
          have HO2 := Lib.hid (hown13.wide (lo' := w.heap.size + 1) (by have := ho12.size; omega) (Nat.le_refl _))
          have ho13 := ho12.trans (Below.only b13)
          have hc13 := hc12.only b13
          clear hown13 ho12 hc12 b13 HP y0 y1 y2 y3 y4 y5 hown
          go_wp2
          refine ⟨⟨m - 1, R.1, by go_num, by omega, hl2, hwf2, HO2.out, ho13, hc13⟩, by simp only [intOf]; omega⟩
        · by_cases k3 : k' = 3
          · subst k3
            have c1 := lf7.cell 1 rfl
            have f1 := lf7.frozen 1
            go_upto_region 17 with fail
            obtain ⟨W8, hW8, lf8, hc8⟩ := store_one lf7 hc7 hBr 1 (.int .i64 d)
            rw [← hW8]
            clear hW8 lf7 hc7 c0 c1 f1 x0 x1 x2
            simp only [List.setIfInBounds_toArray, List.set_cons_succ, List.set_cons_zero] at lf8
            have ho8 := ho.trans lf8.only
            have x5d := (HQ.out _ ho8.drew).2.2.2.2.2
            have ld := lf8.drew
            have hcd : Cur W8.drew B a len cap z := hc8.drewN 1
            clear hc8 ho8
            go_region_held3 (fun w' => w'.cell? ⟨F, 5, none⟩ = some (.int .i64 n))
              (first | exact x5d | exact y5 | exact (HQ.out _ (ho.trans (l9.set 4 _).only)).2.2.2.2.2)
              (first
                | (go_at_call 17; (with_reducible refine (below_any _ B a len cap z 6 (by decide) (by decide) hcd).mono ?_); rintro e9 w9 ⟨b, hb, rfl, ho9, hc9⟩; have l9 := ld.call ho9; have y5 := (HQ.out _ (ho.trans l9.only)).2.2.2.2.2; have e9 : IntKind.i64.wrap (n - (b : Int)) = n - (b : Int) := IntWalk.i64_in _ (by omega))
                | (go_at_call 35; (with_reducible refine (spec_max _ _ _).mono ?_); rintro e10 w10 ⟨rfl, rfl⟩; have c4 := l9.cell 4 rfl; have f4 := l9.frozen 4))
            have hmx : 0 ≤ mx 0 (n - (b : Int)) ∧ mx 0 (n - (b : Int)) ≤ 30 := by unfold mx; split <;> omega
            generalize mx 0 (n - (b : Int)) = at' at hmx ⊢
            obtain ⟨W10, hW10, lf10, hc10⟩ := store_one l9 hc9 hBr 4 (.int .i64 at')
            rw [← hW10]
            clear hW10 l9 hc9 ho9 c4 f4 ld hcd lf8 x5d y5 e9
            simp only [List.setIfInBounds_toArray, List.set_cons_succ, List.set_cons_zero] at lf10
            go_upto_region 18 with fail
            have x5d := (HQ.out _ (ho.trans lf10.only).drew).2.2.2.2.2
            have ld := lf10.drew
            have hcd : Cur W10.drew B a len cap z := hc10.drewN 1
            clear hc10
            go_region_held3 (fun w' => w'.cell? ⟨F, 5, none⟩ = some (.int .i64 n))
              (first | exact x5d | exact y5 | exact (HQ.out _ (ho.trans (l9.set 5 _).only)).2.2.2.2.2)
              (first
                | (go_at_call 17; (with_reducible refine (below_any _ B a len cap z 10 (by decide) (by decide) hcd).mono ?_); rintro e9 w9 ⟨b2, hb2, rfl, ho9, hc9⟩; have l9 := ld.call ho9; have y5 := (HQ.out _ (ho.trans l9.only)).2.2.2.2.2; have e9 : IntKind.i64.wrap (n + (b2 : Int)) = n + (b2 : Int) := IntWalk.i64_in _ (by omega); have c5 := l9.cell 5 rfl; have f5 := l9.frozen 5))
            obtain ⟨W12, hW12, lf12, hc12⟩ := store_one l9 hc9 hBr 5 (.int .i64 (n + (b2 : Int)))
            rw [← hW12]
            clear hW12 l9 hc9 ho9 c5 f5 ld hcd lf10 x5d y5 e9
            simp only [List.setIfInBounds_toArray, List.set_cons_succ, List.set_cons_zero] at lf12
            have hown12 := (hown.only lf12.only (by omega)).wide (Nat.le_refl _) lf12.only.size
            have hr12 := hown12.read
            have ho12 := ho.trans lf12.only
            obtain ⟨_, A, cp, rfl, _⟩ := id hr12
            have HP := Lib.hid (spec_putFact W12 W12.heap.size cp A M ⟨3, d, v', i', at', n + (b2 : Int)⟩ hr12 (Nat.le_refl _) (by omega))
            simp only [FactD.val_mk] at HP
            have hxw : FactD.wf ⟨3, d, v', i', at', n + (b2 : Int)⟩ := ⟨(show (Lit.int .i64 3).wf = true by decide), wd, wv, wi, wf_i64 (by show (-9223372036854775808 : Int) ≤ at'; omega) (by show at' ≤ (9223372036854775807 : Int); omega), wf_i64 (by show (-9223372036854775808 : Int) ≤ n + (b2 : Int); omega) (by show n + (b2 : Int) ≤ (9223372036854775807 : Int); omega)⟩
            have hwf2 := Lib.hid (putF_wf hwf.out hxw)
            have hl2 := putF_length M ⟨3, d, v', i', at', n + (b2 : Int)⟩ 30 hm30 (Nat.le_refl _)
            generalize putF M ⟨3, d, v', i', at', n + (b2 : Int)⟩ = R at HP hwf2 hl2
            obtain ⟨y0, y1, y2, y3, y4, y5⟩ := lf12.cells6
            clear hown12 hr12 hxw lf12
            go_wp2_with fail
            refine HP.out.mono ?_
            rintro e w13 ⟨v'', rfl, hown13, b13⟩
            have HO2 := Lib.hid (hown13.wide (lo' := w.heap.size + 1) (by have := ho12.size; omega) (Nat.le_refl _))
            have ho13 := ho12.trans (Below.only b13)
            have hc13 := hc12.only b13
            clear hown13 ho12 hc12 b13 HP y0 y1 y2 y3 y4 y5 hown
            go_wp2
            refine ⟨⟨m - 1, R.1, by go_num, by omega, hl2, hwf2, HO2.out, ho13, hc13⟩, by simp only [intOf]; omega⟩
          · have n1 : (k' == 1) = false := beq_eq_false_iff_ne.2 k1
            have n2 : (k' == 2) = false := beq_eq_false_iff_ne.2 k2
            have n3 : (k' == 3) = false := beq_eq_false_iff_ne.2 k3
            have c1 := lf7.cell 1 rfl
            have f1 := lf7.frozen 1
            go_upto_region 17 with fail
            obtain ⟨W8, hW8, lf8, hc8⟩ := store_one lf7 hc7 hBr 1 (.int .i64 g)
            rw [← hW8]
            clear hW8 lf7 hc7 c0 c1 f1 x0 x1 x2
            simp only [List.setIfInBounds_toArray, List.set_cons_succ, List.set_cons_zero] at lf8
            have ho8 := ho.trans lf8.only
            have x5d := (HQ.out _ ho8.drew).2.2.2.2.2
            have ld := lf8.drew
            have hcd : Cur W8.drew B a len cap z := hc8.drewN 1
            clear hc8 ho8
            go_region_held3 (fun w' => w'.cell? ⟨F, 5, none⟩ = some (.int .i64 n))
              (first | exact x5d | exact y5 | exact (HQ.out _ (ho.trans (l9.set 4 _).only)).2.2.2.2.2)
              (first
                | (go_at_call 17; (with_reducible refine (below_any _ B a len cap z 6 (by decide) (by decide) hcd).mono ?_); rintro e9 w9 ⟨b, hb, rfl, ho9, hc9⟩; have l9 := ld.call ho9; have y5 := (HQ.out _ (ho.trans l9.only)).2.2.2.2.2; have e9 : IntKind.i64.wrap (n - (b : Int)) = n - (b : Int) := IntWalk.i64_in _ (by omega))
                | (go_at_call 35; (with_reducible refine (spec_max _ _ _).mono ?_); rintro e10 w10 ⟨rfl, rfl⟩; have c4 := l9.cell 4 rfl; have f4 := l9.frozen 4))
            have hmx : 0 ≤ mx 0 (n - (b : Int)) ∧ mx 0 (n - (b : Int)) ≤ 30 := by unfold mx; split <;> omega
            generalize mx 0 (n - (b : Int)) = at' at hmx ⊢
            obtain ⟨W10, hW10, lf10, hc10⟩ := store_one l9 hc9 hBr 4 (.int .i64 at')
            rw [← hW10]
            clear hW10 l9 hc9 ho9 c4 f4 ld hcd lf8 x5d y5 e9
            simp only [List.setIfInBounds_toArray, List.set_cons_succ, List.set_cons_zero] at lf10
            go_upto_region 18 with fail
            have x5d := (HQ.out _ (ho.trans lf10.only).drew).2.2.2.2.2
            have ld := lf10.drew
            have hcd : Cur W10.drew B a len cap z := hc10.drewN 1
            clear hc10
            go_region_held3 (fun w' => w'.cell? ⟨F, 5, none⟩ = some (.int .i64 n))
              (first | exact x5d | exact y5 | exact (HQ.out _ (ho.trans (l9.set 5 _).only)).2.2.2.2.2)
              (first
                | (go_at_call 17; (with_reducible refine (below_any _ B a len cap z 10 (by decide) (by decide) hcd).mono ?_); rintro e9 w9 ⟨b2, hb2, rfl, ho9, hc9⟩; have l9 := ld.call ho9; have y5 := (HQ.out _ (ho.trans l9.only)).2.2.2.2.2; have e9 : IntKind.i64.wrap (n + (b2 : Int)) = n + (b2 : Int) := IntWalk.i64_in _ (by omega); have c5 := l9.cell 5 rfl; have f5 := l9.frozen 5))
            obtain ⟨W12, hW12, lf12, hc12⟩ := store_one l9 hc9 hBr 5 (.int .i64 (n + (b2 : Int)))
            rw [← hW12]
            clear hW12 l9 hc9 ho9 c5 f5 ld hcd lf10 x5d y5 e9
            simp only [List.setIfInBounds_toArray, List.set_cons_succ, List.set_cons_zero] at lf12
            have hown12 := (hown.only lf12.only (by omega)).wide (Nat.le_refl _) lf12.only.size
            have hr12 := hown12.read
            have ho12 := ho.trans lf12.only
            obtain ⟨_, A, cp, rfl, _⟩ := id hr12
            have HP := Lib.hid (spec_putFact W12 W12.heap.size cp A M ⟨k', g, v', i', at', n + (b2 : Int)⟩ hr12 (Nat.le_refl _) (by omega))
            simp only [FactD.val_mk] at HP
            have hxw : FactD.wf ⟨k', g, v', i', at', n + (b2 : Int)⟩ := ⟨wk, wg, wv, wi, wf_i64 (by show (-9223372036854775808 : Int) ≤ at'; omega) (by show at' ≤ (9223372036854775807 : Int); omega), wf_i64 (by show (-9223372036854775808 : Int) ≤ n + (b2 : Int); omega) (by show n + (b2 : Int) ≤ (9223372036854775807 : Int); omega)⟩
            have hwf2 := Lib.hid (putF_wf hwf.out hxw)
            have hl2 := putF_length M ⟨k', g, v', i', at', n + (b2 : Int)⟩ 30 hm30 (Nat.le_refl _)
            generalize putF M ⟨k', g, v', i', at', n + (b2 : Int)⟩ = R at HP hwf2 hl2
            obtain ⟨y0, y1, y2, y3, y4, y5⟩ := lf12.cells6
            clear hown12 hr12 hxw lf12
            go_wp2_with fail
            refine HP.out.mono ?_
            rintro e w13 ⟨v'', rfl, hown13, b13⟩
            have HO2 := Lib.hid (hown13.wide (lo' := w.heap.size + 1) (by have := ho12.size; omega) (Nat.le_refl _))
            have ho13 := ho12.trans (Below.only b13)
            have hc13 := hc12.only b13
            clear hown13 ho12 hc12 b13 HP y0 y1 y2 y3 y4 y5 hown
            go_wp2
            refine ⟨⟨m - 1, R.1, by go_num, by omega, hl2, hwf2, HO2.out, ho13, hc13⟩, by simp only [intOf]; omega⟩
    · obtain rfl : m = 0 := by omega
      obtain ⟨_, A, cp, rfl, _⟩ := id hown.read
      go_upto_region 20 with fail
      have lq := HLQ.out _ ho
      have lr := HLR.out _ ho
      have hd := HD5.out _ ho
      have oww : Only B w wr := lr.only
      have hFR : F ≠ w.heap.size := by omega
      obtain ⟨x0, x1, x2, x3, x4, x5⟩ := lq.cells6
      have r0 := lr.cell 0 rfl
      have r1 := lr.cell 1 rfl
      have r2 := lr.cell 2 rfl
      have r3 := lr.cell 3 rfl
      have r4 := lr.cell 4 rfl
      have r5 := lr.cell 5 rfl
      have g0 := lr.frozen 0
      have g1 := lr.frozen 1
      have g2 := lr.frozen 2
      have g3 := lr.frozen 3
      have g4 := lr.frozen 4
      have g5 := lr.frozen 5
      have hch := ((((((lq.setFar (Nat.le_refl _) hFR 0 (.int .i64 p)).setFar (Nat.le_refl _) hFR 1 (.int .i64 d)).setFar (Nat.le_refl _) hFR 2 (.int .i64 g)).setFar (Nat.le_refl _) hFR 3 (.int .i64 k)).setFar (Nat.le_refl _) hFR 4 (.int .i64 ob)).setFar (Nat.le_refl _) hFR 5 (.int .i64 n)).drew
      have hrs := ((((((lr.set 0 (.int .i64 p)).set 1 (.int .i64 d)).set 2 (.int .i64 g)).set 3 (.int .i64 k)).set 4 (.int .i64 ob)).set 5 (.int .i64 n)).drew
      have hcs := ((((((hcr.setFar hBR 0 (.int .i64 p)).setFar hBR 1 (.int .i64 d)).setFar hBR 2 (.int .i64 g)).setFar hBR 3 (.int .i64 k)).setFar hBR 4 (.int .i64 ob)).setFar hBR 5 (.int .i64 n)).drewN 1
      have hds := ((((((hd.setOther (.inl (Nat.lt_succ_self _)) 0 (.int .i64 p)).setOther (.inl (Nat.lt_succ_self _)) 1 (.int .i64 d)).setOther (.inl (Nat.lt_succ_self _)) 2 (.int .i64 g)).setOther (.inl (Nat.lt_succ_self _)) 3 (.int .i64 k)).setOther (.inl (Nat.lt_succ_self _)) 4 (.int .i64 ob)).setOther (.inl (Nat.lt_succ_self _)) 5 (.int .i64 n)).drewN 1
      have hos := ((((((hown.setOther (.inl (Nat.lt_succ_self _)) 0 (.int .i64 p)).setOther (.inl (Nat.lt_succ_self _)) 1 (.int .i64 d)).setOther (.inl (Nat.lt_succ_self _)) 2 (.int .i64 g)).setOther (.inl (Nat.lt_succ_self _)) 3 (.int .i64 k)).setOther (.inl (Nat.lt_succ_self _)) 4 (.int .i64 ob)).setOther (.inl (Nat.lt_succ_self _)) 5 (.int .i64 n)).drewN 1
      have hsz : wr.heap.size ≤ ((((((wr.setCell ⟨w.heap.size, 0, none⟩ (.int .i64 p)).setCell ⟨w.heap.size, 1, none⟩ (.int .i64 d)).setCell ⟨w.heap.size, 2, none⟩ (.int .i64 g)).setCell ⟨w.heap.size, 3, none⟩ (.int .i64 k)).setCell ⟨w.heap.size, 4, none⟩ (.int .i64 ob)).setCell ⟨w.heap.size, 5, none⟩ (.int .i64 n)).drew.heap.size := by simp [World.setCell, World.drew]
      have H := Lib.hid (⟨⟨hl, hds.wide (Nat.le_succ _) hsz⟩, ⟨hm30, hwf.out, hos.wide (Nat.le_succ _) hsz⟩, hrs.only, hcs⟩ : (ls.length ≤ 3 ∧ OwnIncludes ((((((wr.setCell ⟨w.heap.size, 0, none⟩ (.int .i64 p)).setCell ⟨w.heap.size, 1, none⟩ (.int .i64 d)).setCell ⟨w.heap.size, 2, none⟩ (.int .i64 g)).setCell ⟨w.heap.size, 3, none⟩ (.int .i64 k)).setCell ⟨w.heap.size, 4, none⟩ (.int .i64 ob)).setCell ⟨w.heap.size, 5, none⟩ (.int .i64 n)).drew w.heap.size ((((((wr.setCell ⟨w.heap.size, 0, none⟩ (.int .i64 p)).setCell ⟨w.heap.size, 1, none⟩ (.int .i64 d)).setCell ⟨w.heap.size, 2, none⟩ (.int .i64 g)).setCell ⟨w.heap.size, 3, none⟩ (.int .i64 k)).setCell ⟨w.heap.size, 4, none⟩ (.int .i64 ob)).setCell ⟨w.heap.size, 5, none⟩ (.int .i64 n)).drew.heap.size u ls) ∧ Drawn w ((((((wr.setCell ⟨w.heap.size, 0, none⟩ (.int .i64 p)).setCell ⟨w.heap.size, 1, none⟩ (.int .i64 d)).setCell ⟨w.heap.size, 2, none⟩ (.int .i64 g)).setCell ⟨w.heap.size, 3, none⟩ (.int .i64 k)).setCell ⟨w.heap.size, 4, none⟩ (.int .i64 ob)).setCell ⟨w.heap.size, 5, none⟩ (.int .i64 n)).drew (.slice A M.length cp) M ∧ Only B w ((((((wr.setCell ⟨w.heap.size, 0, none⟩ (.int .i64 p)).setCell ⟨w.heap.size, 1, none⟩ (.int .i64 d)).setCell ⟨w.heap.size, 2, none⟩ (.int .i64 g)).setCell ⟨w.heap.size, 3, none⟩ (.int .i64 k)).setCell ⟨w.heap.size, 4, none⟩ (.int .i64 ob)).setCell ⟨w.heap.size, 5, none⟩ (.int .i64 n)).drew ∧ Cur ((((((wr.setCell ⟨w.heap.size, 0, none⟩ (.int .i64 p)).setCell ⟨w.heap.size, 1, none⟩ (.int .i64 d)).setCell ⟨w.heap.size, 2, none⟩ (.int .i64 g)).setCell ⟨w.heap.size, 3, none⟩ (.int .i64 k)).setCell ⟨w.heap.size, 4, none⟩ (.int .i64 ob)).setCell ⟨w.heap.size, 5, none⟩ (.int .i64 n)).drew B a len cap z)
      clear hds hos hd hown hrs hcs
      go_region_held3 (fun w' => w'.cell? ⟨F, 0, none⟩ = some (.int .i64 p) ∧ w'.cell? ⟨F, 1, none⟩ = some (.int .i64 d) ∧ w'.cell? ⟨F, 2, none⟩ = some (.int .i64 g) ∧ w'.cell? ⟨F, 3, none⟩ = some (.int .i64 k) ∧ w'.cell? ⟨F, 4, none⟩ = some (.int .i64 ob) ∧ w'.cell? ⟨F, 5, none⟩ = some (.int .i64 n))
        (first | with_reducible exact lq.drew.cells6 | with_reducible exact hch.cells6)
        (fail)
      go_wp2
      refine bodyPost_ret (v := .tuple #[u, .slice A M.length cp, .agg #[.int .i64 p, .int .i64 d, .int .i64 g, .int .i64 k, .int .i64 ob, .int .i64 n]]) (by simp [results, Tryz.results14, go_sem, r0, r1, r2, r3, r4, r5]) rfl ?_
      exact ⟨u, ls, _, M, ⟨p, d, g, k, ob, n⟩, rfl, HQW.out, H.out.1, H.out.2.1, H.out.2.2.1, H.out.2.2.2⟩
end Go.Proofs.YtmgigjpkpeamjaaGreat
