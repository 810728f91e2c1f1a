/-
  Proved here: for every input, what was issued is checked as good for its span only, and nothing that was changed.
  Conditions: those that the given row itself prints; none of our own.
-/
import Derived.Test.YtkbeejnikmegmaaDoorCards
import Derived.Test.YtkbeejnikmegmaaDoorTie
import Derived.Test.YtkbeejnikmegmaaDoorDraw10d
import Derived.Test.YtkbeejnikmegmaaDoorCertW
import Derived.Test.YtkbeejnikmegmaaDoorCertE
import Derived.Test.YtkbeejnikmegmaaDoorCertZ
import Derived.Test.YtkbeejnikmegmaaDoorAbs
import Derived.Test.YtkbeejnikmegmaaDoorVars
import Derived.Test.YtkbeejnikmegmaaDoorCryD
import Derived.WalkKit
import Derived.ProofKit
import Derived.OpenShut
import Derived.ShutString
import Derived.ChangeOld
import Derived.Below
import Derived.WalkLawsBesides
import Derived.WalkSpells
import Derived.LoopTactic
import Derived.Lib.Hide
import Derived.Deep.DeepCutAuto
import Derived.Handy
import Derived.Deep.RegionHeld3
import Derived.LaidMore
import Derived.Stop.Joined
import Derived.SevenTiedAt
namespace Go.Proofs.YtkbeejnikmegmaaDoor.fnCertificates
open Go.ChangeShapes Go.WideShapes Go.ChangeAt Go.RowKit
open Go.ChangeMaps (open_string shut_string)
set_option linter.unusedVariables false

theorem own : ownKnob Tryd.prog.godebug = none := by kernel_rfl
theorem laidOut : laidOutB Tryd.prog = true := by kernel_rfl

set_option maxHeartbeats 32000000 in
set_option maxRecDepth 100000 in
theorem walk (a0 : Option Addr) (len0 cap0 : Nat) (z0 : List Int) (w : World) (w0 : IsRow .u8 w a0 len0 cap0 z0) (hL : NoKey w) :
    Calls Tryd.prog 3 #[.slice a0 len0 cap0] w fun e w' => e = .returned (.bool true) ∧ Below w.heap.size w w' := by
  by_cases hbig : (len0 : Int) ≤ 1048576
  · go_enter Tryd.func3, Tryd.ntmps3
    go_wp2_with (go_at_call 4; go_in)
    refine (draw_issueCert w a0 len0 cap0 z0 w0).mono ?_
    rintro e w1 ⟨s, n, p, k, f, sp, ⟨hs, hn, hp, hk, hf, hsp⟩, rfl, b1⟩
    have HL := Lib.hid hL
    have hK1 := hL.kept b1
    have HS := Lib.hid hs
    have HKW := Lib.hid hk
    have hci := impl_issueCert s n p k f sp w1 hs.wf hn.wf hp.wf hk.wf hf.wf hK1
    have hcs := fun W => spec_issueCert s n p k f sp W hs.wf hn.wf hp.wf hk.wf hf.wf
    have hxw := issueC_wf (s := s) (sp := sp) hn.wf hp.wf hk.wf hf.wf
    have his := fun h => issued (s := s) (n := n) (p := p) (k := k) (f := f) (sp := sp) h
    generalize issueC s n p k f sp = x at hci hcs hxw his
    generalize okIssue s n p k f sp = ok at hci hcs his
    obtain ⟨x0, x1, x2, x3, x4, x5⟩ := x
    simp only [CertD.val_mk] at hci hcs
    have CI := Lib.hid hci
    have CS := Lib.hid hcs
    have HXW := Lib.hid hxw
    have HIS := Lib.hid his
    have HK1 := Lib.hid hK1
    clear hci hcs hxw his hK1 hs hn hp hk hf hsp hL
    go_wp2_with fail
    refine CI.out.mono ?_
    rintro e w2 ⟨rfl, b2⟩
    obtain ⟨W3, hW3⟩ : ∃ W3, w2.alloc (.cells #[.int .i64 x0, .int .i64 x1, .int .i64 x2, .int .i64 x3, .int .i64 x4, .int .i64 x5] 27) = W3 := ⟨_, rfl⟩
    have b3 : Below w2.heap.size w2 W3 := by rw [← hW3]; exact (Below.refl _ _).alloc (Nat.le_refl _) _
    have hx3 : W3.heap[w2.heap.size]? = some (.cells #[.int .i64 x0, .int .i64 x1, .int .i64 x2, .int .i64 x3, .int .i64 x4, .int .i64 x5] 27) := by rw [← hW3]; exact blk_new _ _ _
    have d3 := b2.trans (b3.mono b2.size)
    generalize hF : w2.heap.size = F9 at hx3
    clear b2 b3
    go_upto_region 5 with fail
    (try rw [hW3])
    (try rw [hF])
    clear hW3 hF
    go_wp2_with fail
    refine (CS.out _).mono ?_
    rintro e w4 ⟨rfl, b4⟩
    have hx4 := blk_keep hx3 b4 (blk_lt hx3)
    have d4 := d3.trans (b4.mono d3.size)
    have d5 := d4.alloc d4.size (.cells #[.int .i64 x0, .int .i64 x1, .int .i64 x2, .int .i64 x3, .int .i64 x4, .int .i64 x5] 27)
    have hx5 := blk_keep hx4 ((Below.refl w4.heap.size w4).alloc (Nat.le_refl _) (.cells #[.int .i64 x0, .int .i64 x1, .int .i64 x2, .int .i64 x3, .int .i64 x4, .int .i64 x5] 27)) (blk_lt hx4)
    obtain ⟨W5, hW5⟩ : ∃ W5, w4.alloc (.cells #[.int .i64 x0, .int .i64 x1, .int .i64 x2, .int .i64 x3, .int .i64 x4, .int .i64 x5] 27) = W5 := ⟨_, rfl⟩
    rw [hW5] at hx5 d5
    have HX5 := Lib.hid hx5
    clear hx3 hx4 hx5 b4 d4 d3 CI CS
    go_upto_region 6 with fail
    (try rw [hW5])
    clear hW5
    have dW5 := b1.trans (d5.mono b1.size)
    cases ok
    · skip
      go_wp2_with fail
      refine (draw_hasProved _ a0 len0 cap0 z0 (w0.below dW5)).mono ?_
      rintro e v1 ⟨s', y, n', m, now, hs', hy, hn', rfl, c1⟩
      have D1 := dW5.trans (c1.mono dW5.size)
      obtain ⟨g0, g1, g2, g3, g4, g5⟩ := y
      rw [CertD.val_mk]
      obtain ⟨V2, hV2⟩ : ∃ V2, v1.alloc (.cells #[.int .i64 g0, .int .i64 g1, .int .i64 g2, .int .i64 g3, .int .i64 g4, .int .i64 g5] 27) = V2 := ⟨_, rfl⟩
      have c2 : Below v1.heap.size v1 V2 := by rw [← hV2]; exact (Below.refl _ _).alloc (Nat.le_refl _) _
      have hg2 : V2.heap[v1.heap.size]? = some (.cells #[.int .i64 g0, .int .i64 g1, .int .i64 g2, .int .i64 g3, .int .i64 g4, .int .i64 g5] 27) := by rw [← hV2]; exact blk_new _ _ _
      have D2 := D1.trans (c2.mono D1.size)
      have HG := Lib.hid hg2
      generalize hF : v1.heap.size = F15 at HG
      have HK2 := Lib.hid (HL.out.kept D2)
      have CH := Lib.hid (impl_hasProved s' n' m now ⟨g0, g1, g2, g3, g4, g5⟩ V2 hs'.wf hn'.wf hy HK2.out)
      have CC := Lib.hid (fun (W : World) (hW : Below V2.heap.size V2 W) => impl_checkCert s' now ⟨g0, g1, g2, g3, g4, g5⟩ W hs'.wf hy (HK2.out.kept hW))
      have CP := Lib.hid (fun (W : World) => impl_proveKey g2 n' W hy.2.2.1 hn'.wf)
      unfold provedC at CH
      dsimp only at CH
      rw [CertD.val_mk] at CH CC
      generalize checkC s' ⟨g0, g1, g2, g3, g4, g5⟩ now = cc at CH CC
      generalize proveC g2 n' = q at CH CP
      clear c1 c2 hg2 hs' hy hn'
      go_upto_region 14 with fail
      (try rw [hV2])
      (try rw [hF])
      clear hV2 hF
      obtain ⟨⟨t0, t1, t2, t3, t4, t5⟩, -⟩ := cls_6 HG.out
      by_cases hcm : cc = true ∧ m = q
      · obtain ⟨rfl, rfl⟩ := hcm
        rw [beq_self_eq_true, Bool.and_self] at CH
        go_wp2_with (first
          | (go_at_call 10; refine CH.out.mono ?_; rintro e v3 ⟨rfl, c3⟩; clear t0 t1 t2 t3 t4 t5; obtain ⟨⟨t0, t1, t2, t3, t4, t5⟩, -⟩ := cls_6 (blk_keep HG.out c3 (blk_lt HG.out)))
          | (go_at_call 9; refine (CC.out _ c3).mono ?_; rintro e v4 ⟨rfl, c4⟩; have e4 := c3.trans (c4.mono c3.size); clear t0 t1 t2 t3 t4 t5; obtain ⟨⟨t0, t1, t2, t3, t4, t5⟩, -⟩ := cls_6 (blk_keep HG.out e4 (blk_lt HG.out)))
          | (go_at_call 11; refine (CP.out _).mono ?_; rintro e v5 ⟨rfl, c5⟩; have e5 := e4.trans (c5.mono e4.size)))
        go_ret
        exact ⟨by simp, D2.trans (e5.mono D2.size)⟩
      · have hb : (cc && (m == q)) = false := by
          cases cc
          · rfl
          · simp only [Bool.true_and, beq_eq_false_iff_ne, ne_eq]
            exact fun h => hcm ⟨rfl, h⟩
        rw [hb] at CH
        clear hb hcm CC CP
        go_wp2_with (go_at_call 10; refine CH.out.mono ?_; rintro e v3 ⟨rfl, c3⟩)
        go_ret
        exact ⟨rfl, D2.trans (c3.mono D2.size)⟩
    · obtain ⟨i1, ⟨i2, i3, i4⟩, ⟨i5, i6, i7⟩, ⟨i8, i9⟩, i10, i11, i12, i13, i14, i15, i16⟩ := HIS.out rfl
      dsimp only at i1 i2 i5 i8 i9 i10 i11 i12 i13 i14 i15 i16
      have hwx : IntKind.i64.wrap (x0 + 1) = x0 + 1 := by rw [IntKind.wrap_i64]; omega
      have hwu : IntKind.i64.wrap (x4 + 1) = x4 + 1 := by rw [IntKind.wrap_i64]; omega
      have hwf : IntKind.i64.wrap (f - 1) = f - 1 := by rw [IntKind.wrap_i64]; omega
      have hyw : CertD.wf ⟨x0 + 1, x1, x2, x3, x4, x5⟩ := ⟨(show (Lit.int .i64 (x0 + 1)).wf = true from wf_i64 (by omega) (by omega)), HXW.out.2.1, HXW.out.2.2.1, HXW.out.2.2.2.1, HXW.out.2.2.2.2.1, HXW.out.2.2.2.2.2⟩
      obtain ⟨W6, hW6⟩ : ∃ W6, W5.alloc (.cells #[.int .i64 x0, .int .i64 x1, .int .i64 x2, .int .i64 x3, .int .i64 x4, .int .i64 x5] 27) = W6 := ⟨_, rfl⟩
      have b6 : Below W5.heap.size W5 W6 := by rw [← hW6]; exact (Below.refl _ _).alloc (Nat.le_refl _) _
      have hy6 : W6.heap[W5.heap.size]? = some (.cells #[.int .i64 x0, .int .i64 x1, .int .i64 x2, .int .i64 x3, .int .i64 x4, .int .i64 x5] 27) := by rw [← hW6]; exact blk_new _ _ _
      have hx6 := blk_keep HX5.out b6 (blk_lt HX5.out)
      have hne : F9 ≠ W5.heap.size := Nat.ne_of_lt (blk_lt HX5.out)
      obtain ⟨W7, hW7⟩ : ∃ W7, W6.setCell ⟨W5.heap.size, 0, none⟩ (.int .i64 (x0 + 1)) = W7 := ⟨_, rfl⟩
      have hy7 : W7.heap[W5.heap.size]? = some (.cells #[.int .i64 (x0 + 1), .int .i64 x1, .int .i64 x2, .int .i64 x3, .int .i64 x4, .int .i64 x5] 27) := by rw [← hW7]; exact blk_set hy6 _
      have T7 : Touch [W5.heap.size] W6 W7 := by rw [← hW7]; exact Touch.set (List.mem_singleton.2 rfl) _ _ _
      have hx7 : W7.heap[F9]? = some (.cells #[.int .i64 x0, .int .i64 x1, .int .i64 x2, .int .i64 x3, .int .i64 x4, .int .i64 x5] 27) := (T7.block _ (blk_lt hx6) (by simpa using hne)).trans hx6
      have d7 : Below w1.heap.size w1 W7 := by rw [← hW7]; exact (d5.trans (b6.mono d5.size)).setCell (p := ⟨W5.heap.size, 0, none⟩) d5.size _
      obtain ⟨⟨p0, p1, p2, p3, p4, p5⟩, -⟩ := cls_6 HX5.out
      obtain ⟨⟨q0, q1, q2, q3, q4, q5⟩, r0, r1, r2, r3, r4, r5⟩ := cls_6 hy6
      have HX7 := Lib.hid hx7
      have HY7 := Lib.hid hy7
      have HK7 := Lib.hid (fun (W : World) (hW : Below W7.heap.size W7 W) => HK1.out.kept (d7.trans (hW.mono d7.size)))
      have C60 := Lib.hid (fun (W : World) (hW : Below W7.heap.size W7 W) => show Calls Tryd.prog 8 #[.agg #[.int .i64 x0, .int .i64 x1, .int .i64 x2, .int .i64 x3, .int .i64 x4, .int .i64 x5]] W fun e w' => e = .returned (.bool true) ∧ Below W.heap.size W w' from i10 ▸ impl_isCert ⟨x0, x1, x2, x3, x4, x5⟩ W HXW.out (HK7.out W hW))
      have C66 := Lib.hid (fun (W : World) (hW : Below W7.heap.size W7 W) => show Calls Tryd.prog 9 #[.int .i64 s, .agg #[.int .i64 x0, .int .i64 x1, .int .i64 x2, .int .i64 x3, .int .i64 x4, .int .i64 x5], .int .i64 f] W fun e w' => e = .returned (.bool true) ∧ Below W.heap.size W w' from i11 ▸ impl_checkCert s f ⟨x0, x1, x2, x3, x4, x5⟩ W HS.out.wf HXW.out (HK7.out W hW))
      have C74 := Lib.hid (fun (W : World) (hW : Below W7.heap.size W7 W) => show Calls Tryd.prog 9 #[.int .i64 s, .agg #[.int .i64 x0, .int .i64 x1, .int .i64 x2, .int .i64 x3, .int .i64 x4, .int .i64 x5], .int .i64 x4] W fun e w' => e = .returned (.bool true) ∧ Below W.heap.size W w' from i12 ▸ impl_checkCert s x4 ⟨x0, x1, x2, x3, x4, x5⟩ W HS.out.wf HXW.out (HK7.out W hW))
      have C83 := Lib.hid (fun (W : World) (hW : Below W7.heap.size W7 W) => show Calls Tryd.prog 9 #[.int .i64 s, .agg #[.int .i64 x0, .int .i64 x1, .int .i64 x2, .int .i64 x3, .int .i64 x4, .int .i64 x5], .int .i64 (x4 + 1)] W fun e w' => e = .returned (.bool false) ∧ Below W.heap.size W w' from i13 ▸ impl_checkCert s (x4 + 1) ⟨x0, x1, x2, x3, x4, x5⟩ W HS.out.wf HXW.out (HK7.out W hW))
      have C90 := Lib.hid (fun (W : World) (hW : Below W7.heap.size W7 W) => show Calls Tryd.prog 9 #[.int .i64 s, .agg #[.int .i64 x0, .int .i64 x1, .int .i64 x2, .int .i64 x3, .int .i64 x4, .int .i64 x5], .int .i64 (f - 1)] W fun e w' => e = .returned (.bool false) ∧ Below W.heap.size W w' from i14 ▸ impl_checkCert s (f - 1) ⟨x0, x1, x2, x3, x4, x5⟩ W HS.out.wf HXW.out (HK7.out W hW))
      have C96 := Lib.hid (fun (W : World) (hW : Below W7.heap.size W7 W) => show Calls Tryd.prog 9 #[.int .i64 s, .agg #[.int .i64 (x0 + 1), .int .i64 x1, .int .i64 x2, .int .i64 x3, .int .i64 x4, .int .i64 x5], .int .i64 f] W fun e w' => e = .returned (.bool false) ∧ Below W.heap.size W w' from i15 ▸ impl_checkCert s f ⟨x0 + 1, x1, x2, x3, x4, x5⟩ W HS.out.wf hyw (HK7.out W hW))
      obtain ⟨q, hq⟩ : ∃ q, proveC k 7 = q := ⟨_, rfl⟩
      rw [hq] at i16
      have C102 := Lib.hid (fun (W : World) => show Calls Tryd.prog 11 #[.int .i64 k, .int .i64 7] W fun e w' => e = .returned (.int .i64 q) ∧ Below W.heap.size W w' from hq ▸ impl_proveKey k 7 W HKW.out.wf (by decide))
      have C104 := Lib.hid (fun (W : World) (hW : Below W7.heap.size W7 W) => show Calls Tryd.prog 10 #[.int .i64 s, .agg #[.int .i64 x0, .int .i64 x1, .int .i64 x2, .int .i64 x3, .int .i64 x4, .int .i64 x5], .int .i64 7, .int .i64 q, .int .i64 f] W fun e w' => e = .returned (.bool true) ∧ Below W.heap.size W w' from i16 ▸ impl_hasProved s 7 q f ⟨x0, x1, x2, x3, x4, x5⟩ W HS.out.wf (by decide) HXW.out (HK7.out W hW))
      generalize hF : W5.heap.size = F13 at HY7 hW7 q0 q1 q2 q3 q4 q5 r0 r1 r2 r3 r4 r5
      clear i1 i2 i3 i4 i5 i6 i7 i8 i9 i10 i11 i12 i13 i14 i15 i16 hq hyw hx6 hy6 hx7 hy7 T7 hne b6 HIS
      go_upto_region 11 with fail
      (try rw [hW6])
      (try rw [hF])
      (try rw [hW7])
      clear hW6 hF hW7 p0 p1 p2 p3 p4 p5 q0 q1 q2 q3 q4 q5 r0 r1 r2 r3 r4 r5
      have hR := Below.refl W7.heap.size W7
      have HC11 := Lib.hid (fun (uu : World) (hb : Below W7.heap.size W7 uu) => (⟨blk_cell (blk_keep HX7.out hb (blk_lt HX7.out)) 0 rfl, blk_cell (blk_keep HX7.out hb (blk_lt HX7.out)) 1 rfl, blk_cell (blk_keep HX7.out hb (blk_lt HX7.out)) 2 rfl, blk_cell (blk_keep HX7.out hb (blk_lt HX7.out)) 3 rfl, blk_cell (blk_keep HX7.out hb (blk_lt HX7.out)) 4 rfl, blk_cell (blk_keep HX7.out hb (blk_lt HX7.out)) 5 rfl, blk_cell (blk_keep HY7.out hb (blk_lt HY7.out)) 0 rfl, blk_cell (blk_keep HY7.out hb (blk_lt HY7.out)) 1 rfl, blk_cell (blk_keep HY7.out hb (blk_lt HY7.out)) 2 rfl, blk_cell (blk_keep HY7.out hb (blk_lt HY7.out)) 3 rfl, blk_cell (blk_keep HY7.out hb (blk_lt HY7.out)) 4 rfl, blk_cell (blk_keep HY7.out hb (blk_lt HY7.out)) 5 rfl, hb⟩ : uu.cell? ⟨F9, 0, none⟩ = some (.int .i64 x0) ∧ uu.cell? ⟨F9, 1, none⟩ = some (.int .i64 x1) ∧ uu.cell? ⟨F9, 2, none⟩ = some (.int .i64 x2) ∧ uu.cell? ⟨F9, 3, none⟩ = some (.int .i64 x3) ∧ uu.cell? ⟨F9, 4, none⟩ = some (.int .i64 x4) ∧ uu.cell? ⟨F9, 5, none⟩ = some (.int .i64 x5) ∧ uu.cell? ⟨F13, 0, none⟩ = some (.int .i64 (x0 + 1)) ∧ uu.cell? ⟨F13, 1, none⟩ = some (.int .i64 x1) ∧ uu.cell? ⟨F13, 2, none⟩ = some (.int .i64 x2) ∧ uu.cell? ⟨F13, 3, none⟩ = some (.int .i64 x3) ∧ uu.cell? ⟨F13, 4, none⟩ = some (.int .i64 x4) ∧ uu.cell? ⟨F13, 5, none⟩ = some (.int .i64 x5) ∧ Below W7.heap.size W7 uu))
      have hD11 := (hR).drew
      refine wp_region_held_drew (S := fun uu => uu.cell? ⟨F9, 0, none⟩ = some (.int .i64 x0) ∧ uu.cell? ⟨F9, 1, none⟩ = some (.int .i64 x1) ∧ uu.cell? ⟨F9, 2, none⟩ = some (.int .i64 x2) ∧ uu.cell? ⟨F9, 3, none⟩ = some (.int .i64 x3) ∧ uu.cell? ⟨F9, 4, none⟩ = some (.int .i64 x4) ∧ uu.cell? ⟨F9, 5, none⟩ = some (.int .i64 x5) ∧ uu.cell? ⟨F13, 0, none⟩ = some (.int .i64 (x0 + 1)) ∧ uu.cell? ⟨F13, 1, none⟩ = some (.int .i64 x1) ∧ uu.cell? ⟨F13, 2, none⟩ = some (.int .i64 x2) ∧ uu.cell? ⟨F13, 3, none⟩ = some (.int .i64 x3) ∧ uu.cell? ⟨F13, 4, none⟩ = some (.int .i64 x4) ∧ uu.cell? ⟨F13, 5, none⟩ = some (.int .i64 x5) ∧ Below W7.heap.size W7 uu) (by kernel_rfl) (HC11.out _ hD11) (fun hHeld => ?_)
      refine wpAnyH_take (i := 0) (oi := ⟨some 59, _, _, _, _, _⟩) (v := ?_) rfl (by kernel_rfl) (by kernel_rfl) (by kernel_rfl) (fun _ _ _ h => h) (Or.inl ⟨by rfl, ?_⟩) (by assumption) ?_
      rotate_left
      · intro w hSw; (try dsimp only at hSw); go_simp <;> (with_reducible rfl)
      (try simp only [Act.put, List.setIfInBounds_toArray, List.set_cons_zero, List.set_cons_succ])
      refine wpAnyH_ready (rs := [1]) (by kernel_rfl) (by simp) ?_
      refine AllReadyH.cons (o := ⟨some 60, _, _, _, _, _⟩) rfl (fun K hK => ?_) AllReadyH.nil
      go_simp
      (with_reducible refine (C60.out _ hD11).mono ?_)
      rintro e60 u60 ⟨rfl, b60⟩
      have d60 : Below W7.heap.size W7 u60 := hD11.trans (b60.mono hD11.size)
      refine hK.out _ _ (HC11.out _ d60) (fun hHeld2 => ?_)
      clear hK K
      (try simp only [Act.put, List.setIfInBounds_toArray, List.set_cons_zero, List.set_cons_succ])
      refine wpAnyH_take (i := 2) (oi := ⟨some 61, _, _, _, _, _⟩) (v := ?_) rfl (by kernel_rfl) (by kernel_rfl) (by kernel_rfl) (fun _ _ _ h => h) (Or.inl ⟨by rfl, ?_⟩) (by assumption) ?_
      rotate_left
      · intro w hSw; (try dsimp only at hSw); go_simp <;> (with_reducible rfl)
      (try simp only [Act.put, List.setIfInBounds_toArray, List.set_cons_zero, List.set_cons_succ])
      refine wpAnyH_take (i := 3) (oi := ⟨some 62, _, _, _, _, _⟩) (v := ?_) rfl (by kernel_rfl) (by kernel_rfl) (by kernel_rfl) (fun _ _ _ h => h) (Or.inl ⟨by rfl, ?_⟩) (by assumption) ?_
      rotate_left
      · intro w hSw; (try dsimp only at hSw); go_simp <;> (with_reducible rfl)
      (try simp only [Act.put, List.setIfInBounds_toArray, List.set_cons_zero, List.set_cons_succ])
      refine wpAnyH_take (i := 4) (oi := ⟨some 63, _, _, _, _, _⟩) (v := ?_) rfl (by kernel_rfl) (by kernel_rfl) (by kernel_rfl) (fun _ _ _ h => h) (Or.inl ⟨by rfl, ?_⟩) (by assumption) ?_
      rotate_left
      · intro w hSw; (try dsimp only at hSw); go_simp <;> (with_reducible rfl)
      (try simp only [Act.put, List.setIfInBounds_toArray, List.set_cons_zero, List.set_cons_succ])
      refine wpAnyH_take (i := 5) (oi := ⟨some 64, _, _, _, _, _⟩) (v := ?_) rfl (by kernel_rfl) (by kernel_rfl) (by kernel_rfl) (fun _ _ _ h => h) (Or.inl ⟨by rfl, ?_⟩) (by assumption) ?_
      rotate_left
      · intro w hSw; (try dsimp only at hSw); go_simp <;> (with_reducible rfl)
      (try simp only [Act.put, List.setIfInBounds_toArray, List.set_cons_zero, List.set_cons_succ])
      refine wpAnyH_take (i := 6) (oi := ⟨some 65, _, _, _, _, _⟩) (v := ?_) rfl (by kernel_rfl) (by kernel_rfl) (by kernel_rfl) (fun _ _ _ h => h) (Or.inl ⟨by rfl, ?_⟩) (by assumption) ?_
      rotate_left
      · intro w hSw; (try dsimp only at hSw); go_simp <;> (with_reducible rfl)
      (try simp only [Act.put, List.setIfInBounds_toArray, List.set_cons_zero, List.set_cons_succ])
      refine wpAnyH_ready (rs := [7]) (by kernel_rfl) (by simp) ?_
      refine AllReadyH.cons (o := ⟨some 66, _, _, _, _, _⟩) rfl (fun K hK => ?_) AllReadyH.nil
      go_simp
      (with_reducible refine (C66.out _ d60).mono ?_)
      rintro e66 u66 ⟨rfl, b66⟩
      have d66 : Below W7.heap.size W7 u66 := d60.trans (b66.mono d60.size)
      refine hK.out _ _ (HC11.out _ d66) (fun hHeld2 => ?_)
      clear hK K
      (try simp only [Act.put, List.setIfInBounds_toArray, List.set_cons_zero, List.set_cons_succ])
      refine wpAnyH_take (i := 8) (oi := ⟨some 67, _, _, _, _, _⟩) (v := ?_) rfl (by kernel_rfl) (by kernel_rfl) (by kernel_rfl) (fun _ _ _ h => h) (Or.inl ⟨by rfl, ?_⟩) (by assumption) ?_
      rotate_left
      · intro w hSw; (try dsimp only at hSw); go_simp <;> (with_reducible rfl)
      (try simp only [Act.put, List.setIfInBounds_toArray, List.set_cons_zero, List.set_cons_succ])
      refine wpAnyH_take (i := 9) (oi := ⟨some 68, _, _, _, _, _⟩) (v := ?_) rfl (by kernel_rfl) (by kernel_rfl) (by kernel_rfl) (fun _ _ _ h => h) (Or.inl ⟨by rfl, ?_⟩) (by assumption) ?_
      rotate_left
      · intro w hSw; (try dsimp only at hSw); go_simp <;> (with_reducible rfl)
      (try simp only [Act.put, List.setIfInBounds_toArray, List.set_cons_zero, List.set_cons_succ])
      refine wpAnyH_take (i := 10) (oi := ⟨some 69, _, _, _, _, _⟩) (v := ?_) rfl (by kernel_rfl) (by kernel_rfl) (by kernel_rfl) (fun _ _ _ h => h) (Or.inl ⟨by rfl, ?_⟩) (by assumption) ?_
      rotate_left
      · intro w hSw; (try dsimp only at hSw); go_simp <;> (with_reducible rfl)
      (try simp only [Act.put, List.setIfInBounds_toArray, List.set_cons_zero, List.set_cons_succ])
      refine wpAnyH_take (i := 11) (oi := ⟨some 70, _, _, _, _, _⟩) (v := ?_) rfl (by kernel_rfl) (by kernel_rfl) (by kernel_rfl) (fun _ _ _ h => h) (Or.inl ⟨by rfl, ?_⟩) (by assumption) ?_
      rotate_left
      · intro w hSw; (try dsimp only at hSw); go_simp <;> (with_reducible rfl)
      (try simp only [Act.put, List.setIfInBounds_toArray, List.set_cons_zero, List.set_cons_succ])
      refine wpAnyH_take (i := 12) (oi := ⟨some 71, _, _, _, _, _⟩) (v := ?_) rfl (by kernel_rfl) (by kernel_rfl) (by kernel_rfl) (fun _ _ _ h => h) (Or.inl ⟨by rfl, ?_⟩) (by assumption) ?_
      rotate_left
      · intro w hSw; (try dsimp only at hSw); go_simp <;> (with_reducible rfl)
      (try simp only [Act.put, List.setIfInBounds_toArray, List.set_cons_zero, List.set_cons_succ])
      refine wpAnyH_take (i := 13) (oi := ⟨some 72, _, _, _, _, _⟩) (v := ?_) rfl (by kernel_rfl) (by kernel_rfl) (by kernel_rfl) (fun _ _ _ h => h) (Or.inl ⟨by rfl, ?_⟩) (by assumption) ?_
      rotate_left
      · intro w hSw; (try dsimp only at hSw); go_simp <;> (with_reducible rfl)
      (try simp only [Act.put, List.setIfInBounds_toArray, List.set_cons_zero, List.set_cons_succ])
      refine wpAnyH_take (i := 14) (oi := ⟨some 73, _, _, _, _, _⟩) (v := ?_) rfl (by kernel_rfl) (by kernel_rfl) (by kernel_rfl) (fun _ _ _ h => h) (Or.inl ⟨by rfl, ?_⟩) (by assumption) ?_
      rotate_left
      · intro w hSw; (try dsimp only at hSw); go_simp <;> (with_reducible rfl)
      (try simp only [Act.put, List.setIfInBounds_toArray, List.set_cons_zero, List.set_cons_succ])
      refine wpAnyH_ready (rs := [15]) (by kernel_rfl) (by simp) ?_
      refine AllReadyH.cons (o := ⟨some 74, _, _, _, _, _⟩) rfl (fun K hK => ?_) AllReadyH.nil
      go_simp
      (with_reducible refine (C74.out _ d66).mono ?_)
      rintro e74 u74 ⟨rfl, b74⟩
      have d74 : Below W7.heap.size W7 u74 := d66.trans (b74.mono d66.size)
      refine hK.out _ _ (HC11.out _ d74) (fun hHeld2 => ?_)
      clear hK K
      (try simp only [Act.put, List.setIfInBounds_toArray, List.set_cons_zero, List.set_cons_succ])
      refine wpAnyH_take (i := 16) (oi := ⟨some 75, _, _, _, _, _⟩) (v := ?_) rfl (by kernel_rfl) (by kernel_rfl) (by kernel_rfl) (fun _ _ _ h => h) (Or.inl ⟨by rfl, ?_⟩) (by assumption) ?_
      rotate_left
      · intro w hSw; (try dsimp only at hSw); go_simp <;> (with_reducible rfl)
      (try simp only [Act.put, List.setIfInBounds_toArray, List.set_cons_zero, List.set_cons_succ])
      refine wpAnyH_take (i := 17) (oi := ⟨some 76, _, _, _, _, _⟩) (v := ?_) rfl (by kernel_rfl) (by kernel_rfl) (by kernel_rfl) (fun _ _ _ h => h) (Or.inl ⟨by rfl, ?_⟩) (by assumption) ?_
      rotate_left
      · intro w hSw; (try dsimp only at hSw); go_simp <;> (with_reducible rfl)
      (try simp only [Act.put, List.setIfInBounds_toArray, List.set_cons_zero, List.set_cons_succ])
      refine wpAnyH_take (i := 18) (oi := ⟨some 77, _, _, _, _, _⟩) (v := ?_) rfl (by kernel_rfl) (by kernel_rfl) (by kernel_rfl) (fun _ _ _ h => h) (Or.inl ⟨by rfl, ?_⟩) (by assumption) ?_
      rotate_left
      · intro w hSw; (try dsimp only at hSw); go_simp <;> (with_reducible rfl)
      (try simp only [Act.put, List.setIfInBounds_toArray, List.set_cons_zero, List.set_cons_succ])
      refine wpAnyH_take (i := 19) (oi := ⟨some 78, _, _, _, _, _⟩) (v := ?_) rfl (by kernel_rfl) (by kernel_rfl) (by kernel_rfl) (fun _ _ _ h => h) (Or.inl ⟨by rfl, ?_⟩) (by assumption) ?_
      rotate_left
      · intro w hSw; (try dsimp only at hSw); go_simp <;> (with_reducible rfl)
      (try simp only [Act.put, List.setIfInBounds_toArray, List.set_cons_zero, List.set_cons_succ])
      refine wpAnyH_take (i := 20) (oi := ⟨some 79, _, _, _, _, _⟩) (v := ?_) rfl (by kernel_rfl) (by kernel_rfl) (by kernel_rfl) (fun _ _ _ h => h) (Or.inl ⟨by rfl, ?_⟩) (by assumption) ?_
      rotate_left
      · intro w hSw; (try dsimp only at hSw); go_simp <;> (with_reducible rfl)
      (try simp only [Act.put, List.setIfInBounds_toArray, List.set_cons_zero, List.set_cons_succ])
      refine wpAnyH_take (i := 21) (oi := ⟨some 80, _, _, _, _, _⟩) (v := ?_) rfl (by kernel_rfl) (by kernel_rfl) (by kernel_rfl) (fun _ _ _ h => h) (Or.inl ⟨by rfl, ?_⟩) (by assumption) ?_
      rotate_left
      · intro w hSw; (try dsimp only at hSw); go_simp <;> (with_reducible rfl)
      (try simp only [Act.put, List.setIfInBounds_toArray, List.set_cons_zero, List.set_cons_succ])
      refine wpAnyH_take (i := 22) (oi := ⟨some 81, _, _, _, _, _⟩) (v := ?_) rfl (by kernel_rfl) (by kernel_rfl) (by kernel_rfl) (fun _ _ _ h => h) (Or.inl ⟨by rfl, ?_⟩) (by assumption) ?_
      rotate_left
      · intro w hSw; (try dsimp only at hSw); go_simp <;> (with_reducible rfl)
      (try simp only [Act.put, List.setIfInBounds_toArray, List.set_cons_zero, List.set_cons_succ])
      refine wpAnyH_take (i := 23) (oi := ⟨some 82, _, _, _, _, _⟩) (v := ?_) rfl (by kernel_rfl) (by kernel_rfl) (by kernel_rfl) (fun _ _ _ h => h) (Or.inl ⟨by rfl, ?_⟩) (by assumption) ?_
      rotate_left
      · intro w hSw; (try dsimp only at hSw); go_simp <;> (with_reducible rfl)
      (try simp only [Act.put, List.setIfInBounds_toArray, List.set_cons_zero, List.set_cons_succ])
      refine wpAnyH_ready (rs := [24]) (by kernel_rfl) (by simp) ?_
      refine AllReadyH.cons (o := ⟨some 83, _, _, _, _, _⟩) rfl (fun K hK => ?_) AllReadyH.nil
      go_simp
      (with_reducible refine (C83.out _ d74).mono ?_)
      rintro e83 u83 ⟨rfl, b83⟩
      have d83 : Below W7.heap.size W7 u83 := d74.trans (b83.mono d74.size)
      refine hK.out _ _ (HC11.out _ d83) (fun hHeld2 => ?_)
      clear hK K
      (try simp only [Act.put, List.setIfInBounds_toArray, List.set_cons_zero, List.set_cons_succ])
      refine wpAnyH_take (i := 25) (oi := ⟨some 84, _, _, _, _, _⟩) (v := ?_) rfl (by kernel_rfl) (by kernel_rfl) (by kernel_rfl) (fun _ _ _ h => h) (Or.inl ⟨by rfl, ?_⟩) (by assumption) ?_
      rotate_left
      · intro w hSw; (try dsimp only at hSw); go_simp <;> (with_reducible rfl)
      (try simp only [Act.put, List.setIfInBounds_toArray, List.set_cons_zero, List.set_cons_succ])
      refine wpAnyH_take (i := 26) (oi := ⟨some 85, _, _, _, _, _⟩) (v := ?_) rfl (by kernel_rfl) (by kernel_rfl) (by kernel_rfl) (fun _ _ _ h => h) (Or.inl ⟨by rfl, ?_⟩) (by assumption) ?_
      rotate_left
      · intro w hSw; (try dsimp only at hSw); go_simp <;> (with_reducible rfl)
      (try simp only [Act.put, List.setIfInBounds_toArray, List.set_cons_zero, List.set_cons_succ])
      refine wpAnyH_take (i := 27) (oi := ⟨some 86, _, _, _, _, _⟩) (v := ?_) rfl (by kernel_rfl) (by kernel_rfl) (by kernel_rfl) (fun _ _ _ h => h) (Or.inl ⟨by rfl, ?_⟩) (by assumption) ?_
      rotate_left
      · intro w hSw; (try dsimp only at hSw); go_simp <;> (with_reducible rfl)
      (try simp only [Act.put, List.setIfInBounds_toArray, List.set_cons_zero, List.set_cons_succ])
      refine wpAnyH_take (i := 28) (oi := ⟨some 87, _, _, _, _, _⟩) (v := ?_) rfl (by kernel_rfl) (by kernel_rfl) (by kernel_rfl) (fun _ _ _ h => h) (Or.inl ⟨by rfl, ?_⟩) (by assumption) ?_
      rotate_left
      · intro w hSw; (try dsimp only at hSw); go_simp <;> (with_reducible rfl)
      (try simp only [Act.put, List.setIfInBounds_toArray, List.set_cons_zero, List.set_cons_succ])
      refine wpAnyH_take (i := 29) (oi := ⟨some 88, _, _, _, _, _⟩) (v := ?_) rfl (by kernel_rfl) (by kernel_rfl) (by kernel_rfl) (fun _ _ _ h => h) (Or.inl ⟨by rfl, ?_⟩) (by assumption) ?_
      rotate_left
      · intro w hSw; (try dsimp only at hSw); go_simp <;> (with_reducible rfl)
      (try simp only [Act.put, List.setIfInBounds_toArray, List.set_cons_zero, List.set_cons_succ])
      refine wpAnyH_take (i := 30) (oi := ⟨some 89, _, _, _, _, _⟩) (v := ?_) rfl (by kernel_rfl) (by kernel_rfl) (by kernel_rfl) (fun _ _ _ h => h) (Or.inl ⟨by rfl, ?_⟩) (by assumption) ?_
      rotate_left
      · intro w hSw; (try dsimp only at hSw); go_simp <;> (with_reducible rfl)
      (try simp only [Act.put, List.setIfInBounds_toArray, List.set_cons_zero, List.set_cons_succ])
      refine wpAnyH_ready (rs := [31]) (by kernel_rfl) (by simp) ?_
      refine AllReadyH.cons (o := ⟨some 90, _, _, _, _, _⟩) rfl (fun K hK => ?_) AllReadyH.nil
      go_simp
      (with_reducible refine (C90.out _ d83).mono ?_)
      rintro e90 u90 ⟨rfl, b90⟩
      have d90 : Below W7.heap.size W7 u90 := d83.trans (b90.mono d83.size)
      refine hK.out _ _ (HC11.out _ d90) (fun hHeld2 => ?_)
      clear hK K
      (try simp only [Act.put, List.setIfInBounds_toArray, List.set_cons_zero, List.set_cons_succ])
      refine wpAnyH_take (i := 32) (oi := ⟨some 91, _, _, _, _, _⟩) (v := ?_) rfl (by kernel_rfl) (by kernel_rfl) (by kernel_rfl) (fun _ _ _ h => h) (Or.inl ⟨by rfl, ?_⟩) (by assumption) ?_
      rotate_left
      · intro w hSw; (try dsimp only at hSw); go_simp <;> (with_reducible rfl)
      (try simp only [Act.put, List.setIfInBounds_toArray, List.set_cons_zero, List.set_cons_succ])
      refine wpAnyH_take (i := 33) (oi := ⟨some 92, _, _, _, _, _⟩) (v := ?_) rfl (by kernel_rfl) (by kernel_rfl) (by kernel_rfl) (fun _ _ _ h => h) (Or.inl ⟨by rfl, ?_⟩) (by assumption) ?_
      rotate_left
      · intro w hSw; (try dsimp only at hSw); go_simp <;> (with_reducible rfl)
      (try simp only [Act.put, List.setIfInBounds_toArray, List.set_cons_zero, List.set_cons_succ])
      refine wpAnyH_take (i := 34) (oi := ⟨some 93, _, _, _, _, _⟩) (v := ?_) rfl (by kernel_rfl) (by kernel_rfl) (by kernel_rfl) (fun _ _ _ h => h) (Or.inl ⟨by rfl, ?_⟩) (by assumption) ?_
      rotate_left
      · intro w hSw; (try dsimp only at hSw); go_simp <;> (with_reducible rfl)
      (try simp only [Act.put, List.setIfInBounds_toArray, List.set_cons_zero, List.set_cons_succ])
      refine wpAnyH_take (i := 35) (oi := ⟨some 94, _, _, _, _, _⟩) (v := ?_) rfl (by kernel_rfl) (by kernel_rfl) (by kernel_rfl) (fun _ _ _ h => h) (Or.inl ⟨by rfl, ?_⟩) (by assumption) ?_
      rotate_left
      · intro w hSw; (try dsimp only at hSw); go_simp <;> (with_reducible rfl)
      (try simp only [Act.put, List.setIfInBounds_toArray, List.set_cons_zero, List.set_cons_succ])
      refine wpAnyH_take (i := 36) (oi := ⟨some 95, _, _, _, _, _⟩) (v := ?_) rfl (by kernel_rfl) (by kernel_rfl) (by kernel_rfl) (fun _ _ _ h => h) (Or.inl ⟨by rfl, ?_⟩) (by assumption) ?_
      rotate_left
      · intro w hSw; (try dsimp only at hSw); go_simp <;> (with_reducible rfl)
      (try simp only [Act.put, List.setIfInBounds_toArray, List.set_cons_zero, List.set_cons_succ])
      refine wpAnyH_ready (rs := [37]) (by kernel_rfl) (by simp) ?_
      refine AllReadyH.cons (o := ⟨some 96, _, _, _, _, _⟩) rfl (fun K hK => ?_) AllReadyH.nil
      go_simp
      (with_reducible refine (C96.out _ d90).mono ?_)
      rintro e96 u96 ⟨rfl, b96⟩
      have d96 : Below W7.heap.size W7 u96 := d90.trans (b96.mono d90.size)
      refine hK.out _ _ (HC11.out _ d96) (fun hHeld2 => ?_)
      clear hK K
      (try simp only [Act.put, List.setIfInBounds_toArray, List.set_cons_zero, List.set_cons_succ])
      refine wpAnyH_take (i := 38) (oi := ⟨some 97, _, _, _, _, _⟩) (v := ?_) rfl (by kernel_rfl) (by kernel_rfl) (by kernel_rfl) (fun _ _ _ h => h) (Or.inl ⟨by rfl, ?_⟩) (by assumption) ?_
      rotate_left
      · intro w hSw; (try dsimp only at hSw); go_simp <;> (with_reducible rfl)
      (try simp only [Act.put, List.setIfInBounds_toArray, List.set_cons_zero, List.set_cons_succ])
      refine wpAnyH_take (i := 39) (oi := ⟨some 98, _, _, _, _, _⟩) (v := ?_) rfl (by kernel_rfl) (by kernel_rfl) (by kernel_rfl) (fun _ _ _ h => h) (Or.inl ⟨by rfl, ?_⟩) (by assumption) ?_
      rotate_left
      · intro w hSw; (try dsimp only at hSw); go_simp <;> (with_reducible rfl)
      (try simp only [Act.put, List.setIfInBounds_toArray, List.set_cons_zero, List.set_cons_succ])
      refine wpAnyH_take (i := 40) (oi := ⟨some 99, _, _, _, _, _⟩) (v := ?_) rfl (by kernel_rfl) (by kernel_rfl) (by kernel_rfl) (fun _ _ _ h => h) (Or.inl ⟨by rfl, ?_⟩) (by assumption) ?_
      rotate_left
      · intro w hSw; (try dsimp only at hSw); go_simp <;> (with_reducible rfl)
      (try simp only [Act.put, List.setIfInBounds_toArray, List.set_cons_zero, List.set_cons_succ])
      refine wpAnyH_take (i := 41) (oi := ⟨some 100, _, _, _, _, _⟩) (v := ?_) rfl (by kernel_rfl) (by kernel_rfl) (by kernel_rfl) (fun _ _ _ h => h) (Or.inl ⟨by rfl, ?_⟩) (by assumption) ?_
      rotate_left
      · intro w hSw; (try dsimp only at hSw); go_simp <;> (with_reducible rfl)
      (try simp only [Act.put, List.setIfInBounds_toArray, List.set_cons_zero, List.set_cons_succ])
      refine wpAnyH_take (i := 42) (oi := ⟨some 101, _, _, _, _, _⟩) (v := ?_) rfl (by kernel_rfl) (by kernel_rfl) (by kernel_rfl) (fun _ _ _ h => h) (Or.inl ⟨by rfl, ?_⟩) (by assumption) ?_
      rotate_left
      · intro w hSw; (try dsimp only at hSw); go_simp <;> (with_reducible rfl)
      (try simp only [Act.put, List.setIfInBounds_toArray, List.set_cons_zero, List.set_cons_succ])
      refine wpAnyH_take (i := 44) (oi := ⟨some 103, _, _, _, _, _⟩) (v := ?_) rfl (by kernel_rfl) (by kernel_rfl) (by kernel_rfl) (fun _ _ _ h => h) (Or.inl ⟨by rfl, ?_⟩) (by assumption) ?_
      rotate_left
      · intro w hSw; (try dsimp only at hSw); go_simp <;> (with_reducible rfl)
      (try simp only [Act.put, List.setIfInBounds_toArray, List.set_cons_zero, List.set_cons_succ])
      refine wpAnyH_ready (rs := [43]) (by kernel_rfl) (by simp) ?_
      refine AllReadyH.cons (o := ⟨some 102, _, _, _, _, _⟩) rfl (fun K hK => ?_) AllReadyH.nil
      go_simp
      (with_reducible refine (C102.out _).mono ?_)
      rintro e102 u102 ⟨rfl, b102⟩
      have d102 : Below W7.heap.size W7 u102 := d96.trans (b102.mono d96.size)
      refine hK.out _ _ (HC11.out _ d102) (fun hHeld2 => ?_)
      clear hK K
      (try simp only [Act.put, List.setIfInBounds_toArray, List.set_cons_zero, List.set_cons_succ])
      refine wpAnyH_ready (rs := [45]) (by kernel_rfl) (by simp) ?_
      refine AllReadyH.cons (o := ⟨some 104, _, _, _, _, _⟩) rfl (fun K hK => ?_) AllReadyH.nil
      go_simp
      (with_reducible refine (C104.out _ d102).mono ?_)
      rintro e104 u104 ⟨rfl, b104⟩
      have d104 : Below W7.heap.size W7 u104 := d102.trans (b104.mono d102.size)
      refine hK.out _ _ (HC11.out _ d104) (fun hHeld2 => ?_)
      clear hK K
      (try simp only [Act.put, List.setIfInBounds_toArray, List.set_cons_zero, List.set_cons_succ])
      refine wpAnyH_take (i := 46) (oi := ⟨some 105, _, _, _, _, _⟩) (v := ?_) rfl (by kernel_rfl) (by kernel_rfl) (by kernel_rfl) (fun _ _ _ h => h) (Or.inl ⟨by rfl, ?_⟩) (by assumption) ?_
      rotate_left
      · intro w hSw; (try dsimp only at hSw); go_simp <;> (with_reducible rfl)
      (try simp only [Act.put, List.setIfInBounds_toArray, List.set_cons_zero, List.set_cons_succ])
      refine wpAnyH_take (i := 47) (oi := ⟨some 106, _, _, _, _, _⟩) (v := ?_) rfl (by kernel_rfl) (by kernel_rfl) (by kernel_rfl) (fun _ _ _ h => h) (Or.inl ⟨by rfl, ?_⟩) (by assumption) ?_
      rotate_left
      · intro w hSw; (try dsimp only at hSw); go_simp <;> (with_reducible rfl)
      (try simp only [Act.put, List.setIfInBounds_toArray, List.set_cons_zero, List.set_cons_succ])
      refine wpAnyH_done (by kernel_rfl) ?_ _
      have d8 := d7.trans (d104.mono d7.size)
      have dW8 := b1.trans (d8.mono b1.size)
      clear C60 C66 C74 C83 C90 C96 C102 C104 HC11
      go_wp2_with fail
      refine (draw_hasProved _ a0 len0 cap0 z0 (w0.below dW8)).mono ?_
      rintro e v1 ⟨s', y, n', m, now, hs', hy, hn', rfl, c1⟩
      have D1 := dW8.trans (c1.mono dW8.size)
      obtain ⟨g0, g1, g2, g3, g4, g5⟩ := y
      rw [CertD.val_mk]
      obtain ⟨V2, hV2⟩ : ∃ V2, v1.alloc (.cells #[.int .i64 g0, .int .i64 g1, .int .i64 g2, .int .i64 g3, .int .i64 g4, .int .i64 g5] 27) = V2 := ⟨_, rfl⟩
      have c2 : Below v1.heap.size v1 V2 := by rw [← hV2]; exact (Below.refl _ _).alloc (Nat.le_refl _) _
      have hg2 : V2.heap[v1.heap.size]? = some (.cells #[.int .i64 g0, .int .i64 g1, .int .i64 g2, .int .i64 g3, .int .i64 g4, .int .i64 g5] 27) := by rw [← hV2]; exact blk_new _ _ _
      have D2 := D1.trans (c2.mono D1.size)
      have HG := Lib.hid hg2
      generalize hF : v1.heap.size = F15 at HG
      have HK2 := Lib.hid (HL.out.kept D2)
      have CH := Lib.hid (impl_hasProved s' n' m now ⟨g0, g1, g2, g3, g4, g5⟩ V2 hs'.wf hn'.wf hy HK2.out)
      have CC := Lib.hid (fun (W : World) (hW : Below V2.heap.size V2 W) => impl_checkCert s' now ⟨g0, g1, g2, g3, g4, g5⟩ W hs'.wf hy (HK2.out.kept hW))
      have CP := Lib.hid (fun (W : World) => impl_proveKey g2 n' W hy.2.2.1 hn'.wf)
      unfold provedC at CH
      dsimp only at CH
      rw [CertD.val_mk] at CH CC
      generalize checkC s' ⟨g0, g1, g2, g3, g4, g5⟩ now = cc at CH CC
      generalize proveC g2 n' = q at CH CP
      clear c1 c2 hg2 hs' hy hn'
      go_upto_region 14 with fail
      (try rw [hV2])
      (try rw [hF])
      clear hV2 hF
      obtain ⟨⟨t0, t1, t2, t3, t4, t5⟩, -⟩ := cls_6 HG.out
      by_cases hcm : cc = true ∧ m = q
      · obtain ⟨rfl, rfl⟩ := hcm
        rw [beq_self_eq_true, Bool.and_self] at CH
        go_wp2_with (first
          | (go_at_call 10; refine CH.out.mono ?_; rintro e v3 ⟨rfl, c3⟩; clear t0 t1 t2 t3 t4 t5; obtain ⟨⟨t0, t1, t2, t3, t4, t5⟩, -⟩ := cls_6 (blk_keep HG.out c3 (blk_lt HG.out)))
          | (go_at_call 9; refine (CC.out _ c3).mono ?_; rintro e v4 ⟨rfl, c4⟩; have e4 := c3.trans (c4.mono c3.size); clear t0 t1 t2 t3 t4 t5; obtain ⟨⟨t0, t1, t2, t3, t4, t5⟩, -⟩ := cls_6 (blk_keep HG.out e4 (blk_lt HG.out)))
          | (go_at_call 11; refine (CP.out _).mono ?_; rintro e v5 ⟨rfl, c5⟩; have e5 := e4.trans (c5.mono e4.size)))
        go_ret
        exact ⟨by simp, D2.trans (e5.mono D2.size)⟩
      · have hb : (cc && (m == q)) = false := by
          cases cc
          · rfl
          · simp only [Bool.true_and, beq_eq_false_iff_ne, ne_eq]
            exact fun h => hcm ⟨rfl, h⟩
        rw [hb] at CH
        clear hb hcm CC CP
        go_wp2_with (go_at_call 10; refine CH.out.mono ?_; rintro e v3 ⟨rfl, c3⟩)
        go_ret
        exact ⟨rfl, D2.trans (c3.mono D2.size)⟩
  · go_enter Tryd.func3, Tryd.ntmps3
    go_wp2_with (go_at_call 4; go_in)
    go_ret
    exact ⟨rfl, Below.refl _ _⟩

def laidL : List (String × DataW Unit) := [("loop.example/g00594/impl.errNoKey", Rows.laid_loop_example_g00594_impl_errNoKey)]
theorem door_met (os : Os) (args : Array Value) : laidMetH Tryd.prog laidL ((World.doorLaid Tryd.prog 400 os).forCall (fun _ _ => 0) ⟨#[], args, []⟩).memory :=
  laidMetH_of_parts3 (fuel := 8) (laidMet_of_run' 8 (by kernel_rfl) (by kernel_rfl)) (by kernel_rfl) (by kernel_rfl)
set_option maxRecDepth 100000 in
theorem lifted (os : Os) (started : os.Started) (H : Type) (enc : TypeId × Value → H) :
    ReturnsInHanded {} Tryd.checked os 3 .any (fun w args => (Rows.fnCertificatesSpec.pre enc Tryd.prog Tryd.f3 [] false w args ∧ laidMetH Tryd.prog laidL w) ∧ sizedMet enc Tryd.prog Tryd.f3 (OpenSpec.ofChange Rows.fnCertificatesSpec) false w args)
      (Rows.fnCertificatesSpec.post enc Tryd.prog Tryd.f3 false true false false) := by
  refine returnsInHanded_of_change_and (C := Tryd.checked) (X := fun w _ => laidMetH Tryd.prog laidL w) (fun _ _ _ hh h => h.of_heap hh) own started (by kernel_rfl) Tryd.func3
    (ChangeSpec.witness_shaped (enc := enc) (C := Tryd.checked) (os := os) (X := fun w _ => laidMetH Tryd.prog laidL w) false (World.doorLaid Tryd.prog 400 os) #[.slice none 0 0] 8 rfl (World.shaped_of_RefB (by kernel_rfl) (by kernel_rfl)) (by kernel_rfl) (by kernel_rfl) (by kernel_rfl) (door_met os _)) ?_
  intro W base args ds gs before hval0 hW _ _ hL _
  have hval : ∀ (j : Nat) t v, Tryd.f3.params[j]? = some t → args[j]? = some v → Value.okWide Tryd.prog W .any base t v := hval0
  have hW' := hW
  obtain ⟨p, q, hA0, hV, rfl, hfz, hnd⟩ := hW
  have hA : DataW.TrodAll enc Tryd.prog W 0 (fun _ => true) true Tryd.f3.params.toList args.toList ds p := hA0
  rw [Tryd.params3] at hA hval
  obtain ⟨v0, vs0, d0, ds0, p0, q0, hargs, rfl, rfl, h0, r0⟩ := trodAll_cons hA
  obtain ⟨rfl, rfl, rfl⟩ := trodAll_nil r0
  obtain rfl : args = #[v0] := by cases args; simp_all
  have hV1 : DataW.TrodVars enc Tryd.prog W (fun _ => true) ["loop.example/g00594/impl.errNoKey"] gs q := hV
  have hvars := vars_tok (fun n hn => by
    simp only [List.mem_cons, List.not_mem_nil, or_false] at hn
    subst hn
    exact ⟨0, 58, _, by kernel_rfl, by kernel_rfl, Tryd.underlying58⟩) hV1
  obtain ⟨x0, y0, rfl, _, hV2⟩ := vars_cons hV1
  obtain ⟨rfl, _⟩ := trodVars_none hV2
  obtain ⟨a0, len0, cap0, rfl⟩ := okWide_slice Tryd.underlying22 (hval 0 22 v0 rfl rfl)
  have k0 := h0
  have lt0 : ∀ x ∈ p0, x.block < W.heap.size := by obtain ⟨m, hm⟩ := k0; exact DataW.trod_lt m _ _ _ hm
  obtain ⟨z0, w0⟩ : ∃ zs, IsRow .u8 W a0 len0 cap0 zs := by
    obtain ⟨fuel, hf⟩ := h0
    exact isRow_of Tryd.underlying22 Tryd.underlying5 (by kernel_rfl) hf
  clear hA0 hval0
  refine (walk a0 len0 cap0 z0 W w0 (key_of_laid (by rw [MakeChecks.laidMetH_plain _ _ _ (by kernel_rfl)] at hL; exact hL))).mono fun e W' ⟨he, bel⟩ => ?_
  subst he
  exact ⟨_, rfl, _, _, _, [], _, _, hW', trodAll_mk1 (shut_bool Tryd.underlying4 _), (trodAll_cons_mk (Below.trod laidOut (by kernel_rfl) (of_decide_eq_true (by kernel_rfl)) k0 bel lt0) trodAll_mk0), hvars W' bel _, bel.frame _, fun h => by cases h⟩

theorem over : Rows.fnCertificatesRow.holds Tryd.pinned (OpenSpec.ofChange Rows.fnCertificatesSpec) :=
  OpenClaim.holds_of_wide 3 Tryd.f3 rfl rfl rfl rfl rfl rfl rfl ⟨rfl, rfl, rfl, rfl, rfl⟩ rfl rfl rfl rfl rfl (by kernel_rfl) Tryd.func3 (by kernel_rfl)
    (of_decide_eq_true (by kernel_rfl)) (by unfold Func.isWrapper; first | (rw [if_pos (by decide +kernel)]; kernel_rfl) | (rw [if_neg (by decide +kernel)]; exact ⟨rfl, rfl⟩))
    (fun os started H enc _ => lifted os started H enc)

/-- for every input, what was issued is checked as good for its span only, and nothing that was changed. -/
theorem proved : Rows.FnCertificatesCardSaid :=
  Claim7.holds_tied_plain_at .later [] [.sentinel] true (true, "98fd4452d9775846732dd5ba99897c99d0fbc07de95ba17c6f52e55509e5d5a5") true
    over (fun _ h => by cases h) (by kernel_rfl) (fun _ h => by cases h) fnCertificates_row_tie rfl ⟨rfl, rfl⟩ (by kernel_rfl) rfl
    (fun f fn hf hfn => by
      obtain rfl : f = 3 := Option.some.inj ((show Tryd.prog.funcNamed "loop.example/g00594/laws.FnCertificates" = some 3 by kernel_rfl).symm.trans hf) |>.symm
      obtain rfl : fn = Tryd.f3 := (Option.some.inj (Tryd.func3.symm.trans hfn)).symm
      exact ⟨by kernel_rfl, fun j t ht => by
      rw [Tryd.params3] at ht
      have hm : t ∈ [22] := by simpa using Array.mem_of_getElem? ht
      have hall : ([22].all fun u => !Tryd.prog.wantsStandIn u) = true := by kernel_rfl
      exact (show Tryd.prog.wantsStandIn t = false by simpa using List.all_eq_true.1 hall t hm)⟩)
    (by kernel_rfl)
#print axioms proved
end Go.Proofs.YtkbeejnikmegmaaDoor.fnCertificates
