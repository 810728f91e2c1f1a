/- Roles (chapter 14): contracts of the landed functions: what is reached from roles (a loop that is begun again by a labelled continue). No condition but the bounds of what came in. -/
import Derived.Test.YtmgigjpkpeamjaaGreatMRoleI
import Derived.Test.YtmgigjpkpeamjaaGreatMDraw14
import Derived.Test.YtmgigjpkpeamjaaGreatMRowA
import Derived.Deep.LoopGhost
import Derived.Laws.Tables
import Derived.Deep.DeepCutAuto
import Derived.Outline
import Derived.LoopTactic
namespace Go.Proofs.YtmgigjpkpeamjaaGreat
open Go.ChangeShapes Go.WideShapes Go.ChangeAt Go.RowKit
set_option linter.unusedVariables false

theorem grows_start (l : List (Int × Int)) (vs : List Int) : Role.Grows l vs (Role.hasM Role.noM vs) :=
  ⟨fun a ha hr => (Role.hasM_iff _ _ _).2 (.inr ⟨ha, hr⟩), fun r hr => by
    rcases (Role.hasM_iff _ _ _).1 hr with h | ⟨h1, h2⟩
    · simp [Role.noM] at h
    · exact ⟨r, h1, h2, .refl⟩⟩
theorem boxed_cell {w W : World} {cs : Array Value} {T : TypeId} {v : Value} (hb : Below (w.alloc (.cells cs T)).heap.size (w.alloc (.cells cs T)) W) (k : Nat) (hk : cs[k]? = some v) : W.cell? ⟨w.heap.size, k, none⟩ = some v :=
  blk_cell (blk_keep (blk_new w T cs) hb (by simp)) k hk
/-- A set in a box of its own; nothing ahead of the box has turned. -/
structure Marked (T : TypeId) (w0 w : World) (F : Nat) (m : Role.Marks) : Prop where
  blk : w.heap[F]? = some (.cells (Role.arrM m) T)
  below : Below F w0 w
section
variable {T : TypeId} {w0 w w' : World} {F : Nat} {m : Role.Marks}
theorem Marked.lt (h : Marked T w0 w F m) : F < w.heap.size := blk_lt h.blk
theorem Marked.call (h : Marked T w0 w F m) (hb : Below w.heap.size w w') : Marked T w0 w' F m := ⟨blk_keep h.blk hb h.lt, h.below.trans (hb.mono (Nat.le_of_lt h.lt))⟩
theorem Marked.box (h : Marked T w0 w F m) (o : Obj) : Marked T w0 (w.alloc o) F m := h.call ((Below.refl _ _).alloc (Nat.le_refl _) o)
theorem Marked.cells (h : Marked T w0 w F m) :
    (w.cell? ⟨F, 0, none⟩ = some (.bool (m 0)) ∧ w.cell? ⟨F, 1, none⟩ = some (.bool (m 1)) ∧ w.cell? ⟨F, 2, none⟩ = some (.bool (m 2)) ∧ w.cell? ⟨F, 3, none⟩ = some (.bool (m 3)) ∧ w.cell? ⟨F, 4, none⟩ = some (.bool (m 4)) ∧ w.cell? ⟨F, 5, none⟩ = some (.bool (m 5))) ∧ (w.frozen? ⟨F, 0, none⟩ = false ∧ w.frozen? ⟨F, 1, none⟩ = false ∧ w.frozen? ⟨F, 2, none⟩ = false ∧ w.frozen? ⟨F, 3, none⟩ = false ∧ w.frozen? ⟨F, 4, none⟩ = false ∧ w.frozen? ⟨F, 5, none⟩ = false) := cls_6 h.blk
theorem Marked.store (h : Marked T w0 w F m) (n : Role.Marks) :
    Marked T w0 ((((((w.setCell ⟨F, 0, none⟩ (.bool (n 0))).setCell ⟨F, 1, none⟩ (.bool (n 1))).setCell ⟨F, 2, none⟩ (.bool (n 2))).setCell ⟨F, 3, none⟩ (.bool (n 3))).setCell ⟨F, 4, none⟩ (.bool (n 4))).setCell ⟨F, 5, none⟩ (.bool (n 5))) F n :=
  ⟨(stt_6 h.blk (.bool (n 0)) (.bool (n 1)) (.bool (n 2)) (.bool (n 3)) (.bool (n 4)) (.bool (n 5))).1,
    (((((h.below.setCell (p := ⟨F, 0, none⟩) (Nat.le_refl _) _).setCell (p := ⟨F, 1, none⟩) (Nat.le_refl _) _).setCell (p := ⟨F, 2, none⟩) (Nat.le_refl _) _).setCell (p := ⟨F, 3, none⟩) (Nat.le_refl _) _).setCell (p := ⟨F, 4, none⟩) (Nat.le_refl _) _).setCell (p := ⟨F, 5, none⟩) (Nat.le_refl _) _⟩
end
theorem build_roles (w : World) : (Instr.build 109 #[]).run Tryz.prog w = .ok (.agg #[.bool false, .bool false, .bool false, .bool false, .bool false, .bool false]) w := run_build w _ _ _ (by kernel_rfl)
theorem zero_roles : (∀ w, (zeroValue 109).run Tryz.prog w = .ok (.agg #[.bool false, .bool false, .bool false, .bool false, .bool false, .bool false]) w) ∧ (Tryz.prog.info? 109).map (·.size) = some 6 := zero_of_info (by kernel_rfl)
set_option maxHeartbeats 4000000 in
set_option maxRecDepth 100000 in
theorem impl_reachedFrom (w : World) (hi hi2 c c2 : Nat) (a a2 : Option Addr) (xs : List IncludesD) (vs : List Int) (h : RowIncludes w hi (.slice a xs.length c) xs) (hh : hi ≤ w.heap.size) (h' : RowI w hi2 (.slice a2 vs.length c2) vs) (hh' : hi2 ≤ w.heap.size) :
    Calls Tryz.prog 92 #[.slice a xs.length c, .slice a2 vs.length c2] w fun e w' => (∃ n : Role.Marks, n = Role.closedM (Role.prs xs) vs ∧ e = .returned (.agg #[.bool (n 0), .bool (n 1), .bool (n 2), .bool (n 3), .bool (n 4), .bool (n 5)])) ∧ Below w.heap.size w w' := by
  obtain ⟨f1, f2⟩ := h.fits
  unfold maxLen at f2
  obtain ⟨f3, f4⟩ := RowC.fits h'
  unfold maxLen at f4
  have H := Lib.hid h
  have H' := Lib.hid h'
  clear h h'
  obtain ⟨W, hW⟩ : ∃ W, W = (w.alloc (.cells #[.bool false, .bool false, .bool false, .bool false, .bool false, .bool false] 109)).alloc (.cells #[.bool false, .bool false, .bool false, .bool false, .bool false, .bool false] 109) := ⟨_, rfl⟩
  have hbW : Below w.heap.size w W := by rw [hW]; go_grown
  have hM0 : Marked 109 W W (w.heap.size + 1) Role.noM := ⟨by rw [hW]; exact blk_new_at _ _ (by simp), Below.refl _ _⟩
  have HR4 := Lib.hid (show W.heap[w.heap.size]? = some (.cells #[.bool false, .bool false, .bool false, .bool false, .bool false, .bool false] 109) by rw [hW]; exact blk_keep (C := w.heap.size + 1) (blk_new _ _ _) (by go_grown) (by omega))
  go_enter Tryz.func92, Tryz.ntmps92
  have hz0 := zero_roles.1
  have hz1 := build_roles
  go_wp2
  go_step3
  go_upto_region 2 with fail
  clear hz0 hz1
  rw [← hW]
  clear hW
  go_wp2
  go_loopw [13] (fun i wr => ∃ k : Nat, k ≤ vs.length ∧ i = .int .i64 (k : Int) ∧ Hid (Marked 109 W wr (w.heap.size + 1) (Role.hasM Role.noM (vs.take k)))) (fun i _ => vs.length - (intOf i).toNat)
  case atStart => exact ⟨0, Nat.zero_le _, rfl, Lib.hid hM0⟩
  case round =>
    clear hM0
    obtain ⟨k, hk, rfl, HM⟩ := hrel
    by_cases hlt : k < vs.length
    · obtain ⟨x, hx⟩ : ∃ x, vs[k]? = some x := ⟨_, List.getElem?_eq_getElem hlt⟩
      have HT := Lib.hid (Role.hasM_take Role.noM hx)
      generalize Role.hasM Role.noM (vs.take k) = m at HM HT
      obtain ⟨b, off, rfl, r1, r2, d0⟩ := rowI_at H'.out hx
      have hbw : Below w.heap.size w wr := hbW.trans (HM.out.below.mono (by omega))
      replace d0 := (hbw.cell (p := ⟨b, off + k, none⟩) r2).trans d0
      obtain ⟨⟨x0, x1, x2, x3, x4, x5⟩, -⟩ := HM.out.cells
      clear hx
      go_wp2_with fail
      refine (impl_withRole m x _).mono ?_
      rintro e u ⟨⟨n, hn, rfl⟩, b1⟩
      rw [← hn] at HT
      have HM2 := Lib.hid (HM.out.call b1)
      obtain ⟨⟨y0, y1, y2, y3, y4, y5⟩, z0, z1, z2, z3, z4, z5⟩ := HM2.out.cells
      have HM3 := Lib.hid (HM2.out.store n)
      clear x0 x1 x2 x3 x4 x5 hn d0
      go_wp2
      refine ⟨⟨k + 1, by omega, by go_num, ?_⟩, by simp only [intOf]; omega⟩
      rw [HT.out]
      exact HM3
    · obtain hk6 : k = vs.length := by omega
      have HM2 := Lib.hid (show Marked 109 W wr (w.heap.size + 1) (Role.hasM Role.noM vs) by have h7 := HM.out; rwa [hk6, List.take_of_length_le (Nat.le_refl _)] at h7)
      have HG := Lib.hid (grows_start (Role.prs xs) vs)
      generalize Role.hasM Role.noM vs = m0 at HM2 HG
      clear HM hk6
      go_wp2
      go_step3
      go_wp2
      go_loopg [23] (6 - Role.cnt m0) (fun g i wr => ∃ m : Role.Marks, g = 6 - Role.cnt m ∧ Hid (Marked 109 W wr (w.heap.size + 1) m) ∧ Hid (Role.Grows (Role.prs xs) vs m))
      case atStart => exact ⟨m0, rfl, HM2, HG⟩
      case round =>
        clear HM2 HG
        obtain ⟨m, hgk, HM, HG⟩ := hrel
        have HGK := Lib.hid hgk
        clear hgk
        obtain ⟨wo, hwo⟩ : ∃ wo : World, wo = wr := ⟨_, rfl⟩
        subst hwo
        go_wp2
        go_loopg [23] xs.length (fun g i wr => ∃ (k : Nat), k ≤ xs.length ∧ g = xs.length - k ∧ i = .int .i64 (k : Int) ∧ Hid (Marked 109 W wr (w.heap.size + 1) m) ∧ Hid (Role.doneTo (Role.prs xs) m k))
        case atStart => exact ⟨0, Nat.zero_le _, rfl, rfl, HM, Lib.hid (Role.done_zero _ _)⟩
        case round =>
          clear HM wo
          obtain ⟨k, hk, hg2, rfl, HM, HD⟩ := hrel
          have HG2 := Lib.hid hg2
          clear hg2
          by_cases hlt : k < xs.length
          · obtain ⟨x, hx⟩ : ∃ x, xs[k]? = some x := ⟨_, List.getElem?_eq_getElem hlt⟩
            have HDN := Lib.hid (fun hn => Role.done_succ HD.out hx hn)
            have HPR := Lib.hid (Role.prs_mem hx)
            obtain ⟨p0, p1⟩ := x
            obtain ⟨b, off, rfl, r1, r2, HC⟩ := H.out.at hx
            have hbw : Below w.heap.size w wr := hbW.trans (HM.out.below.mono (by omega))
            obtain ⟨c0, c1⟩ := HC _ _ r2 hbw
            clear HC hx
            dsimp only at HDN HPR
            have HM1 := Lib.hid (HM.out.box (.cells #[.int .i64 p0, .int .i64 p1] 88))
            obtain ⟨v1, hv1⟩ : ∃ v1, Role.okP (p0, p1) = v1 := ⟨_, rfl⟩
            have HO := Lib.hid (fun W => hv1 ▸ impl_isOfRoles p0 p1 W)
            have HV1 := Lib.hid hv1
            clear hv1
            go_wp2_with fail
            refine (HO.out _).mono ?_
            rintro e u ⟨rfl, b1⟩
            have HM2 := Lib.hid (HM1.out.call b1)
            cases v1
            · have HD2 := Lib.hid (HDN.out fun ho => by rw [HV1.out] at ho; cases ho)
              go_wp2
              go_roundg (xs.length - (k + 1))
              case measure => have := HG2.out; omega
              case rel => exact ⟨k + 1, by omega, rfl, by go_num, HM2, HD2⟩
            · have HIN := Lib.hid (show Role.inR p0 = true ∧ Role.inR p1 = true by have h := HV1.out; unfold Role.okP at h; rwa [Bool.and_eq_true] at h)
              obtain ⟨v2, hv2⟩ : ∃ v2, (Role.inR p0 && m p0) = v2 := ⟨_, rfl⟩
              have HH := Lib.hid (fun W => hv2 ▸ impl_has m p0 W)
              have HV2 := Lib.hid (show m p0 = v2 by rw [← hv2, HIN.out.1, Bool.true_and])
              clear hv2
              have k0 := boxed_cell b1 0 rfl
              have k1 := boxed_cell b1 1 rfl
              obtain ⟨⟨x0, x1, x2, x3, x4, x5⟩, -⟩ := HM2.out.cells
              clear c0 c1
              go_wp2_with fail
              refine (HH.out _).mono ?_
              rintro e u2 ⟨rfl, b2⟩
              have HM3 := Lib.hid (HM2.out.call b2)
              clear x0 x1 x2 x3 x4 x5
              cases v2
              · have HD2 := Lib.hid (HDN.out fun _ ho => by rw [HV2.out] at ho; cases ho)
                go_wp2
                go_roundg (xs.length - (k + 1))
                case measure => have := HG2.out; omega
                case rel => exact ⟨k + 1, by omega, rfl, by go_num, HM3, HD2⟩
              · obtain ⟨v3, hv3⟩ : ∃ v3, (!(Role.inR p1 && m p1)) = v3 := ⟨_, rfl⟩
                have HL := Lib.hid (fun W => hv3 ▸ impl_lacks m p1 W)
                have HV3 := Lib.hid (show m p1 = !v3 by rw [← hv3, HIN.out.2, Bool.true_and, Bool.not_not])
                clear hv3 k0 k1
                have b12 := b1.trans (b2.mono b1.size)
                have k0 := boxed_cell b12 0 rfl
                have k1 := boxed_cell b12 1 rfl
                obtain ⟨⟨x0, x1, x2, x3, x4, x5⟩, -⟩ := HM3.out.cells
                go_wp2_with fail
                refine (HL.out _).mono ?_
                rintro e u3 ⟨rfl, b3⟩
                have HM4 := Lib.hid (HM3.out.call b3)
                clear x0 x1 x2 x3 x4 x5
                cases v3
                · have HD2 := Lib.hid (HDN.out fun _ _ => HV3.out)
                  go_wp2
                  go_roundg (xs.length - (k + 1))
                  case measure => have := HG2.out; omega
                  case rel => exact ⟨k + 1, by omega, rfl, by go_num, HM4, HD2⟩
                · have b13 := b12.trans (b3.mono b12.size)
                  clear k0 k1
                  have k0 := boxed_cell b13 0 rfl
                  have k1 := boxed_cell b13 1 rfl
                  obtain ⟨⟨x0, x1, x2, x3, x4, x5⟩, -⟩ := HM4.out.cells
                  go_wp2_with fail
                  refine (impl_withRole m p1 _).mono ?_
                  rintro e u4 ⟨⟨n, hn, rfl⟩, b4⟩
                  have HN := Lib.hid hn
                  have HM5 := Lib.hid (HM4.out.call b4)
                  clear x0 x1 x2 x3 x4 x5 hn
                  obtain ⟨⟨x0, x1, x2, x3, x4, x5⟩, z0, z1, z2, z3, z4, z5⟩ := HM5.out.cells
                  have HM6 := Lib.hid (HM5.out.store n)
                  have HC1 := Lib.hid (show Role.cnt m < Role.cnt n by rw [HN.out]; exact Role.cnt_with HIN.out.2 (by rw [HV3.out]; rfl))
                  have HG6 := Lib.hid (show Role.Grows (Role.prs xs) vs n by rw [HN.out]; exact HG.out.step HPR.out HIN.out.1 HIN.out.2 (by rw [HV2.out]))
                  go_wp2
                  go_roundg (6 - Role.cnt n)
                  case measure =>
                    have h1 := HGK.out
                    have h2 := HC1.out
                    have h3 := Role.cnt_six n
                    omega
                  case rel => exact ⟨n, rfl, HM6, HG6⟩
          · obtain hk6 : k = xs.length := by omega
            have HE := Lib.hid (show m = Role.closedM (Role.prs xs) vs from HG.out.done (Role.done_all (by rw [← hk6]; exact HD.out)))
            clear hk6
            obtain ⟨⟨x0, x1, x2, x3, x4, x5⟩, -⟩ := HM.out.cells
            have HZ4 := Lib.hid (blk_keep HR4.out HM.out.below (by omega))
            obtain ⟨⟨y0, y1, y2, y3, y4, y5⟩, z0, z1, z2, z3, z4, z5⟩ := cls_6 HZ4.out
            have hbw : Below w.heap.size w wr := hbW.trans (HM.out.below.mono (by omega))
            go_wp2
            try rw [Exit.noGoto_ret]
            have HS := (stt_6 HZ4.out (.bool (m 0)) (.bool (m 1)) (.bool (m 2)) (.bool (m 3)) (.bool (m 4)) (.bool (m 5))).1
            have HBF := (((((hbw.setCell (p := ⟨w.heap.size, 0, none⟩) (Nat.le_refl _) (.bool (m 0))).setCell (p := ⟨w.heap.size, 1, none⟩) (Nat.le_refl _) (.bool (m 1))).setCell (p := ⟨w.heap.size, 2, none⟩) (Nat.le_refl _) (.bool (m 2))).setCell (p := ⟨w.heap.size, 3, none⟩) (Nat.le_refl _) (.bool (m 3))).setCell (p := ⟨w.heap.size, 4, none⟩) (Nat.le_refl _) (.bool (m 4))).setCell (p := ⟨w.heap.size, 5, none⟩) (Nat.le_refl _) (.bool (m 5))
            generalize ((((((wr.setCell ⟨w.heap.size, 0, none⟩ (.bool (m 0))).setCell ⟨w.heap.size, 1, none⟩ (.bool (m 1))).setCell ⟨w.heap.size, 2, none⟩ (.bool (m 2))).setCell ⟨w.heap.size, 3, none⟩ (.bool (m 3))).setCell ⟨w.heap.size, 4, none⟩ (.bool (m 4))).setCell ⟨w.heap.size, 5, none⟩ (.bool (m 5))) = WF at HS HBF ⊢
            obtain ⟨⟨q0, q1, q2, q3, q4, q5⟩, -⟩ := cls_6 HS
            exact bodyPost_ret (v := .agg #[.bool (m 0), .bool (m 1), .bool (m 2), .bool (m 3), .bool (m 4), .bool (m 5)]) (by simp [results, Tryz.results92, go_sem, q0, q1, q2, q3, q4, q5]) rfl ⟨⟨m, HE.out, rfl⟩, HBF⟩
end Go.Proofs.YtmgigjpkpeamjaaGreat
