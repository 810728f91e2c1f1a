/-
  Proved here: for every input, what enough issuers state is accepted until the first of the times at which too few do.
  Conditions: those that the given row itself prints; none of our own.
-/
import Derived.Test.YtefcihpghjlobaaMany
import Derived.Test.YtefcihpghjlobaaManyI
import Derived.Test.YtefcihpghjlobaaRowO
import Derived.Test.YtefcihpghjlobaaMix
import Derived.Test.YtefcihpghjlobaaIntSl
import Derived.Test.YtefcihpghjlobaaAbs
import Derived.Test.YtefcihpghjlobaaFactS
import Derived.Test.YtefcihpghjlobaaDraw9
import Derived.Test.YtefcihpghjlobaaBlk
import Derived.WalkKit
import Derived.ProofKit
import Derived.OpenShut
import Derived.ShutString
import Derived.ChangeOld
import Derived.Below
import Derived.WalkLawsBesides
import Derived.WalkSpells
import Derived.LoopTactic
import Derived.Lib.Hide
import Derived.Deep.DeepCutAuto
import Derived.Handy
import Derived.Deep.RegionHeld3
namespace Go.Proofs.Ytefcihpghjlobaa.fnAgreement
open Go.ChangeShapes Go.WideShapes Go.ChangeAt Go.RowKit
open Go.ChangeMaps (open_string shut_string)
set_option linter.unusedVariables false

theorem own : ownKnob Try.prog.godebug = none := by kernel_rfl
theorem laidOut : laidOutB Try.prog = true := by kernel_rfl

set_option maxHeartbeats 16000000 in
set_option maxRecDepth 100000 in
theorem walk (a0 : Option Addr) (len0 cap0 : Nat) (z0 : List Int) (w : World) (w0 : IsRow .u8 w a0 len0 cap0 z0) :
    Calls Try.prog 3 #[.slice a0 len0 cap0] w fun e w' => e = .returned (.bool true) ∧ Below w.heap.size w w' := by
  by_cases hbig : (len0 : Int) ≤ 1048576
  · go_enter Try.func3, Try.ntmps3
    go_wp2_with (go_at_call 8; go_in)
    refine (draw_acceptedUntil w a0 len0 cap0 z0 w0).mono ?_
    rintro e w1 ⟨U, xs, k, s, v, now, age, least, rfl, hxl, hrow, hb1⟩
    obtain ⟨_, A, cp, rfl, _⟩ := id hrow
    have HR := Lib.hid hrow
    clear hrow
    obtain ⟨T, hT⟩ : ∃ T, untilS xs k s v now age least = T := ⟨_, rfl⟩
    obtain ⟨L, hL⟩ : ∃ L, whoS xs k s v now age = L := ⟨_, rfl⟩
    obtain ⟨q, hq⟩ : ∃ q, decide (isT now) = q := ⟨_, rfl⟩
    obtain ⟨r, hr⟩ : ∃ r, accB xs k s v now age least = r := ⟨_, rfl⟩
    have HT := Lib.hid hT
    have HU := Lib.hid (hT ▸ untilS_spec xs k s v now age least)
    have HLA := Lib.hid (hL ▸ whoS_asc xs k s v now age)
    have HQ := Lib.hid hq
    have HAR := Lib.hid hr
    have hLl : L.length ≤ 10 := hL ▸ whoS_le xs k s v now age
    have HRL := Lib.hid (show decide (least ≤ (L.length : Int)) = r by rw [← hr, ← hL]; rfl)
    have CW := Lib.hid (fun W (hb : Below w1.heap.size w1 W) => show Calls Try.prog 11 #[.slice A xs.length cp, .int .i64 k, .int .i64 s, .int .i64 v, .int .i64 now, .int .i64 age] W fun e w' => ∃ u, e = .returned u ∧ Own 3 .i64 w' W.heap.size w'.heap.size u L ∧ Below W.heap.size W w' from hL ▸ impl_whoState W w1.heap.size cp A xs k s v now age (HR.out.below hb (Nat.le_refl _)) hb.size (by omega))
    have CA := Lib.hid (fun W (hb : Below w1.heap.size w1 W) (t : Int) (b : Bool) (h : accB xs k s v t age least = b) => as_bool (w := w1) (impl_isAccepted W w1.heap.size cp A xs k s v t age least (HR.out.below hb (Nat.le_refl _)) hb.size (by omega)) hb h)
    have CU := Lib.hid (as_int (w := w1) (impl_acceptedUntil w1 w1.heap.size cp A xs k s v now age least HR.out (Nat.le_refl _) (by omega)) (Below.refl _ _) hT)
    clear hT hL hq hr
    go_wp2_with fail
    refine CU.out.mono ?_
    rintro e w2 ⟨rfl, c2⟩
    go_wp2_with fail
    refine (CW.out w2 c2).mono ?_
    rintro e w3 ⟨V, rfl, hown, b3⟩
    have c3 := c2.trans (b3.mono c2.size)
    clear c2 b3
    obtain ⟨⟨B0, cq, rfl, _, hcq, _, hcells⟩, _⟩ := hown.read
    unfold maxLen at hcq
    have HC := Lib.hid hcells
    clear hown hcells
    go_wp2
    go_loopw [12] (fun i wr => ∃ j m : Nat, 1 ≤ j ∧ (j ≤ L.length ∨ j = 1) ∧ i = .int .i64 (j : Int) ∧ wr = w3.drewN m) (fun i _ => 12 - (intOf i).toNat)
    case atStart => exact ⟨1, 0, Nat.le_refl _, .inr rfl, rfl, rfl⟩
    case round =>
      obtain ⟨j, m, hj1, hj, rfl, rfl⟩ := hrel
      by_cases hlt : j < L.length
      · obtain ⟨b, off, rfl, p1, p2, p3⟩ := HC.out (by omega)
        obtain ⟨i, rfl⟩ : ∃ i, j = i + 1 := ⟨j - 1, by omega⟩
        have hx := p3 i (by omega)
        have hy := p3 (i + 1) hlt
        rw [show L.getD i 0 = L[i] by simp [List.getD, show i < L.length by omega]] at hx
        rw [show L.getD (i + 1) 0 = L[i + 1] by simp [List.getD, hlt]] at hy
        have hxy := List.pairwise_iff_getElem.1 HLA.out i (i + 1) (by omega) hlt (by omega)
        generalize L[i] = x at hx hxy
        generalize L[i + 1] = y at hy hxy
        have hji : ((i + 1 : Nat) : Int) - 1 = (i : Int) := by omega
        clear p3
        go_wp2
        go_quiet (fail)
        go_wp2
        refine ⟨⟨i + 2, _, by omega, by omega, by go_num, by first | rfl | exact drewN_add _ _ _⟩, by simp only [intOf]; omega⟩
      · clear hj
        have c4 : Below w1.heap.size w1 (w3.drewN m) := bDrew c3 m
        generalize w3.drewN m = w4 at c4
        clear c3 HC
        go_upto_region 11 with fail
        go_cut [102] (fun c wx => c = .bool false ∧ Hid (Below w1.heap.size w1 wx))
        case first =>
          rcases HU.out with ⟨rfl, _⟩ | ⟨⟨n0, n1⟩, hacc, t0, t1, hacc2, hacc3⟩
          · go_wp2
            go_meet
            exact ⟨rfl, Lib.hid c4⟩
          · have HA1 := Lib.hid hacc
            have HA2 := Lib.hid hacc2
            have HA3 := Lib.hid hacc3
            clear hacc hacc2 hacc3
            by_cases hlt2 : T < 10000
            · go_wp2_with fail
              refine (CA.out _ c4 _ _ HA1.out).mono ?_
              rintro e w5 ⟨rfl, c5⟩
              go_wp2_with fail
              refine (CA.out _ c5 _ _ HA2.out).mono ?_
              rintro e w6 ⟨rfl, c6⟩
              go_wp2_with fail
              refine (CA.out _ c6 _ _ (HA3.out hlt2)).mono ?_
              rintro e w7 ⟨rfl, c7⟩
              go_wp2
              go_meet
              exact ⟨by rw [decide_eq_false (show ¬ T < now by omega)], Lib.hid c7⟩
            · go_wp2_with fail
              refine (CA.out _ c4 _ _ HA1.out).mono ?_
              rintro e w5 ⟨rfl, c5⟩
              go_wp2_with fail
              refine (CA.out _ c5 _ _ HA2.out).mono ?_
              rintro e w6 ⟨rfl, c6⟩
              go_wp2
              go_meet
              exact ⟨by rw [decide_eq_false (show ¬ T < now by omega)], Lib.hid c6⟩
        case rest =>
          obtain ⟨rfl, hcut⟩ := hcut
          have c5 := hcut.out
          clear hcut c4
          go_wp2_with fail
          refine (draw_lastOf _ a0 len0 cap0 z0 (w0.below (hb1.trans (c5.mono hb1.size)))).mono ?_
          rintro e w6 ⟨⟨g0, g1, g2, g3, g4, g5⟩, ag, rfl, b6⟩
          rw [FactD.val_mk]
          have d6 := (hb1.trans (c5.mono hb1.size)).trans (b6.mono (hb1.trans (c5.mono hb1.size)).size)
          clear b6 c5
          obtain ⟨W7, hW7⟩ : ∃ W : World, W = w6.alloc (.cells #[.int .i64 g0, .int .i64 g1, .int .i64 g2, .int .i64 g3, .int .i64 g4, .int .i64 g5] 32) := ⟨_, rfl⟩
          have hk : W7.heap[w6.heap.size]? = some (.cells #[.int .i64 g0, .int .i64 g1, .int .i64 g2, .int .i64 g3, .int .i64 g4, .int .i64 g5] 32) := by rw [hW7]; exact blk_new _ _ _
          have hz7 : w6.heap.size < W7.heap.size := by rw [hW7]; simp
          have d7 : Below w.heap.size w W7 := by rw [hW7]; exact d6.alloc d6.size _
          have HK := Lib.hid (fun (W : World) (hb : Below W7.heap.size W7 W) => (⟨blk_cell (blk_keep hk hb hz7) 0 rfl, blk_cell (blk_keep hk hb hz7) 1 rfl, blk_cell (blk_keep hk hb hz7) 2 rfl, blk_cell (blk_keep hk hb hz7) 3 rfl, blk_cell (blk_keep hk hb hz7) 4 rfl, blk_cell (blk_keep hk hb hz7) 5 rfl⟩ :
            W.cell? ⟨w6.heap.size, 0, none⟩ = some (.int .i64 g0) ∧ W.cell? ⟨w6.heap.size, 1, none⟩ = some (.int .i64 g1) ∧ W.cell? ⟨w6.heap.size, 2, none⟩ = some (.int .i64 g2) ∧ W.cell? ⟨w6.heap.size, 3, none⟩ = some (.int .i64 g3) ∧ W.cell? ⟨w6.heap.size, 4, none⟩ = some (.int .i64 g4) ∧ W.cell? ⟨w6.heap.size, 5, none⟩ = some (.int .i64 g5)))
          obtain ⟨l, hl⟩ : ∃ l, lastF ⟨g0, g1, g2, g3, g4, g5⟩ ag = l := ⟨_, rfl⟩
          have HS := Lib.hid (hl ▸ lastF_spec ⟨g0, g1, g2, g3, g4, g5⟩ ag)
          have CL := Lib.hid (fun W => show Calls Try.prog 14 #[FactD.val ⟨g0, g1, g2, g3, g4, g5⟩, .int .i64 ag] W fun e w' => e = .returned (.int .i64 l) ∧ Below W.heap.size W w' from hl ▸ impl_lastOf ⟨g0, g1, g2, g3, g4, g5⟩ ag W)
          have CH := Lib.hid (fun W (n : Int) (b : Bool) (h : holdsB ⟨g0, g1, g2, g3, g4, g5⟩ n ag = b) => show Calls Try.prog 15 #[FactD.val ⟨g0, g1, g2, g3, g4, g5⟩, .int .i64 n, .int .i64 ag] W fun e w' => e = .returned (.bool b) ∧ Below W.heap.size W w' from h ▸ impl_holds ⟨g0, g1, g2, g3, g4, g5⟩ n ag W)
          rw [FactD.val_mk] at CL
          simp only [FactD.val_mk] at CH
          go_upto_region 14 with fail
          rw [← hW7]
          clear hW7 hk hl d6
          obtain ⟨x0, x1, x2, x3, x4, x5⟩ := HK.out _ (Below.refl _ _)
          go_wp2_with fail
          refine (CL.out _).mono ?_
          rintro e w8 ⟨rfl, b8⟩
          have d8 := d7.trans (b8.mono d7.size)
          clear x0 x1 x2 x3 x4 x5
          obtain ⟨x0, x1, x2, x3, x4, x5⟩ := HK.out _ b8
          go_upto_region 15 with fail
          go_cut [136] (fun c wx => c = .bool false ∧ Hid (Below w.heap.size w wx))
          case first =>
            by_cases l0 : 0 ≤ l
            · by_cases l1 : g4 ≤ l
              · obtain ⟨hh1, hh2⟩ := HS.out l0 l1
                have HH1 := Lib.hid hh1
                have HH2 := Lib.hid hh2
                clear hh1 hh2
                by_cases l2 : l < 10000
                · go_wp2_with fail
                  refine (CH.out _ _ _ HH1.out).mono ?_
                  rintro e w9 ⟨rfl, b9⟩
                  have d9 := d8.trans (b9.mono d8.size)
                  have b9' := b8.trans (b9.mono b8.size)
                  clear x0 x1 x2 x3 x4 x5
                  obtain ⟨x0, x1, x2, x3, x4, x5⟩ := HK.out _ b9'
                  go_wp2_with fail
                  refine (CH.out _ _ _ (HH2.out l2)).mono ?_
                  rintro e w10 ⟨rfl, b10⟩
                  have d10 := d9.trans (b10.mono d9.size)
                  go_wp2
                  go_meet
                  exact ⟨rfl, Lib.hid d10⟩
                · go_wp2_with fail
                  refine (CH.out _ _ _ HH1.out).mono ?_
                  rintro e w9 ⟨rfl, b9⟩
                  have d9 := d8.trans (b9.mono d8.size)
                  go_wp2
                  go_meet
                  exact ⟨rfl, Lib.hid d9⟩
              · go_wp2
                go_meet
                exact ⟨rfl, Lib.hid d8⟩
            · go_wp2
              go_meet
              exact ⟨rfl, Lib.hid d8⟩
          case rest =>
            obtain ⟨rfl, hcut⟩ := hcut
            have d9 := hcut.out
            clear hcut d8 d7 x0 x1 x2 x3 x4 x5 b8
            have CT := Lib.hid (fun W => isTime_is now W q HQ.out)
            go_wp2_with fail
            refine (CT.out _).mono ?_
            rintro e w11 ⟨rfl, b11⟩
            have d11 := d9.trans (b11.mono d9.size)
            rcases HU.out with ⟨rfl, hno⟩ | ⟨hn, hacc, t0, t1, _, _⟩
            · cases q
              · go_wp2
                go_ret
                exact ⟨rfl, d11⟩
              · have hle : ¬ least ≤ (L.length : Int) := by
                  have h7 := HRL.out
                  cases r
                  · exact of_decide_eq_false h7
                  · exact absurd ⟨of_decide_eq_true HQ.out, HAR.out⟩ hno
                clear hno
                go_wp2
                go_ret
                exact ⟨ret_b (by rw [decide_eq_false (show ¬ least ≤ (L.length : Int) by omega)]; rfl), d11⟩
            · obtain rfl : q = true := HQ.out.symm.trans (decide_eq_true hn)
              have hle : least ≤ (L.length : Int) := of_decide_eq_true (HRL.out.trans (HAR.out.symm.trans hacc))
              obtain ⟨n0, n1⟩ := hn
              have hT0 : 0 ≤ T := by omega
              clear hacc
              go_wp2
              go_ret
              exact ⟨rfl, d11⟩
  · go_enter Try.func3, Try.ntmps3
    go_wp2_with (go_at_call 8; go_in)
    go_ret
    exact ⟨rfl, Below.refl _ _⟩

set_option maxRecDepth 100000 in
theorem lifted (os : Os) (started : os.Started) (H : Type) (enc : TypeId × Value → H) :
    ReturnsInHanded {} Try.checked os 3 .any (Rows.fnAgreementSpec.pre6 enc Try.prog Try.f3 Rows.fnAgreementRow.domain false) (Rows.fnAgreementSpec.post enc Try.prog Try.f3 false true false false) := by
  refine returnsInHanded_of_change (C := Try.checked) own started (by kernel_rfl) Try.func3
    (ChangeSpec.witness6 (enc := enc) (C := Try.checked) false ⟨#[], #[.slice none 0 0], []⟩ 8 (by kernel_rfl) (by kernel_rfl) (by kernel_rfl) (by kernel_rfl)) ?_
  intro W base args ds gs before hval0 hW hcnd _
  have hval : ∀ (j : Nat) t v, Try.f3.params[j]? = some t → args[j]? = some v → Value.okWide Try.prog W .any base t v := hval0
  have hW' := hW
  obtain ⟨p, q, hA0, hV, rfl, hfz, hnd⟩ := hW
  have hA : DataW.TrodAll enc Try.prog W 0 (fun _ => true) true Try.f3.params.toList args.toList ds p := hA0
  rw [Try.params3] at hA hval
  obtain ⟨v0, vs0, d0, ds0, p0, q0, hargs, rfl, rfl, h0, r0⟩ := trodAll_cons hA
  obtain ⟨rfl, rfl, rfl⟩ := trodAll_nil r0
  obtain rfl : args = #[v0] := by cases args; simp_all
  obtain ⟨rfl, rfl⟩ := trodVars_none hV
  obtain ⟨a0, len0, cap0, rfl⟩ := okWide_slice Try.underlying22 (hval 0 22 v0 rfl rfl)
  have k0 := h0
  have lt0 : ∀ x ∈ p0, x.block < W.heap.size := by obtain ⟨m, hm⟩ := k0; exact DataW.trod_lt m _ _ _ hm
  obtain ⟨z0, w0⟩ : ∃ zs, IsRow .u8 W a0 len0 cap0 zs := by
    obtain ⟨fuel, hf⟩ := h0
    exact isRow_of Try.underlying22 Try.underlying5 (by kernel_rfl) hf
  clear hA0 hval0
  refine (walk a0 len0 cap0 z0 W w0).mono fun e W' ⟨he, bel⟩ => ?_
  subst he
  exact ⟨_, rfl, _, _, _, [], _, [], hW', trodAll_mk1 (shut_bool Try.underlying4 _), (trodAll_cons_mk (Below.trod laidOut (by kernel_rfl) (of_decide_eq_true (by kernel_rfl)) k0 bel lt0) trodAll_mk0), rfl, bel.frame _, fun h => by cases h⟩

theorem over : Rows.fnAgreementRow.holds Try.pinned (OpenSpec.ofChange Rows.fnAgreementSpec) :=
  OpenClaim.holds_of_wide 3 Try.f3 rfl rfl rfl rfl rfl rfl rfl ⟨rfl, rfl, rfl, rfl, rfl⟩ rfl rfl rfl rfl rfl (by kernel_rfl) Try.func3 (by kernel_rfl)
    (of_decide_eq_true (by kernel_rfl)) (by unfold Func.isWrapper; first | (rw [if_pos (by decide +kernel)]; kernel_rfl) | (rw [if_neg (by decide +kernel)]; exact ⟨rfl, rfl⟩))
    (fun os started H enc _ => lifted os started H enc)

/-- for every input, what enough issuers state is accepted until the first of the times at which too few do. -/
theorem proved : Rows.FnAgreementSaid := over
#print axioms proved
end Go.Proofs.Ytefcihpghjlobaa.fnAgreement
