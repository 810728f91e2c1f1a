/-
  Proved here: for every input, revocations are never forgotten, and the earliest time counts.
  Conditions: those that the given row itself prints; none of our own.
-/
import Derived.Test.YtjfmmingkciapaaDraw11
import Derived.Test.YtjfmmingkciapaaRevO
import Derived.Test.YtjfmmingkciapaaRev4
import Derived.Test.YtjfmmingkciapaaRev2
import Derived.Test.YtjfmmingkciapaaRowO
import Derived.Test.YtjfmmingkciapaaAbs
import Derived.WalkKit
import Derived.ProofKit
import Derived.OpenShut
import Derived.ShutString
import Derived.ChangeOld
import Derived.Below
import Derived.WalkLawsBesides
import Derived.WalkSpells
import Derived.LoopTactic
import Derived.Lib.Hide
import Derived.Deep.DeepCutAuto
import Derived.Handy
import Derived.Deep.RegionHeld3
namespace Go.Proofs.Ytjfmmingkciapaa.fnRevocation
open Go.ChangeShapes Go.WideShapes Go.ChangeAt Go.RowKit
open Go.ChangeMaps (open_string shut_string)
set_option linter.unusedVariables false

theorem own : ownKnob Try.prog.godebug = none := by kernel_rfl
theorem laidOut : laidOutB Try.prog = true := by kernel_rfl

set_option maxHeartbeats 16000000 in
set_option maxRecDepth 100000 in
theorem walk (a0 : Option Addr) (len0 cap0 : Nat) (z0 : List Int) (w : World) (w0 : IsRow .u8 w a0 len0 cap0 z0) :
    Calls Try.prog 4 #[.slice a0 len0 cap0] w fun e w' => e = .returned (.bool true) ∧ Below w.heap.size w w' := by
  by_cases hbig : (len0 : Int) ≤ 1048576
  · go_enter Try.func4, Try.ntmps4
    go_wp2_with (go_at_call 12; go_in)
    refine (draw_addRevoked w a0 len0 cap0 z0 w0).mono ?_
    rintro e w1 ⟨U, xs, s, t, hs, ht, rfl, hst, hb1⟩
    obtain ⟨_, A, cp, rfl, _⟩ := id hst.2
    have hxl := revB_len hst.1
    have HR := Lib.hid hst.2
    have HWF := Lib.hid (revB_wf hst.1)
    have HSW := Lib.hid (wf_i64 hs.1 hs.2)
    have HTW := Lib.hid (wf_i64 ht.1 ht.2)
    have CADD := Lib.hid (impl_addRevoked w1 w1.heap.size cp A xs s t HR.out (Nat.le_refl _) (by omega) HSW.out)
    have HADD := Lib.hid (fun h => added (l := xs) (s := s) (t := t) h)
    obtain ⟨X, hX⟩ : ∃ X, addF xs s t = X := ⟨_, rfl⟩
    rw [hX] at CADD HADD
    clear hX hst hs ht
    obtain ⟨G, ok⟩ := X
    dsimp only at CADD HADD
    go_wp2_with fail
    refine CADD.out.mono ?_
    rintro e w2 ⟨v, rfl, o2, b2⟩
    have HRG := Lib.hid o2.read
    obtain ⟨_, AG, cg, rfl, -⟩ := id o2.read
    clear o2 CADD
    go_upto_region 5 with fail
    go_cut [52] (fun c wx => c = .bool false ∧ Hid (Below w1.heap.size w1 wx))
    case first =>
      cases ok
      · go_wp2
        go_meet
        exact ⟨rfl, Lib.hid b2⟩
      · obtain ⟨h1, h2, h3, h4⟩ := HADD.out rfl
        obtain ⟨q, hq⟩ : ∃ q, atR G s = q := ⟨_, rfl⟩
        rw [hq] at h4
        have C1 := Lib.hid (fun (W : World) (hW : Below w2.heap.size w2 W) => show Calls Try.prog 23 #[.slice AG G.length cg] W fun e w' => e = .returned (.bool true) ∧ Below W.heap.size W w' from h1 ▸ impl_areRevoked W w2.heap.size cg AG G (HRG.out.below hW (Nat.le_refl _)))
        have C2 := Lib.hid (fun (W : World) (hW : Below w2.heap.size w2 W) => show Calls Try.prog 24 #[.slice AG G.length cg, .slice A xs.length cp] W fun e w' => e = .returned (.bool true) ∧ Below W.heap.size W w' from h2 ▸ impl_knowsMore W w2.heap.size w1.heap.size cg cp AG A G xs (HRG.out.below hW (Nat.le_refl _)) (HR.out.below (b2.trans (hW.mono b2.size)) (Nat.le_refl _)) hW.size (Nat.le_trans b2.size hW.size) (revB_wf h1) HWF.out)
        have C3 := Lib.hid (fun (W : World) (hW : Below w2.heap.size w2 W) => show Calls Try.prog 25 #[.slice AG G.length cg, .int .i64 s, .int .i64 t] W fun e w' => e = .returned (.bool true) ∧ Below W.heap.size W w' from h3 ▸ impl_isRevoked W w2.heap.size cg AG G s t (HRG.out.below hW (Nat.le_refl _)) hW.size (revB_wf h1) HSW.out HTW.out)
        have C4 := Lib.hid (fun (W : World) (hW : Below w2.heap.size w2 W) => show Calls Try.prog 26 #[.slice AG G.length cg, .int .i64 s] W fun e w' => e = .returned (.int .i64 q) ∧ Below W.heap.size W w' from hq ▸ impl_revokedAt W w2.heap.size cg AG G s (HRG.out.below hW (Nat.le_refl _)) hW.size (revB_wf h1) HSW.out)
        have h5 : decide (t < q) = false := decide_eq_false (by omega)
        clear h1 h2 h3 hq HADD
        go_wp2_with (first
          | (go_at_call 23; refine (C1.out _ (Below.refl _ _)).mono ?_; rintro e u3 ⟨rfl, b3⟩)
          | (go_at_call 24; refine (C2.out _ b3).mono ?_; rintro e u4 ⟨rfl, b4⟩; have d4 := b3.trans (b4.mono b3.size))
          | (go_at_call 25; refine (C3.out _ d4).mono ?_; rintro e u5 ⟨rfl, b5⟩; have d5 := d4.trans (b5.mono d4.size))
          | (go_at_call 26; refine (C4.out _ d5).mono ?_; rintro e u6 ⟨rfl, b6⟩; have d6 := d5.trans (b6.mono d5.size)))
        go_meet
        exact ⟨by first | rfl | simp [h5], Lib.hid (b2.trans (d6.mono b2.size))⟩
    case rest =>
      obtain ⟨rfl, hcut⟩ := hcut
      have d := hcut.out
      have dW := hb1.trans (d.mono hb1.size)
      clear hcut HADD HRG b2
      go_wp2_with fail
      refine (draw_mergeRevoked _ a0 len0 cap0 z0 (w0.below dW)).mono ?_
      rintro e w3 ⟨Ua, ls, Ub, ms, rfl, hsa, hsb, b3⟩
      have d3 := d.trans (b3.mono d.size)
      have dW3 := hb1.trans (d3.mono hb1.size)
      obtain ⟨_, Aa, ca, rfl, _⟩ := id hsa.2
      obtain ⟨_, Ab, cb, rfl, _⟩ := id hsb.2
      have hal := revB_len hsa.1
      have hbl := revB_len hsb.1
      have HRA := Lib.hid hsa.2
      have HRB := Lib.hid hsb.2
      have HA := Lib.hid hsa.1
      have HB := Lib.hid hsb.1
      have CM := Lib.hid (impl_mergeRevoked w3 w3.heap.size w3.heap.size ca cb Aa Ab ls ms HRA.out HRB.out (Nat.le_refl _) (Nat.le_refl _) (by omega) (revB_wf hsb.1))
      have HK := Lib.hid (fun hn => merge_knows (xs := ls) (ys := ms) hsa.1 hsb.1 hn)
      generalize mergeR ls ms = M at CM HK
      clear hsa hsb b3 d dW
      go_wp2_with fail
      refine CM.out.mono ?_
      rintro e w4 ⟨v4, rfl, o4, b4⟩
      have HRM := Lib.hid o4.read
      obtain ⟨_, AM, cm, rfl, -⟩ := id o4.read
      have d4 := d3.trans (b4.mono d3.size)
      have CA := Lib.hid (fun (W : World) (hW : Below w3.heap.size w3 W) => show Calls Try.prog 23 #[.slice Aa ls.length ca] W fun e w' => e = .returned (.bool true) ∧ Below W.heap.size W w' from HA.out ▸ impl_areRevoked W w3.heap.size ca Aa ls (HRA.out.below hW (Nat.le_refl _)))
      have CB := Lib.hid (fun (W : World) (hW : Below w3.heap.size w3 W) => show Calls Try.prog 23 #[.slice Ab ms.length cb] W fun e w' => e = .returned (.bool true) ∧ Below W.heap.size W w' from HB.out ▸ impl_areRevoked W w3.heap.size cb Ab ms (HRB.out.below hW (Nat.le_refl _)))
      clear o4 CM
      go_upto_region 9 with fail
      go_cut [91] (fun c wx => c = .bool false ∧ Hid (Below w1.heap.size w1 wx))
      case first =>
        go_wp2_with fail
        refine (CA.out _ b4).mono ?_
        rintro e u5 ⟨rfl, b5⟩
        have d5 := b4.trans (b5.mono b4.size)
        go_wp2_with fail
        refine (CB.out _ d5).mono ?_
        rintro e u6 ⟨rfl, b6⟩
        have d6 := d5.trans (b6.mono d5.size)
        have f6 := b5.trans (b6.mono b5.size)
        have hw : IntKind.i64.wrap ((ls.length : Int) + (ms.length : Int)) = (ls.length : Int) + (ms.length : Int) := by rw [IntKind.wrap_i64]; omega
        clear CA CB
        by_cases h40 : (ls.length : Int) + (ms.length : Int) ≤ 40
        · obtain ⟨h1, h2, h3⟩ := HK.out (by omega)
          have C1 := Lib.hid (fun (W : World) (hW : Below w4.heap.size w4 W) => show Calls Try.prog 23 #[.slice AM M.length cm] W fun e w' => e = .returned (.bool true) ∧ Below W.heap.size W w' from h1 ▸ impl_areRevoked W w4.heap.size cm AM M (HRM.out.below hW (Nat.le_refl _)))
          have C2 := Lib.hid (fun (W : World) (hW : Below w4.heap.size w4 W) => show Calls Try.prog 24 #[.slice AM M.length cm, .slice Aa ls.length ca] W fun e w' => e = .returned (.bool true) ∧ Below W.heap.size W w' from h2 ▸ impl_knowsMore W w4.heap.size w3.heap.size cm ca AM Aa M ls (HRM.out.below hW (Nat.le_refl _)) (HRA.out.below (b4.trans (hW.mono b4.size)) (Nat.le_refl _)) hW.size (Nat.le_trans b4.size hW.size) (revB_wf h1) (revB_wf HA.out))
          have C3 := Lib.hid (fun (W : World) (hW : Below w4.heap.size w4 W) => show Calls Try.prog 24 #[.slice AM M.length cm, .slice Ab ms.length cb] W fun e w' => e = .returned (.bool true) ∧ Below W.heap.size W w' from h3 ▸ impl_knowsMore W w4.heap.size w3.heap.size cm cb AM Ab M ms (HRM.out.below hW (Nat.le_refl _)) (HRB.out.below (b4.trans (hW.mono b4.size)) (Nat.le_refl _)) hW.size (Nat.le_trans b4.size hW.size) (revB_wf h1) (revB_wf HB.out))
          clear h1 h2 h3 HK
          go_wp2_with fail
          refine (C1.out _ f6).mono ?_
          rintro e u7 ⟨rfl, b7⟩
          have f7 := f6.trans (b7.mono f6.size)
          go_wp2_with fail
          refine (C2.out _ f7).mono ?_
          rintro e u8 ⟨rfl, b8⟩
          have f8 := f7.trans (b8.mono f7.size)
          go_wp2_with fail
          refine (C3.out _ f8).mono ?_
          rintro e u9 ⟨rfl, b9⟩
          have f9 := f8.trans (b9.mono f8.size)
          go_wp2
          go_meet
          exact ⟨rfl, Lib.hid (d4.trans (f9.mono d4.size))⟩
        · have h41 : decide ((ls.length : Int) + (ms.length : Int) ≤ 40) = false := decide_eq_false h40
          go_wp2
          go_meet
          exact ⟨by first | rfl | simp [h41], Lib.hid (d4.trans (f6.mono d4.size))⟩
      case rest =>
        obtain ⟨rfl, hcut⟩ := hcut
        have d := hcut.out
        have hq := atR_wf s HWF.out
        have CT := Lib.hid (fun (W : World) (hW : Below w1.heap.size w1 W) => impl_revokedAt W w1.heap.size cp A xs s (HR.out.below hW (Nat.le_refl _)) hW.size HWF.out HSW.out)
        have CI := Lib.hid (fun (W : World) (hW : Below w1.heap.size w1 W) => impl_isRevoked W w1.heap.size cp A xs s (atR xs s) (HR.out.below hW (Nat.le_refl _)) hW.size HWF.out HSW.out hq)
        rw [revokedB_self] at CI
        generalize atR xs s = q at CT CI
        clear hcut HK HRM HRA HRB HA HB CA CB b4 d4 d3 dW3 hq
        go_wp2_with fail
        refine (CT.out _ d).mono ?_
        rintro e u3 ⟨rfl, b3⟩
        have e3 := d.trans (b3.mono d.size)
        go_wp2_with fail
        refine (CI.out _ e3).mono ?_
        rintro e u4 ⟨rfl, b4⟩
        have e4 := e3.trans (b4.mono e3.size)
        by_cases h0 : 0 ≤ q
        all_goals
          go_wp2
          go_ret
          exact ⟨by simp, hb1.trans (e4.mono hb1.size)⟩
  · go_enter Try.func4, Try.ntmps4
    go_wp2_with (go_at_call 12; go_in)
    go_ret
    exact ⟨rfl, Below.refl _ _⟩

set_option maxRecDepth 100000 in
theorem lifted (os : Os) (started : os.Started) (H : Type) (enc : TypeId × Value → H) :
    ReturnsInHanded {} Try.checked os 4 .any (Rows.fnRevocationSpec.pre6 enc Try.prog Try.f4 Rows.fnRevocationRow.domain false) (Rows.fnRevocationSpec.post enc Try.prog Try.f4 false true false false) := by
  refine returnsInHanded_of_change (C := Try.checked) own started (by kernel_rfl) Try.func4
    (ChangeSpec.witness6 (enc := enc) (C := Try.checked) false ⟨#[], #[.slice none 0 0], []⟩ 8 (by kernel_rfl) (by kernel_rfl) (by kernel_rfl) (by kernel_rfl)) ?_
  intro W base args ds gs before hval0 hW hcnd _
  have hval : ∀ (j : Nat) t v, Try.f4.params[j]? = some t → args[j]? = some v → Value.okWide Try.prog W .any base t v := hval0
  have hW' := hW
  obtain ⟨p, q, hA0, hV, rfl, hfz, hnd⟩ := hW
  have hA : DataW.TrodAll enc Try.prog W 0 (fun _ => true) true Try.f4.params.toList args.toList ds p := hA0
  rw [Try.params4] at hA hval
  obtain ⟨v0, vs0, d0, ds0, p0, q0, hargs, rfl, rfl, h0, r0⟩ := trodAll_cons hA
  obtain ⟨rfl, rfl, rfl⟩ := trodAll_nil r0
  obtain rfl : args = #[v0] := by cases args; simp_all
  obtain ⟨rfl, rfl⟩ := trodVars_none hV
  obtain ⟨a0, len0, cap0, rfl⟩ := okWide_slice Try.underlying22 (hval 0 22 v0 rfl rfl)
  have k0 := h0
  have lt0 : ∀ x ∈ p0, x.block < W.heap.size := by obtain ⟨m, hm⟩ := k0; exact DataW.trod_lt m _ _ _ hm
  obtain ⟨z0, w0⟩ : ∃ zs, IsRow .u8 W a0 len0 cap0 zs := by
    obtain ⟨fuel, hf⟩ := h0
    exact isRow_of Try.underlying22 Try.underlying5 (by kernel_rfl) hf
  clear hA0 hval0
  refine (walk a0 len0 cap0 z0 W w0).mono fun e W' ⟨he, bel⟩ => ?_
  subst he
  exact ⟨_, rfl, _, _, _, [], _, [], hW', trodAll_mk1 (shut_bool Try.underlying4 _), (trodAll_cons_mk (Below.trod laidOut (by kernel_rfl) (of_decide_eq_true (by kernel_rfl)) k0 bel lt0) trodAll_mk0), rfl, bel.frame _, fun h => by cases h⟩

theorem over : Rows.fnRevocationRow.holds Try.pinned (OpenSpec.ofChange Rows.fnRevocationSpec) :=
  OpenClaim.holds_of_wide 4 Try.f4 rfl rfl rfl rfl rfl rfl rfl ⟨rfl, rfl, rfl, rfl, rfl⟩ rfl rfl rfl rfl rfl (by kernel_rfl) Try.func4 (by kernel_rfl)
    (of_decide_eq_true (by kernel_rfl)) (by unfold Func.isWrapper; first | (rw [if_pos (by decide +kernel)]; kernel_rfl) | (rw [if_neg (by decide +kernel)]; exact ⟨rfl, rfl⟩))
    (fun os started H enc _ => lifted os started H enc)

/-- for every input, revocations are never forgotten, and the earliest time counts. -/
theorem proved : Rows.FnRevocationSaid := over
#print axioms proved
end Go.Proofs.Ytjfmmingkciapaa.fnRevocation
