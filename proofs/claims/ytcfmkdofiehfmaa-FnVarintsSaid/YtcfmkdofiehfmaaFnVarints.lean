/-
  Proved here: for every input, an integer in range is decoded from its varint, and a decoded varint is the encoding of its integer.
  Conditions: those that the given row itself prints; none of our own.
-/
import Derived.Test.YtcfmkdofiehfmaaPiece
import Derived.WalkKit
import Derived.ProofKit
import Derived.OpenShut
import Derived.ShutString
import Derived.ChangeOld
import Derived.Below
import Derived.WalkLawsBesides
import Derived.WalkSpells
import Derived.LoopTactic
import Derived.Lib.Hide
import Derived.Deep.DeepCutAuto
namespace Go.Proofs.Ytcfmkdofiehfmaa.fnVarints
open Go.ChangeShapes Go.WideShapes Go.ChangeAt Go.RowKit
open Go.ChangeMaps (open_string shut_string)
set_option linter.unusedVariables false

theorem own : ownKnob Try.prog.godebug = none := by kernel_rfl
theorem laidOut : laidOutB Try.prog = true := by kernel_rfl

set_option maxHeartbeats 8000000 in
set_option maxRecDepth 100000 in
theorem walk (a0 : Option Addr) (len0 cap0 : Nat) (z0 : List Int) (w : World) (w0 : IsRow .u8 w a0 len0 cap0 z0) :
    Calls Try.prog 3 #[.slice a0 len0 cap0] w fun e w' => e = .returned (.bool true) ∧ Below w.heap.size w w' := by
  by_cases hbig : (len0 : Int) ≤ 1048576
  · go_enter Try.func3, Try.ntmps3
    go_wp2_with (go_at_call 12; go_in)
    refine (draw_append w a0 len0 cap0 z0 w0).mono ?_
    rintro e w1 ⟨b, xs, n, rfl, hn0, hn1, hob, hxs, hb1⟩
    obtain ⟨⟨ab, cb, rfl, q1, q2, _, _⟩, _⟩ := hob.read
    go_wp2_with fail
    refine (impl_append w1 w1.heap.size _ xs n hob.read (Nat.le_refl _) (by omega)).mono ?_
    rintro e w2 ⟨x, rfl, hox, hb2⟩
    have hb12 := hb1.trans (hb2.mono hb1.size)
    have hob2 := hob.below hb2 (Nat.le_refl _)
    obtain ⟨ys, hys⟩ : ∃ ys, xs ++ enc n = ys := ⟨_, rfl⟩
    rw [hys] at hox
    have hle : ys.length ≤ 1099511627776 := by have := enc_le n; rw [← hys, List.length_append]; omega
    have HY := Lib.hid hys
    clear hys hob
    obtain ⟨⟨ax, cx, rfl, g1, g2, _, _⟩, _⟩ := hox.read
    go_wp2_with fail
    refine (impl_read w2 w2.heap.size _ ys (xs.length : Int) hox.read (Nat.le_refl _) hle).mono ?_
    rintro e w3 ⟨rfl, hb3⟩
    have hb13 := hb12.trans (hb3.mono hb12.size)
    have hox3 := hox.below hb3 (Nat.le_refl _)
    have hob3 := hob2.below hb3 hb2.size
    obtain ⟨k, nx, ok, hres, hk⟩ : ∃ (k nx : Int) (ok : Bool), readRes (readOf ys (xs.length : Int)) = .tuple #[.int .i64 k, .int .i64 nx, .bool ok] ∧ (((0 ≤ n ∧ n ≤ 1000000000000) ∧ ok = true ∧ k = n ∧ nx = (ys.length : Int)) ∨ ((n < 0 ∨ 1000000000000 < n) ∧ ok = false ∧ ys = xs)) := by
      by_cases hr : 0 ≤ n ∧ n ≤ 1000000000000
      · obtain ⟨N, rfl⟩ := Int.eq_ofNat_of_zero_le hr.1
        rw [← HY.out, readOf_app xs N (by omega)]
        exact ⟨_, _, _, rfl, .inl ⟨hr, rfl, rfl, rfl⟩⟩
      · rw [← HY.out, enc_no n hr, List.append_nil, readOf_none]
        exact ⟨_, _, _, rfl, .inr ⟨by omega, rfl, rfl⟩⟩
    rw [hres]
    clear hres
    rcases hk with ⟨⟨hr0, hr1⟩, rfl, rfl, rfl⟩ | ⟨hr, rfl, rfl⟩
    rotate_left
    · rcases hr with hr | hr
      all_goals
        go_upto_region 11 with (go_at_call 16; refine (same_bytes w3 _ _ _ _ _ _ hox3.read hob3.read).mono ?_; rintro e w4 ⟨rfl, m, rfl⟩)
        have HB := bDrew hb13 m
        clear hb13 hox3 hob3 hb3 hb12 hb2 hob2 hox hb1 HY hle
        go_wp2_with fail
        refine (draw_read _ a0 len0 cap0 z0 (w0.below HB)).mono ?_
        rintro e w5 ⟨y, zs, p, rfl, hp0, hp1, hoy, hzs, hb5⟩
        have hb15 := HB.trans (hb5.mono HB.size)
        obtain ⟨⟨ay, cy, rfl, t1, t2, _, t3⟩, _⟩ := hoy.read
        go_wp2_with fail
        refine (impl_read w5 w5.heap.size _ zs p hoy.read (Nat.le_refl _) (by omega)).mono ?_
        rintro e w6 ⟨rfl, hb6⟩
        have hb16 := hb15.trans (hb6.mono hb15.size)
        have hoy6 := hoy.below hb6 (Nat.le_refl _)
        cases hm : readOf zs p with
        | none =>
          have HM := Lib.hid hm
          clear hm
          unfold readRes
          go_wp2_with fail
          refine (spec_read w6 w5.heap.size _ zs p hoy6.read (by omega) hp0 hp1).mono ?_
          rintro e w7 ⟨rfl, hw⟩
          subst hw
          rw [HM.out]
          unfold readRes
          go_wp2
          go_ret
          exact ⟨rfl, hb16⟩
        | some q =>
          obtain ⟨k2, nx2⟩ := q
          obtain ⟨A, rfl, hA1, hA2, hA3, hA4⟩ := readOf_back (fun x hx => bounds_u8 (hoy.wf x hx)) hm
          clear hm
          obtain ⟨b, off, rfl, _, _, _⟩ := t3 (by omega)
          clear t3
          have hcA : ¬ (cy = A) := by omega
          have hG : Good w w5.heap.size (.slice (some ⟨b, off + A, none⟩) (nx2 - A) (cy - A)) (enc (k2 : Int)) w6 := ⟨hb16, hb6.size, by
            rw [hA4]
            exact hoy6.read.sub A (nx2 - A) (by omega)⟩
          have HG := Lib.hid hG
          have HA4 := Lib.hid hA4
          clear hG hA4 hb16 hb15 hb6 hoy6 hoy hb5 HB w0 hcA
          have hcA : ¬ (cy = A) := by omega
          unfold readRes
          have j0 : (0 : Int) ≤ (A : Int) := by omega
          have j1 : (nx2 : Int) ≤ (zs.length : Int) := by omega
          have j2 : (A : Int) < (nx2 : Int) := by omega
          have j3 : (A : Int) ≤ (nx2 : Int) := by omega
          have j4 : (nx2 : Int) ≤ (cy : Int) := by omega
          go_upto_region 16 with fail
          go_region_held3 (fun w' => Good w w5.heap.size (.slice (some ⟨b, off + A, none⟩) (nx2 - A) (cy - A)) (enc (k2 : Int)) w') (first | assumption | exact HG.out.drew | exact (HG.out.alloc _).drew)
            (first
              | (go_at_call 14; refine (append_fresh _ _).mono ?_; rintro e w7 ⟨u, rfl, hou, hb7⟩; have hG7 := Good.go2 (by assumption) hb7)
              | (go_at_call 16; refine (same_bytes _ _ _ _ _ _ _ hou.read hG7.row).mono ?_; rintro e w8 ⟨rfl, m8, rfl⟩; have hG8 := hG7.drewN m8))
          all_goals
            go_wp2
            go_ret
            exact ⟨by simp, Good.below (by assumption)⟩
    · go_upto_region 11 with fail
      have HB := hb13
      clear hb13 hox3 hob3 hb3 hb12 hb2 hob2 hox hb1 HY hle
      go_wp2_with fail
      refine (draw_read _ a0 len0 cap0 z0 (w0.below HB)).mono ?_
      rintro e w5 ⟨y, zs, p, rfl, hp0, hp1, hoy, hzs, hb5⟩
      have hb15 := HB.trans (hb5.mono HB.size)
      obtain ⟨⟨ay, cy, rfl, t1, t2, _, t3⟩, _⟩ := hoy.read
      go_wp2_with fail
      refine (impl_read w5 w5.heap.size _ zs p hoy.read (Nat.le_refl _) (by omega)).mono ?_
      rintro e w6 ⟨rfl, hb6⟩
      have hb16 := hb15.trans (hb6.mono hb15.size)
      have hoy6 := hoy.below hb6 (Nat.le_refl _)
      cases hm : readOf zs p with
      | none =>
        have HM := Lib.hid hm
        clear hm
        unfold readRes
        go_wp2_with fail
        refine (spec_read w6 w5.heap.size _ zs p hoy6.read (by omega) hp0 hp1).mono ?_
        rintro e w7 ⟨rfl, hw⟩
        subst hw
        rw [HM.out]
        unfold readRes
        go_wp2
        go_ret
        exact ⟨rfl, hb16⟩
      | some q =>
        obtain ⟨k2, nx2⟩ := q
        obtain ⟨A, rfl, hA1, hA2, hA3, hA4⟩ := readOf_back (fun x hx => bounds_u8 (hoy.wf x hx)) hm
        clear hm
        obtain ⟨b, off, rfl, _, _, _⟩ := t3 (by omega)
        clear t3
        have hcA : ¬ (cy = A) := by omega
        have hG : Good w w5.heap.size (.slice (some ⟨b, off + A, none⟩) (nx2 - A) (cy - A)) (enc (k2 : Int)) w6 := ⟨hb16, hb6.size, by
          rw [hA4]
          exact hoy6.read.sub A (nx2 - A) (by omega)⟩
        have HG := Lib.hid hG
        have HA4 := Lib.hid hA4
        clear hG hA4 hb16 hb15 hb6 hoy6 hoy hb5 HB w0 hcA
        have hcA : ¬ (cy = A) := by omega
        unfold readRes
        have j0 : (0 : Int) ≤ (A : Int) := by omega
        have j1 : (nx2 : Int) ≤ (zs.length : Int) := by omega
        have j2 : (A : Int) < (nx2 : Int) := by omega
        have j3 : (A : Int) ≤ (nx2 : Int) := by omega
        have j4 : (nx2 : Int) ≤ (cy : Int) := by omega
        go_upto_region 16 with fail
        go_region_held3 (fun w' => Good w w5.heap.size (.slice (some ⟨b, off + A, none⟩) (nx2 - A) (cy - A)) (enc (k2 : Int)) w') (first | assumption | exact HG.out.drew | exact (HG.out.alloc _).drew)
          (first
            | (go_at_call 14; refine (append_fresh _ _).mono ?_; rintro e w7 ⟨u, rfl, hou, hb7⟩; have hG7 := Good.go2 (by assumption) hb7)
            | (go_at_call 16; refine (same_bytes _ _ _ _ _ _ _ hou.read hG7.row).mono ?_; rintro e w8 ⟨rfl, m8, rfl⟩; have hG8 := hG7.drewN m8))
        all_goals
          go_wp2
          go_ret
          exact ⟨by simp, Good.below (by assumption)⟩
  · go_enter Try.func3, Try.ntmps3
    go_wp2_with (go_at_call 12; go_in)
    go_ret
    exact ⟨rfl, Below.refl _ _⟩

set_option maxRecDepth 100000 in
theorem lifted (os : Os) (started : os.Started) (H : Type) (enc : TypeId × Value → H) :
    ReturnsInHanded {} Try.checked os 3 .any (Rows.fnVarintsSpec.pre6 enc Try.prog Try.f3 Rows.fnVarintsRow.domain false) (Rows.fnVarintsSpec.post enc Try.prog Try.f3 false true false false) := by
  refine returnsInHanded_of_change (C := Try.checked) own started (by kernel_rfl) Try.func3
    (ChangeSpec.witness6 (enc := enc) (C := Try.checked) false ⟨#[], #[.slice none 0 0], []⟩ 8 (by kernel_rfl) (by kernel_rfl) (by kernel_rfl) (by kernel_rfl)) ?_
  intro W base args ds gs before hval0 hW hcnd _
  have hval : ∀ (j : Nat) t v, Try.f3.params[j]? = some t → args[j]? = some v → Value.okWide Try.prog W .any base t v := hval0
  have hW' := hW
  obtain ⟨p, q, hA0, hV, rfl, hfz, hnd⟩ := hW
  have hA : DataW.TrodAll enc Try.prog W 0 (fun _ => true) true Try.f3.params.toList args.toList ds p := hA0
  rw [Try.params3] at hA hval
  obtain ⟨v0, vs0, d0, ds0, p0, q0, hargs, rfl, rfl, h0, r0⟩ := trodAll_cons hA
  obtain ⟨rfl, rfl, rfl⟩ := trodAll_nil r0
  obtain rfl : args = #[v0] := by cases args; simp_all
  obtain ⟨rfl, rfl⟩ := trodVars_none hV
  obtain ⟨a0, len0, cap0, rfl⟩ := okWide_slice Try.underlying22 (hval 0 22 v0 rfl rfl)
  have k0 := h0
  have lt0 : ∀ x ∈ p0, x.block < W.heap.size := by obtain ⟨m, hm⟩ := k0; exact DataW.trod_lt m _ _ _ hm
  obtain ⟨z0, w0⟩ : ∃ zs, IsRow .u8 W a0 len0 cap0 zs := by
    obtain ⟨fuel, hf⟩ := h0
    exact isRow_of Try.underlying22 Try.underlying5 (by kernel_rfl) hf
  clear hA0 hval0
  refine (walk a0 len0 cap0 z0 W w0).mono fun e W' ⟨he, bel⟩ => ?_
  subst he
  exact ⟨_, rfl, _, _, _, [], _, [], hW', trodAll_mk1 (shut_bool Try.underlying4 _), (trodAll_cons_mk (Below.trod laidOut (by kernel_rfl) (of_decide_eq_true (by kernel_rfl)) k0 bel lt0) trodAll_mk0), rfl, bel.frame _, fun h => by cases h⟩

theorem over : Rows.fnVarintsRow.holds Try.pinned (OpenSpec.ofChange Rows.fnVarintsSpec) :=
  OpenClaim.holds_of_wide 3 Try.f3 rfl rfl rfl rfl rfl rfl rfl ⟨rfl, rfl, rfl, rfl, rfl⟩ rfl rfl rfl rfl rfl (by kernel_rfl) Try.func3 (by kernel_rfl)
    (of_decide_eq_true (by kernel_rfl)) (by unfold Func.isWrapper; first | (rw [if_pos (by decide +kernel)]; kernel_rfl) | (rw [if_neg (by decide +kernel)]; exact ⟨rfl, rfl⟩))
    (fun os started H enc _ => lifted os started H enc)

/-- for every input, an integer in range is decoded from its varint, and a decoded varint is the encoding of its integer. -/
theorem proved : Rows.FnVarintsSaid := over
#print axioms proved
end Go.Proofs.Ytcfmkdofiehfmaa.fnVarints
