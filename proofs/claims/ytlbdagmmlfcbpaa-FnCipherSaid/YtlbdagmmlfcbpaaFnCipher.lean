/-
  Proved here: for every input, decryption inverts encryption, encryption inverts decryption, and what is encrypted is as long as before.
  Conditions: those that the given row itself prints; none of our own.
-/
import Derived.Test.YtlbdagmmlfcbpaaCipher
import Derived.Test.YtlbdagmmlfcbpaaSame
import Derived.Test.YtlbdagmmlfcbpaaDraw3
import Derived.Test.YtlbdagmmlfcbpaaCryS
import Derived.WalkKit
import Derived.ProofKit
import Derived.OpenShut
import Derived.ShutString
import Derived.ChangeOld
import Derived.Below
import Derived.WalkLawsBesides
import Derived.WalkSpells
import Derived.LoopTactic
import Derived.Lib.Hide
import Derived.Deep.DeepCutAuto
namespace Go.Proofs.Ytlbdagmmlfcbpaa.fnCipher
open Go.ChangeShapes Go.WideShapes Go.ChangeAt Go.RowKit
open Go.ChangeMaps (open_string shut_string)
set_option linter.unusedVariables false

theorem own : ownKnob Try.prog.godebug = none := by kernel_rfl
theorem laidOut : laidOutB Try.prog = true := by kernel_rfl

set_option maxHeartbeats 8000000 in
set_option maxRecDepth 100000 in
theorem walk (a0 : Option Addr) (len0 cap0 : Nat) (z0 : List Int) (w : World) (w0 : IsRow .u8 w a0 len0 cap0 z0) :
    Calls Try.prog 3 #[.slice a0 len0 cap0] w fun e w' => e = .returned (.bool true) ∧ Below w.heap.size w w' := by
  by_cases hbig : (len0 : Int) ≤ 1048576
  · go_enter Try.func3, Try.ntmps3
    go_wp2_with (go_at_call 9; go_in)
    refine (draw_encrypt w a0 len0 cap0 z0 w0).mono ?_
    rintro e w1 ⟨k, b, xs, rfl, hk0, hk1, hob, hxs, hb1⟩
    obtain ⟨⟨ab, cb, rfl, q1, q2, _, _⟩, _⟩ := hob.read
    have hkw : (Lit.int .i64 k).wf = true := wf_i64 (by omega) (by omega)
    have hxb : ∀ x ∈ xs, 0 ≤ x ∧ x ≤ 255 := fun x hx => bounds_u8 (hob.wf x hx)
    have HDE := Lib.hid (dec_enc k xs hxb)
    have HED := Lib.hid (enc_dec k xs hxb)
    clear hxb
    have hel := encL_len k xs
    have hdl := decL_len k xs
    go_wp2_with fail
    refine (impl_encrypt w1 w1.heap.size k _ xs hkw hob.read (Nat.le_refl _) (by omega)).mono ?_
    rintro e w2 ⟨x2, rfl, h2, hb2⟩
    have c2 := hb1.trans (hb2.mono hb1.size)
    have o2 := hob.below hb2 (Nat.le_refl _)
    go_wp2_with fail
    refine (impl_decrypt w2 w2.heap.size k x2 (encL k xs) hkw h2.read (Nat.le_refl _) (by omega)).mono ?_
    rintro e w3 ⟨x3, rfl, h3, hb3⟩
    rw [HDE.out] at h3
    have c3 := c2.trans (hb3.mono c2.size)
    have o3 := o2.below hb3 hb2.size
    go_wp2_with fail
    refine (same_bytes w3 _ _ x3 _ xs xs h3.read o3.read).mono ?_
    rintro e w4 ⟨rfl, hm4⟩
    have c4 : Below w.heap.size w w4 := by
      obtain ⟨m, rfl⟩ := hm4
      exact bDrew c3 m
    have o4 : Own 5 .u8 w4 w.heap.size w1.heap.size (.slice ab xs.length cb) xs := by
      obtain ⟨m, rfl⟩ := hm4
      exact o3.drewN m
    have s4 : w3.heap.size = w4.heap.size := by
      obtain ⟨m, rfl⟩ := hm4
      rfl
    rw [decide_eq_true (rfl : xs = xs)]
    have s14 : w1.heap.size ≤ w4.heap.size := by have := hb2.size; have := hb3.size; omega
    clear hm4 c3 o3 h3 hb3 o2 h2 c2 hb2 hob
    go_wp2_with fail
    refine (impl_decrypt w4 w4.heap.size k _ xs hkw (o4.read.more s14) (Nat.le_refl _) (by omega)).mono ?_
    rintro e w5 ⟨x5, rfl, h5, hb5⟩
    have c5 := c4.trans (hb5.mono c4.size)
    have o5 := o4.below hb5 s14
    go_wp2_with fail
    refine (impl_encrypt w5 w5.heap.size k x5 (decL k xs) hkw h5.read (Nat.le_refl _) (by omega)).mono ?_
    rintro e w6 ⟨x6, rfl, h6, hb6⟩
    rw [HED.out] at h6
    have c6 := c5.trans (hb6.mono c5.size)
    have s15 := Nat.le_trans s14 hb5.size
    have o6 := o5.below hb6 s15
    go_wp2_with fail
    refine (same_bytes w6 _ _ x6 _ xs xs h6.read o6.read).mono ?_
    rintro e w7 ⟨rfl, hm7⟩
    have c7 : Below w.heap.size w w7 := by
      obtain ⟨m, rfl⟩ := hm7
      exact bDrew c6 m
    have o7 : Own 5 .u8 w7 w.heap.size w1.heap.size (.slice ab xs.length cb) xs := by
      obtain ⟨m, rfl⟩ := hm7
      exact o6.drewN m
    have s17 : w1.heap.size ≤ w7.heap.size := by
      obtain ⟨m, rfl⟩ := hm7
      exact Nat.le_trans s15 hb6.size
    rw [decide_eq_true (rfl : xs = xs)]
    clear hm7 c6 o6 h6 hb6 o5 h5 c5 hb5 o4 s4
    go_wp2_with fail
    refine (impl_encrypt w7 w7.heap.size k _ xs hkw (o7.read.more s17) (Nat.le_refl _) (by omega)).mono ?_
    rintro e w8 ⟨x8, rfl, h8, hb8⟩
    obtain ⟨⟨a8, c8, rfl, _, _, _, _⟩, _⟩ := h8.read
    rw [hel]
    go_wp2
    go_ret
    exact ⟨by first | rfl | simp, c7.trans (hb8.mono c7.size)⟩
  · go_enter Try.func3, Try.ntmps3
    go_wp2_with (go_at_call 9; go_in)
    go_ret
    exact ⟨rfl, Below.refl _ _⟩

set_option maxRecDepth 100000 in
theorem lifted (os : Os) (started : os.Started) (H : Type) (enc : TypeId × Value → H) :
    ReturnsInHanded {} Try.checked os 3 .any (Rows.fnCipherSpec.pre6 enc Try.prog Try.f3 Rows.fnCipherRow.domain false) (Rows.fnCipherSpec.post enc Try.prog Try.f3 false true false false) := by
  refine returnsInHanded_of_change (C := Try.checked) own started (by kernel_rfl) Try.func3
    (ChangeSpec.witness6 (enc := enc) (C := Try.checked) false ⟨#[], #[.slice none 0 0], []⟩ 8 (by kernel_rfl) (by kernel_rfl) (by kernel_rfl) (by kernel_rfl)) ?_
  intro W base args ds gs before hval0 hW hcnd _
  have hval : ∀ (j : Nat) t v, Try.f3.params[j]? = some t → args[j]? = some v → Value.okWide Try.prog W .any base t v := hval0
  have hW' := hW
  obtain ⟨p, q, hA0, hV, rfl, hfz, hnd⟩ := hW
  have hA : DataW.TrodAll enc Try.prog W 0 (fun _ => true) true Try.f3.params.toList args.toList ds p := hA0
  rw [Try.params3] at hA hval
  obtain ⟨v0, vs0, d0, ds0, p0, q0, hargs, rfl, rfl, h0, r0⟩ := trodAll_cons hA
  obtain ⟨rfl, rfl, rfl⟩ := trodAll_nil r0
  obtain rfl : args = #[v0] := by cases args; simp_all
  obtain ⟨rfl, rfl⟩ := trodVars_none hV
  obtain ⟨a0, len0, cap0, rfl⟩ := okWide_slice Try.underlying22 (hval 0 22 v0 rfl rfl)
  have k0 := h0
  have lt0 : ∀ x ∈ p0, x.block < W.heap.size := by obtain ⟨m, hm⟩ := k0; exact DataW.trod_lt m _ _ _ hm
  obtain ⟨z0, w0⟩ : ∃ zs, IsRow .u8 W a0 len0 cap0 zs := by
    obtain ⟨fuel, hf⟩ := h0
    exact isRow_of Try.underlying22 Try.underlying5 (by kernel_rfl) hf
  clear hA0 hval0
  refine (walk a0 len0 cap0 z0 W w0).mono fun e W' ⟨he, bel⟩ => ?_
  subst he
  exact ⟨_, rfl, _, _, _, [], _, [], hW', trodAll_mk1 (shut_bool Try.underlying4 _), (trodAll_cons_mk (Below.trod laidOut (by kernel_rfl) (of_decide_eq_true (by kernel_rfl)) k0 bel lt0) trodAll_mk0), rfl, bel.frame _, fun h => by cases h⟩

theorem over : Rows.fnCipherRow.holds Try.pinned (OpenSpec.ofChange Rows.fnCipherSpec) :=
  OpenClaim.holds_of_wide 3 Try.f3 rfl rfl rfl rfl rfl rfl rfl ⟨rfl, rfl, rfl, rfl, rfl⟩ rfl rfl rfl rfl rfl (by kernel_rfl) Try.func3 (by kernel_rfl)
    (of_decide_eq_true (by kernel_rfl)) (by unfold Func.isWrapper; first | (rw [if_pos (by decide +kernel)]; kernel_rfl) | (rw [if_neg (by decide +kernel)]; exact ⟨rfl, rfl⟩))
    (fun os started H enc _ => lifted os started H enc)

/-- for every input, decryption inverts encryption, encryption inverts decryption, and what is encrypted is as long as before. -/
theorem proved : Rows.FnCipherSaid := over
#print axioms proved
end Go.Proofs.Ytlbdagmmlfcbpaa.fnCipher
