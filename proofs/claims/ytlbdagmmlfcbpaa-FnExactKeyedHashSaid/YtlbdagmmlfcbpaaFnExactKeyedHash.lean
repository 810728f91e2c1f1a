/-
  Proved here: at every key and list of integers KeyedHash answers as its model, and leaves its argument as it was.
  Conditions: those that the given row itself prints; none of our own.
-/
import Derived.Test.YtlbdagmmlfcbpaaCipher
import Derived.Test.YtlbdagmmlfcbpaaSame
import Derived.Test.YtlbdagmmlfcbpaaDraw3
import Derived.Test.YtlbdagmmlfcbpaaCryS
import Derived.WalkKit
import Derived.ProofKit
import Derived.OpenShut
import Derived.ShutString
import Derived.ChangeOld
import Derived.Below
import Derived.WalkLawsBesides
import Derived.WalkSpells
import Derived.LoopTactic
import Derived.Lib.Hide
import Derived.Deep.DeepCutAuto
namespace Go.Proofs.Ytlbdagmmlfcbpaa.fnExactKeyedHash
open Go.ChangeShapes Go.WideShapes Go.ChangeAt Go.RowKit
open Go.ChangeMaps (open_string shut_string)
set_option linter.unusedVariables false

theorem own : ownKnob Try.prog.godebug = none := by kernel_rfl
theorem laidOut : laidOutB Try.prog = true := by kernel_rfl

set_option maxHeartbeats 8000000 in
set_option maxRecDepth 100000 in
theorem walk (a0 : Int) (a1 : Option Addr) (len1 cap1 : Nat) (z1 : List Int) (w : World) (w0 : (Lit.int .i64 a0).wf = true) (w1 : IsRow .i64 w a1 len1 cap1 z1) :
    Calls Try.prog 5 #[.int .i64 a0, .slice a1 len1 cap1] w fun e w' => e = .returned (.bool true) ∧ Below w.heap.size w w' := by
  obtain ⟨hA1, hlen1⟩ := w1.row
  generalize hxs1 : z1.take len1 = xs1 at hA1 hlen1
  clear hxs1 w1
  by_cases hbig1 : (len1 : Int) ≤ 1048576
  · skip
    have hn1 : xs1.length ≤ 1048576 := by omega
    have HLEN1 := Lib.hid hlen1
    clear hlen1
    go_enter Try.func5, Try.ntmps5
    go_wp2_with fail
    refine (to_IntS w w.heap.size _ xs1 hA1 (Nat.le_refl _) (by omega)).mono ?_
    rintro e w1_ ⟨t1, rfl, ot1, bw1_⟩
    have sw1_ : w.heap.size ≤ w1_.heap.size := bw1_.size
    have Bw1_ := bw1_
    go_wp2_with fail
    refine (spec_keyed w1_ w1_.heap.size a0 _ xs1 w0 ot1.read (by exact Nat.le_refl _) (by omega)).mono ?_
    rintro e w2_ ⟨rfl, bw2_⟩
    have sw2_ : w1_.heap.size ≤ w2_.heap.size := bw2_.size
    have Bw2_ := Bw1_.trans (bw2_.mono Bw1_.size)
    have ot1 := ot1.below bw2_ (by omega)
    go_wp2_with fail
    refine (to_IntS w2_ w.heap.size _ xs1 (hA1.below Bw2_ (Nat.le_refl _)) Bw2_.size (by omega)).mono ?_
    rintro e w3_ ⟨x1, rfl, ox1, bw3_⟩
    have sw3_ : w2_.heap.size ≤ w3_.heap.size := bw3_.size
    have Bw3_ := Bw2_.trans (bw3_.mono Bw2_.size)
    have ot1 := ot1.below bw3_ (by omega)
    go_wp2_with fail
    refine (impl_keyed w3_ w3_.heap.size a0 _ xs1 w0 ox1.read (by exact Nat.le_refl _) (by omega)).mono ?_
    rintro e w4_ ⟨rfl, bw4_⟩
    have sw4_ : w3_.heap.size ≤ w4_.heap.size := bw4_.size
    have Bw4_ := Bw3_.trans (bw4_.mono Bw3_.size)
    have ot1 := ot1.below bw4_ (by omega)
    have ox1 := ox1.below bw4_ (by omega)
    go_wp2_with fail
    refine (to_IntS w4_ w.heap.size _ xs1 (hA1.below Bw4_ (Nat.le_refl _)) Bw4_.size (by omega)).mono ?_
    rintro e w5_ ⟨y1, rfl, oy1, bw5_⟩
    have sw5_ : w4_.heap.size ≤ w5_.heap.size := bw5_.size
    have Bw5_ := Bw4_.trans (bw5_.mono Bw4_.size)
    have ot1 := ot1.below bw5_ (by omega)
    have ox1 := ox1.below bw5_ (by omega)
    go_wp2_with fail
    refine (eq_IntS w5_ _ _ x1 y1 _ _ ox1.read oy1.read).mono ?_
    rintro e w6_ ⟨rfl, mw6_, rfl⟩
    go_wp2
    go_ret
    exact ⟨rfl, bDrew Bw5_ _⟩
  · go_enter Try.func5, Try.ntmps5
    go_wp2
    go_ret
    exact ⟨rfl, Below.refl _ _⟩

set_option maxRecDepth 100000 in
theorem lifted (os : Os) (started : os.Started) (H : Type) (enc : TypeId × Value → H) :
    ReturnsInHanded {} Try.checked os 5 .any (Rows.fnExactKeyedHashSpec.pre6 enc Try.prog Try.f5 Rows.fnExactKeyedHashRow.domain false) (Rows.fnExactKeyedHashSpec.post enc Try.prog Try.f5 false true false false) := by
  refine returnsInHanded_of_change (C := Try.checked) own started (by kernel_rfl) Try.func5
    (ChangeSpec.witness6 (enc := enc) (C := Try.checked) false ⟨#[], #[.int .i64 0, .slice none 0 0], []⟩ 8 (by kernel_rfl) (by kernel_rfl) (by kernel_rfl) (by kernel_rfl)) ?_
  intro W base args ds gs before hval0 hW hcnd _
  have hval : ∀ (j : Nat) t v, Try.f5.params[j]? = some t → args[j]? = some v → Value.okWide Try.prog W .any base t v := hval0
  have hW' := hW
  obtain ⟨p, q, hA0, hV, rfl, hfz, hnd⟩ := hW
  have hA : DataW.TrodAll enc Try.prog W 0 (fun _ => true) true Try.f5.params.toList args.toList ds p := hA0
  rw [Try.params5] at hA hval
  obtain ⟨v0, vs0, d0, ds0, p0, q0, hargs, rfl, rfl, h0, r0⟩ := trodAll_cons hA
  obtain ⟨v1, vs1, d1, ds1, p1, q1, rfl, rfl, rfl, h1, r1⟩ := trodAll_cons r0
  obtain ⟨rfl, rfl, rfl⟩ := trodAll_nil r1
  obtain rfl : args = #[v0, v1] := by cases args; simp_all
  obtain ⟨rfl, rfl⟩ := trodVars_none hV
  obtain ⟨a0, rfl, rfl, rfl, w0⟩ := open_int Try.underlying3 (hval 0 3 v0 rfl rfl) h0
  obtain ⟨a1, len1, cap1, rfl⟩ := okWide_slice Try.underlying28 (hval 1 28 v1 rfl rfl)
  have k1 := h1
  have lt1 : ∀ x ∈ p1, x.block < W.heap.size := by obtain ⟨m, hm⟩ := k1; exact DataW.trod_lt m _ _ _ hm
  obtain ⟨z1, w1⟩ : ∃ zs, IsRow .i64 W a1 len1 cap1 zs := by
    obtain ⟨fuel, hf⟩ := h1
    exact isRow_of Try.underlying28 Try.underlying3 (by kernel_rfl) hf
  clear hA0 hval0
  refine (walk a0 a1 len1 cap1 z1 W w0 w1).mono fun e W' ⟨he, bel⟩ => ?_
  subst he
  exact ⟨_, rfl, _, _, _, [], _, [], hW', trodAll_mk1 (shut_bool Try.underlying4 _), (trodAll_cons_mk (shut_int Try.underlying3 w0) (trodAll_cons_mk (Below.trod laidOut (by kernel_rfl) (of_decide_eq_true (by kernel_rfl)) k1 bel lt1) trodAll_mk0)), rfl, bel.frame _, fun h => by cases h⟩

theorem over : Rows.fnExactKeyedHashRow.holds Try.pinned (OpenSpec.ofChange Rows.fnExactKeyedHashSpec) :=
  OpenClaim.holds_of_wide 5 Try.f5 rfl rfl rfl rfl rfl rfl rfl ⟨rfl, rfl, rfl, rfl, rfl⟩ rfl rfl rfl rfl rfl (by kernel_rfl) Try.func5 (by kernel_rfl)
    (of_decide_eq_true (by kernel_rfl)) (by unfold Func.isWrapper; first | (rw [if_pos (by decide +kernel)]; kernel_rfl) | (rw [if_neg (by decide +kernel)]; exact ⟨rfl, rfl⟩))
    (fun os started H enc _ => lifted os started H enc)

/-- at every key and list of integers KeyedHash answers as its model, and leaves its argument as it was. -/
theorem proved : Rows.FnExactKeyedHashSaid := over
#print axioms proved
end Go.Proofs.Ytlbdagmmlfcbpaa.fnExactKeyedHash
