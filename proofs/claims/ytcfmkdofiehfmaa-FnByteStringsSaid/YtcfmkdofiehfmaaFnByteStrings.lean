/-
  Proved here: for every input, byte strings and lists of integers are decoded from their encodings.
  Conditions: those that the given row itself prints; none of our own.
-/
import Derived.Test.YtcfmkdofiehfmaaPiece
import Derived.WalkKit
import Derived.ProofKit
import Derived.OpenShut
import Derived.ShutString
import Derived.ChangeOld
import Derived.Below
import Derived.WalkLawsBesides
import Derived.WalkSpells
import Derived.LoopTactic
import Derived.Lib.Hide
import Derived.Deep.DeepCutAuto
namespace Go.Proofs.Ytcfmkdofiehfmaa.fnByteStrings
open Go.ChangeShapes Go.WideShapes Go.ChangeAt Go.RowKit
open Go.ChangeMaps (open_string shut_string)
set_option linter.unusedVariables false

theorem own : ownKnob Try.prog.godebug = none := by kernel_rfl
theorem laidOut : laidOutB Try.prog = true := by kernel_rfl

set_option maxHeartbeats 8000000 in
set_option maxRecDepth 100000 in
theorem walk (a0 : Option Addr) (len0 cap0 : Nat) (z0 : List Int) (w : World) (w0 : IsRow .u8 w a0 len0 cap0 z0) :
    Calls Try.prog 4 #[.slice a0 len0 cap0] w fun e w' => e = .returned (.bool true) ∧ Below w.heap.size w w' := by
  by_cases hbig : (len0 : Int) ≤ 1048576
  · obtain ⟨i0, hi0, hz0, hz1, hz2⟩ := info_parts infoIntS
    obtain ⟨hrow, hlen0⟩ := w0.row
    generalize hzz : z0.take len0 = zs at hrow hlen0
    have hzn : zs.length ≤ 1048576 := by omega
    clear hzz
    have HLEN := Lib.hid hlen0
    clear hlen0
    go_enter Try.func4, Try.ntmps4
    go_wp2_with (go_at_call 12; go_in)
    refine (draw_appendBytes w a0 len0 cap0 z0 w0).mono ?_
    rintro e w1 ⟨b, xs, v, ds, rfl, hob, hxs, hod, hds, hb1⟩
    obtain ⟨⟨ab, cb, rfl, q1, q2, _, _⟩, _⟩ := hob.read
    obtain ⟨⟨ad, cd, rfl, d1, d2, _, _⟩, _⟩ := hod.read
    go_wp2_with fail
    refine (impl_appendBytes w1 w1.heap.size w1.heap.size _ _ xs ds hob.read (Nat.le_refl _) (by omega) hod.read (Nat.le_refl _) (by omega)).mono ?_
    rintro e w2 ⟨x, rfl, hox, hb2⟩
    have hb12 := hb1.trans (hb2.mono hb1.size)
    have hod2 := hod.below hb2 (Nat.le_refl _)
    have HA1 := Lib.hid (show readBytesOf (xs ++ enc (ds.length : Int) ++ ds) (xs.length : Int) (ds.length : Int) = some (ds, (xs ++ enc (ds.length : Int) ++ ds).length) by rw [readBytesOf_app xs ds (by omega), if_pos (by omega)])
    have HA2 := Lib.hid (show readBytesOf (xs ++ enc (ds.length : Int) ++ ds) (xs.length : Int) ((ds.length : Int) - 1) = none by rw [readBytesOf_app xs ds (by omega), if_neg (by omega)])
    have hle : (xs ++ enc (ds.length : Int) ++ ds).length ≤ 1099511627776 := by have := enc_le (ds.length : Int); rw [List.length_append, List.length_append]; omega
    generalize xs ++ enc (ds.length : Int) ++ ds = ys at hox HA1 HA2 hle
    clear hob hod
    obtain ⟨⟨ax, cx, rfl, g1, g2, _, _⟩, _⟩ := hox.read
    go_wp2_with fail
    refine (impl_readBytes w2 w2.heap.size _ ys (xs.length : Int) (ds.length : Int) hox.read (Nat.le_refl _) hle).mono ?_
    rintro e w3 hres
    rw [HA1.out] at hres
    obtain ⟨y, rfl, hoy, hb3⟩ := hres
    have hb13 := hb12.trans (hb3.mono hb12.size)
    have hox3 := hox.below hb3 (Nat.le_refl _)
    have hod3 := hod2.below hb3 hb2.size
    go_wp2_with fail
    refine (impl_readBytes w3 w3.heap.size _ ys (xs.length : Int) ((ds.length : Int) - 1) (hox3.read.more hb3.size) (Nat.le_refl _) hle).mono ?_
    rintro e w4 hres
    rw [HA2.out] at hres
    obtain ⟨y2, rfl, hoy2, hb4⟩ := hres
    have hb14 := hb13.trans (hb4.mono hb13.size)
    have hoy4 := hoy.below hb4 (Nat.le_refl _)
    have hod4 := hod3.below hb4 (Nat.le_trans hb2.size hb3.size)
    go_wp2_with fail
    refine (same_bytes w4 _ _ y _ ds ds hoy4.read hod4.read).mono ?_
    rintro e w5 ⟨rfl, hm⟩
    have HB : Below w.heap.size w w5 := by
      obtain ⟨m, rfl⟩ := hm
      exact bDrew hb14 m
    clear hm hb14 hoy4 hod4 hoy2 hb4 hb13 hox3 hod3 hoy hb3 hb12 hod2 hb2 hox HA1 HA2 hle hb1
    rw [decide_eq_true (rfl : ds = ds)]
    have hO := (Own.empty 3 .i64 w5).wide (lo' := w.heap.size) (hi' := (w5.alloc (.cells #[] 3)).heap.size) HB.size (by simp)
    have hB := HB.alloc HB.size (.cells #[] 3)
    go_wp2
    go_loopw [12, 13] (fun o i wr => ∃ (k : Nat) (l : List Int), k ≤ 5 ∧ i = .int .i64 (k : Int) ∧ Hid (l.length = k) ∧ Hid (∀ x ∈ l, 0 ≤ x ∧ x ≤ 1000000000000) ∧ Own 3 .i64 wr w.heap.size wr.heap.size o l ∧ Below w.heap.size w wr) (fun _ i _ => 5 - (intOf i).toNat)
    case atStart => exact ⟨0, [], by omega, rfl, rfl, Lib.hid (fun x hx => by cases hx), hO, hB⟩
    case round =>
      obtain ⟨k, l, hk, rfl, HLk, HAll, hown, hb⟩ := hrel
      have hrw := hrow.below hb (Nat.le_refl _)
      go_wp2_with fail
      refine (at_any wr _ _ zs 0 hrw hzn (by decide) (by decide)).mono ?_
      rintro e w6 ⟨u, hu0, hu1, rfl, rfl⟩
      by_cases hlt : (k : Int) < u % 6
      · go_wp2_with fail
        refine (at_any wr _ _ zs ((k : Int) + 1) hrw hzn (by omega) (by omega)).mono ?_
        rintro e w6 ⟨x1, x10, x11, rfl, rfl⟩
        go_wp2_with fail
        refine (at_any wr _ _ zs ((k : Int) + 2) hrw hzn (by omega) (by omega)).mono ?_
        rintro e w6 ⟨x2, x20, x21, rfl, rfl⟩
        obtain ⟨m0, m1⟩ := mul_bd x10 x11 x20 x21
        go_wp2_with fail
        refine (at_any wr _ _ zs ((k : Int) + 3) hrw hzn (by omega) (by omega)).mono ?_
        rintro e w6 ⟨x3, x30, x31, rfl, rfl⟩
        obtain ⟨n0, n1⟩ := mul_bd m0 m1 x30 x31
        have hO3 := hown.below (B := wr.heap.size) ((Below.refl _ wr).alloc (Nat.le_refl _) (.cells #[.int .i64 (x1 * x2 * x3)] 3)) (Nat.le_refl _)
        have hR3 := row_one .i64 3 wr (x1 * x2 * x3) (wf_i64 (by omega) (by omega))
        have hb3 := hb.alloc hb.size (.cells #[.int .i64 (x1 * x2 * x3)] 3)
        have hle : l.length + [x1 * x2 * x3].length ≤ 2199023255552 := by have := HLk.out; simp only [List.length_cons, List.length_nil]; omega
        have hsz : w.heap.size ≤ (wr.alloc (.cells #[.int .i64 (x1 * x2 * x3)] 3)).heap.size := by have := hb.size; simp; omega
        go_wp2_with (at_builtin; go_loud (refine wpList_append_Own rfl _ _ 35 rfl 3 i0 (.int .i64 0) 8 Try.underlying35 hi0 hz0 hz1 hz2 rfl .i64 w.heap.size _ _ l rfl hO3 _ _ [x1 * x2 * x3] rfl hR3 hle (by decide) hsz ?_); intro v7 w7 hown3 hb4)
        go_roundw
        case rel => exact ⟨k + 1, l ++ [x1 * x2 * x3], by omega, by go_num, Lib.hid (by rw [List.length_append, HLk.out]; rfl), Lib.hid (fun x hx => by
          rcases List.mem_append.1 hx with hx | hx
          · exact HAll.out x hx
          · obtain rfl : x = x1 * x2 * x3 := by simpa using hx
            omega), hown3, hb3.trans hb4⟩
        case measure => simp only [intOf]; omega
      · obtain ⟨⟨al, cl, rfl, p1, p2, _, _⟩, _⟩ := hown.read
        have hl5 : l.length ≤ 5 := by have := HLk.out; omega
        obtain ⟨e1, e2⟩ := decOf_enc l (by omega) HAll.out
        have HD1 := Lib.hid e1
        have HD2 := Lib.hid e2
        clear e1 e2
        go_wp2_with fail
        refine (impl_encode wr wr.heap.size _ l hown.read (Nat.le_refl _) (by omega)).mono ?_
        rintro e w7 ⟨q, rfl, hoq, hb7⟩
        have hb17 := hb.trans (hb7.mono hb.size)
        have hown7 := hown.below hb7 (Nat.le_refl _)
        have hel : (encAll l).length ≤ 1099511627776 := by have := encAll_le l; omega
        generalize encAll l = es at hoq HD1 HD2 hel
        obtain ⟨⟨aq, cq, rfl, y1, y2, _, _⟩, _⟩ := hoq.read
        go_wp2_with fail
        refine (impl_decode w7 w7.heap.size _ es 0 (l.length : Int) hoq.read (Nat.le_refl _) hel).mono ?_
        rintro e w8 hres
        rw [HD1.out] at hres
        obtain ⟨mm, rfl, hom, hb8⟩ := hres
        have hb18 := hb17.trans (hb8.mono hb17.size)
        have hown8 := hown7.below hb8 hb7.size
        have hoq8 := hoq.below hb8 (Nat.le_refl _)
        go_wp2_with fail
        refine (impl_decode w8 w8.heap.size _ es 0 ((l.length : Int) + 1) (hoq8.read.more hb8.size) (Nat.le_refl _) hel).mono ?_
        rintro e w9 hres
        rw [HD2.out] at hres
        obtain ⟨m2, rfl, hom2, hb9⟩ := hres
        have hb19 := hb18.trans (hb9.mono hb18.size)
        have hown9 := hown8.below hb9 (Nat.le_trans hb7.size hb8.size)
        have hom9 := hom.below hb9 (Nat.le_refl _)
        go_wp2_with fail
        refine (same_ints w9 _ _ mm _ l l hom9.read hown9.read).mono ?_
        rintro e w10 ⟨rfl, m10, rfl⟩
        rw [decide_eq_true (rfl : l = l)]
        go_wp2
        go_ret
        exact ⟨rfl, bDrew hb19 _⟩
  · go_enter Try.func4, Try.ntmps4
    go_wp2_with (go_at_call 12; go_in)
    go_ret
    exact ⟨rfl, Below.refl _ _⟩

set_option maxRecDepth 100000 in
theorem lifted (os : Os) (started : os.Started) (H : Type) (enc : TypeId × Value → H) :
    ReturnsInHanded {} Try.checked os 4 .any (Rows.fnByteStringsSpec.pre6 enc Try.prog Try.f4 Rows.fnByteStringsRow.domain false) (Rows.fnByteStringsSpec.post enc Try.prog Try.f4 false true false false) := by
  refine returnsInHanded_of_change (C := Try.checked) own started (by kernel_rfl) Try.func4
    (ChangeSpec.witness6 (enc := enc) (C := Try.checked) false ⟨#[], #[.slice none 0 0], []⟩ 8 (by kernel_rfl) (by kernel_rfl) (by kernel_rfl) (by kernel_rfl)) ?_
  intro W base args ds gs before hval0 hW hcnd _
  have hval : ∀ (j : Nat) t v, Try.f4.params[j]? = some t → args[j]? = some v → Value.okWide Try.prog W .any base t v := hval0
  have hW' := hW
  obtain ⟨p, q, hA0, hV, rfl, hfz, hnd⟩ := hW
  have hA : DataW.TrodAll enc Try.prog W 0 (fun _ => true) true Try.f4.params.toList args.toList ds p := hA0
  rw [Try.params4] at hA hval
  obtain ⟨v0, vs0, d0, ds0, p0, q0, hargs, rfl, rfl, h0, r0⟩ := trodAll_cons hA
  obtain ⟨rfl, rfl, rfl⟩ := trodAll_nil r0
  obtain rfl : args = #[v0] := by cases args; simp_all
  obtain ⟨rfl, rfl⟩ := trodVars_none hV
  obtain ⟨a0, len0, cap0, rfl⟩ := okWide_slice Try.underlying22 (hval 0 22 v0 rfl rfl)
  have k0 := h0
  have lt0 : ∀ x ∈ p0, x.block < W.heap.size := by obtain ⟨m, hm⟩ := k0; exact DataW.trod_lt m _ _ _ hm
  obtain ⟨z0, w0⟩ : ∃ zs, IsRow .u8 W a0 len0 cap0 zs := by
    obtain ⟨fuel, hf⟩ := h0
    exact isRow_of Try.underlying22 Try.underlying5 (by kernel_rfl) hf
  clear hA0 hval0
  refine (walk a0 len0 cap0 z0 W w0).mono fun e W' ⟨he, bel⟩ => ?_
  subst he
  exact ⟨_, rfl, _, _, _, [], _, [], hW', trodAll_mk1 (shut_bool Try.underlying4 _), (trodAll_cons_mk (Below.trod laidOut (by kernel_rfl) (of_decide_eq_true (by kernel_rfl)) k0 bel lt0) trodAll_mk0), rfl, bel.frame _, fun h => by cases h⟩

theorem over : Rows.fnByteStringsRow.holds Try.pinned (OpenSpec.ofChange Rows.fnByteStringsSpec) :=
  OpenClaim.holds_of_wide 4 Try.f4 rfl rfl rfl rfl rfl rfl rfl ⟨rfl, rfl, rfl, rfl, rfl⟩ rfl rfl rfl rfl rfl (by kernel_rfl) Try.func4 (by kernel_rfl)
    (of_decide_eq_true (by kernel_rfl)) (by unfold Func.isWrapper; first | (rw [if_pos (by decide +kernel)]; kernel_rfl) | (rw [if_neg (by decide +kernel)]; exact ⟨rfl, rfl⟩))
    (fun os started H enc _ => lifted os started H enc)

/-- for every input, byte strings and lists of integers are decoded from their encodings. -/
theorem proved : Rows.FnByteStringsSaid := over
#print axioms proved
end Go.Proofs.Ytcfmkdofiehfmaa.fnByteStrings
