/- Contracts of chapter 3's model: Encrypt and Decrypt. -/
import Derived.Test.YtlbdagmmlfcbpaaHash2
import Derived.Test.YtlbdagmmlfcbpaaStep
import Derived.Deep.DeepCutAuto
namespace Go.Proofs.Ytlbdagmmlfcbpaa
open Go.ChangeShapes Go.WideShapes Go.ChangeAt Go.RowKit
set_option linter.unusedVariables false

set_option maxHeartbeats 2000000 in
set_option maxRecDepth 100000 in
theorem spec_encrypt (w : World) (hi : Nat) (s : Int) (v : Value) (l : List Int) (hs : (Lit.int .i64 s).wf = true) (h : Row .u8 w hi v l) (hh : hi ≤ w.heap.size) (hn : l.length ≤ 137438953472) :
    Calls Try.prog 27 #[.int .i64 s, v] w fun e w' => ∃ u, e = .returned u ∧ Own 5 .u8 w' w.heap.size w'.heap.size u (encL s l) ∧ Below w.heap.size w w' := by
  obtain ⟨i0, hi0, hz0, hz1, hz2⟩ := info_parts infoByteS
  have hwf := Lib.hid h.wf
  obtain ⟨⟨A, c, rfl, r1, r2, _, r3⟩, _⟩ := h
  unfold maxLen at r2
  have R3 := Lib.hid r3
  clear r3
  have hO := (Own.empty 5 .u8 w).wide (lo' := w.heap.size) (hi' := (w.alloc (.cells #[] 5)).heap.size) (Nat.le_refl _) (by simp)
  have hB := (Below.refl w.heap.size w).alloc (Nat.le_refl _) (.cells #[] 5)
  go_enter Try.func27, Try.ntmps27
  go_wp2
  go_loopw [5, 6] (fun o i wr => ∃ k : Nat, k ≤ l.length ∧ i = .int .i64 (k : Int) ∧ Own 5 .u8 wr w.heap.size wr.heap.size o (crypt (encF s) l k) ∧ Below w.heap.size w wr) (fun _ i _ => l.length - (intOf i).toNat)
  case atStart => exact ⟨0, Nat.zero_le _, rfl, hO, hB⟩
  case round =>
    obtain ⟨k, hk, rfl, hown, hb⟩ := hrel
    by_cases hlt : k < l.length
    · obtain ⟨b, off, rfl, p1, p2, p3⟩ := R3.out (by omega)
      have hxw := p3 k hlt
      have HT := Lib.hid (crypt_succ (encF s) l k)
      rw [show l.getD k 0 = l[k] by simp [List.getD, hlt]] at hxw HT
      obtain ⟨x0, x1⟩ := bounds_u8 (hwf.out _ (List.getElem_mem hlt))
      generalize l[k] = x at hxw HT x0 x1
      clear p3
      have HS := Lib.hid (fun (w' : World) (hb' : Below w.heap.size w w') => (⟨(hb'.cell (p := ⟨b, off + k, none⟩) (by show b < _; omega)).trans hxw, hb'⟩ : w'.cell? ⟨b, off + k, none⟩ = some (.int .u8 x) ∧ Below w.heap.size w w'))
      have hx := (HS.out wr hb).1
      clear hxw
      obtain ⟨q, hq⟩ : ∃ q, keyed s [(k : Int)] = q := ⟨_, rfl⟩
      have hqb := keyed_bd s [(k : Int)]
      rw [hq] at hqb
      obtain ⟨hq0, hq1⟩ := hqb
      obtain ⟨r, W2⟩ : ∃ r, q.tmod 256 = r := ⟨_, rfl⟩
      have hr0 : 0 ≤ r ∧ r < 256 ∧ r = q % 256 := by rw [← W2, Int.tmod_eq_emod_of_nonneg hq0]; omega
      obtain ⟨e, W4⟩ : ∃ e, (x + r).tmod 256 = e := ⟨_, rfl⟩
      have he0 : 0 ≤ e ∧ e ≤ 255 ∧ e = (x + r) % 256 := by rw [← W4, Int.tmod_eq_emod_of_nonneg (by omega)]; omega
      have HE := Lib.hid (show encF s k x = e by unfold encF; rw [hq, he0.2.2, hr0.2.2])
      obtain ⟨hr0, hr1, hr2⟩ := hr0
      obtain ⟨he0, he1, he2⟩ := he0
      have W2b := hr2.symm
      have W4b := he2.symm
      clear hr2 he2
      have W1 : IntKind.i64.wrap x = x := by rw [IntKind.wrap_i64]; omega
      have W3 : IntKind.i64.wrap (x + r) = x + r := by rw [IntKind.wrap_i64]; omega
      have W5 : IntKind.u8.wrap e = e := by rw [IntKind.wrap_u8]; omega
      have CK := Lib.hid (fun (W : World) (hi : Nat) (v : Value) (h : Row .i64 W hi v [(k : Int)]) (hh : hi ≤ W.heap.size) => (show Calls Try.prog 18 #[.int .i64 s, v] W fun e w' => e = .returned (.int .i64 q) ∧ Below W.heap.size W w' by rw [← hq]; exact spec_keyed W hi s v [(k : Int)] hs h hh (by simp)))
      clear hq
      have hsz0 := hb.size
      have hR1 := (row_one .i64 3 wr (k : Int) (wf_i64 (by omega) (by omega))).below (Below.refl (wr.heap.size + 1) _).drew (Nat.le_refl _)
      have hbA := (hb.alloc hb.size (.cells #[.int .i64 (k : Int)] 3)).drew
      have hbA0 := ((Below.refl wr.heap.size wr).alloc (Nat.le_refl _) (.cells #[.int .i64 (k : Int)] 3)).drew
      have hcl := crypt_len (encF s) l k
      have hklt : (k : Int) < (l.length : Int) := by omega
      have hk0 : (0 : Int) ≤ (k : Int) := by omega
      have hwe : (Lit.int .u8 e).wf = true := wf_u8 (by omega) (by omega)
      generalize hcc : crypt (encF s) l k = acc at hown hcl HT
      clear hcc
      have HCL := Lib.hid hcl
      have hle8 : acc.length + [e].length ≤ 2199023255552 := by rw [hcl]; simp; omega
      clear hcl
      go_upto_region 5 with fail
      go_region_held3 (fun w' => w'.cell? ⟨b, off + k, none⟩ = some (.int .u8 x) ∧ Below w.heap.size w w') (first | exact HS.out _ hb.drew | exact HS.out _ hbA | exact HS.out _ hb9 | exact HS.out _ hb8 | exact HS.out _ hb7)
        (first
          | (go_at_call 18; refine (CK.out _ _ _ hR1 (by simp [World.drew])).mono ?_; rintro e7 w7 ⟨rfl, hbk⟩; have hb7 := hbA.trans (hbk.mono hbA.size); have hown7 := (hown.below hbA0 (Nat.le_refl _)).below hbk (by simp [World.drew]); have hown8 := hown7.below (B := w7.heap.size) ((Below.refl _ w7).alloc (Nat.le_refl _) (.cells #[.int .u8 (e)] 5)) (by have := hbk.size; simp [World.drew] at this; omega); have hR8 := row_one .u8 5 w7 (e) hwe; have hb8 := hb7.alloc hb7.size (.cells #[.int .u8 (e)] 5); have hsz8 : w.heap.size ≤ (w7.alloc (.cells #[.int .u8 (e)] 5)).heap.size := (by have := hb7.size; simp; omega))
          | (refine step_append_Own rfl _ _ 22 rfl 5 i0 (.int .u8 0) 1 Try.underlying22 hi0 hz0 hz1 hz2 rfl .u8 w.heap.size _ _ acc rfl hown8 _ _ [e] rfl hR8 hle8 (by decide) hsz8 ?_; intro v9 w9 hown9 hb9'; have hb9 := hb8.trans hb9'))
      go_wp2
      go_roundw
      case rel => exact ⟨k + 1, by omega, by go_num, by rw [HT.out, HE.out]; exact hown9, hb9⟩
      case measure => simp only [intOf]; omega
    · go_wp2
      go_ret
      refine ⟨_, rfl, ?_, hb⟩
      obtain rfl : k = l.length := by omega
      exact hown
set_option maxHeartbeats 2000000 in
set_option maxRecDepth 100000 in
theorem spec_decrypt (w : World) (hi : Nat) (s : Int) (v : Value) (l : List Int) (hs : (Lit.int .i64 s).wf = true) (h : Row .u8 w hi v l) (hh : hi ≤ w.heap.size) (hn : l.length ≤ 137438953472) :
    Calls Try.prog 29 #[.int .i64 s, v] w fun e w' => ∃ u, e = .returned u ∧ Own 5 .u8 w' w.heap.size w'.heap.size u (decL s l) ∧ Below w.heap.size w w' := by
  obtain ⟨i0, hi0, hz0, hz1, hz2⟩ := info_parts infoByteS
  have hwf := Lib.hid h.wf
  obtain ⟨⟨A, c, rfl, r1, r2, _, r3⟩, _⟩ := h
  unfold maxLen at r2
  have R3 := Lib.hid r3
  clear r3
  have hO := (Own.empty 5 .u8 w).wide (lo' := w.heap.size) (hi' := (w.alloc (.cells #[] 5)).heap.size) (Nat.le_refl _) (by simp)
  have hB := (Below.refl w.heap.size w).alloc (Nat.le_refl _) (.cells #[] 5)
  go_enter Try.func29, Try.ntmps29
  go_wp2
  go_loopw [5, 6] (fun o i wr => ∃ k : Nat, k ≤ l.length ∧ i = .int .i64 (k : Int) ∧ Own 5 .u8 wr w.heap.size wr.heap.size o (crypt (decF s) l k) ∧ Below w.heap.size w wr) (fun _ i _ => l.length - (intOf i).toNat)
  case atStart => exact ⟨0, Nat.zero_le _, rfl, hO, hB⟩
  case round =>
    obtain ⟨k, hk, rfl, hown, hb⟩ := hrel
    by_cases hlt : k < l.length
    · obtain ⟨b, off, rfl, p1, p2, p3⟩ := R3.out (by omega)
      have hxw := p3 k hlt
      have HT := Lib.hid (crypt_succ (decF s) l k)
      rw [show l.getD k 0 = l[k] by simp [List.getD, hlt]] at hxw HT
      obtain ⟨x0, x1⟩ := bounds_u8 (hwf.out _ (List.getElem_mem hlt))
      generalize l[k] = x at hxw HT x0 x1
      clear p3
      have HS := Lib.hid (fun (w' : World) (hb' : Below w.heap.size w w') => (⟨(hb'.cell (p := ⟨b, off + k, none⟩) (by show b < _; omega)).trans hxw, hb'⟩ : w'.cell? ⟨b, off + k, none⟩ = some (.int .u8 x) ∧ Below w.heap.size w w'))
      have hx := (HS.out wr hb).1
      clear hxw
      obtain ⟨q, hq⟩ : ∃ q, keyed s [(k : Int)] = q := ⟨_, rfl⟩
      have hqb := keyed_bd s [(k : Int)]
      rw [hq] at hqb
      obtain ⟨hq0, hq1⟩ := hqb
      obtain ⟨r, W2⟩ : ∃ r, q.tmod 256 = r := ⟨_, rfl⟩
      have hr0 : 0 ≤ r ∧ r < 256 ∧ r = q % 256 := by rw [← W2, Int.tmod_eq_emod_of_nonneg hq0]; omega
      obtain ⟨e, W4⟩ : ∃ e, modOf (x - r) 256 = e := ⟨_, rfl⟩
      have he0 : 0 ≤ e ∧ e ≤ 255 ∧ e = (x - r) % 256 := by rw [← W4, modOf_byte]; omega
      have HE := Lib.hid (show decF s k x = e by unfold decF; rw [hq, he0.2.2, hr0.2.2])
      obtain ⟨hr0, hr1, hr2⟩ := hr0
      obtain ⟨he0, he1, he2⟩ := he0
      have W2b := hr2.symm
      have CM := Lib.hid (fun W : World => (show Calls Try.prog 36 #[.int .i64 (x - r), .int .i64 256] W fun e' w' => e' = .returned (.int .i64 e) ∧ W = w' by rw [← W4]; exact spec_mod (x - r) 256 W))
      clear W4
      clear hr2 he2
      have W1 : IntKind.i64.wrap x = x := by rw [IntKind.wrap_i64]; omega
      have W3 : IntKind.i64.wrap (x - r) = x - r := by rw [IntKind.wrap_i64]; omega
      have W5 : IntKind.u8.wrap e = e := by rw [IntKind.wrap_u8]; omega
      have CK := Lib.hid (fun (W : World) (hi : Nat) (v : Value) (h : Row .i64 W hi v [(k : Int)]) (hh : hi ≤ W.heap.size) => (show Calls Try.prog 18 #[.int .i64 s, v] W fun e w' => e = .returned (.int .i64 q) ∧ Below W.heap.size W w' by rw [← hq]; exact spec_keyed W hi s v [(k : Int)] hs h hh (by simp)))
      clear hq
      have hsz0 := hb.size
      have hR1 := (row_one .i64 3 wr (k : Int) (wf_i64 (by omega) (by omega))).below (Below.refl (wr.heap.size + 1) _).drew (Nat.le_refl _)
      have hbA := (hb.alloc hb.size (.cells #[.int .i64 (k : Int)] 3)).drew
      have hbA0 := ((Below.refl wr.heap.size wr).alloc (Nat.le_refl _) (.cells #[.int .i64 (k : Int)] 3)).drew
      have hcl := crypt_len (decF s) l k
      have hklt : (k : Int) < (l.length : Int) := by omega
      have hk0 : (0 : Int) ≤ (k : Int) := by omega
      have hwe : (Lit.int .u8 e).wf = true := wf_u8 (by omega) (by omega)
      generalize hcc : crypt (decF s) l k = acc at hown hcl HT
      clear hcc
      have HCL := Lib.hid hcl
      have hle8 : acc.length + [e].length ≤ 2199023255552 := by rw [hcl]; simp; omega
      clear hcl
      go_upto_region 5 with fail
      go_region_held3 (fun w' => w'.cell? ⟨b, off + k, none⟩ = some (.int .u8 x) ∧ Below w.heap.size w w') (first | exact HS.out _ hb.drew | exact HS.out _ hbA | exact HS.out _ hb9 | exact HS.out _ hb8 | exact HS.out _ hb7)
        (first
          | (go_at_call 18; refine (CK.out _ _ _ hR1 (by simp [World.drew])).mono ?_; rintro e7 w7 ⟨rfl, hbk⟩; have hb7 := hbA.trans (hbk.mono hbA.size); have hown7 := (hown.below hbA0 (Nat.le_refl _)).below hbk (by simp [World.drew]); have hown8 := hown7.below (B := w7.heap.size) ((Below.refl _ w7).alloc (Nat.le_refl _) (.cells #[.int .u8 (e)] 5)) (by have := hbk.size; simp [World.drew] at this; omega); have hR8 := row_one .u8 5 w7 (e) hwe; have hb8 := hb7.alloc hb7.size (.cells #[.int .u8 (e)] 5); have hsz8 : w.heap.size ≤ (w7.alloc (.cells #[.int .u8 (e)] 5)).heap.size := (by have := hb7.size; simp; omega))
          | (go_at_call 36; refine (CM.out _).mono ?_; rintro e8 w8 ⟨rfl, rfl⟩)
          | (refine step_append_Own rfl _ _ 22 rfl 5 i0 (.int .u8 0) 1 Try.underlying22 hi0 hz0 hz1 hz2 rfl .u8 w.heap.size _ _ acc rfl hown8 _ _ [e] rfl hR8 hle8 (by decide) hsz8 ?_; intro v9 w9 hown9 hb9'; have hb9 := hb8.trans hb9'))
      go_wp2
      go_roundw
      case rel => exact ⟨k + 1, by omega, by go_num, by rw [HT.out, HE.out]; exact hown9, hb9⟩
      case measure => simp only [intOf]; omega
    · go_wp2
      go_ret
      refine ⟨_, rfl, ?_, hb⟩
      obtain rfl : k = l.length := by omega
      exact hown
end Go.Proofs.Ytlbdagmmlfcbpaa
