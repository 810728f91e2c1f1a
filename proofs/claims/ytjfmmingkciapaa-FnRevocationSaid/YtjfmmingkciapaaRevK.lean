/- Revocations (chapter 11): contracts of the landed functions: what is looked up. Condition: the numbers are integers of their type. -/
import Derived.Test.YtjfmmingkciapaaRevJ
namespace Go.Proofs.Ytjfmmingkciapaa
open Go.ChangeShapes Go.WideShapes Go.ChangeAt Go.RowKit Go.Maps
set_option linter.unusedVariables false

theorem atR_wf (s : Int) : ∀ {xs : List RevokedD}, (∀ x ∈ xs, x.wf) → (Lit.int .i64 (atR xs s)).wf = true
  | [], _ => wf_i64 (x := -1) (by decide) (by decide)
  | x :: l, h => by
    unfold atR
    split
    · exact (h x (List.mem_cons_self ..)).2
    · exact atR_wf s fun y hy => h y (List.mem_cons_of_mem _ hy)
theorem revokedB_asc (xs : List RevokedD) (s n : Int) : ascB [0, atR xs s, n] = revokedB xs s n := by simp [ascB, revokedB]
set_option maxHeartbeats 2000000 in
theorem impl_timeOf (w : World) (b0 hi c : Nat) (a : Option Addr) (xs : List RevokedD) (s : Int) (hd : HasDir w b0 xs) (h : RowRevoked w hi (.slice a xs.length c) xs) (hs : (Lit.int .i64 s).wf = true) :
    Calls Try.prog 80 #[.agg #[.map (some b0), .slice a xs.length c], .int .i64 s] w fun e w' => e = .returned (.int .i64 (atR xs s)) ∧ Below w.heap.size w w' := by
  obtain ⟨h1, h2⟩ := h.fits
  unfold maxLen at h2
  obtain ⟨W, hW⟩ : ∃ W, W = w.alloc (.cells #[.map (some b0), .slice a xs.length c] 95) := ⟨_, rfl⟩
  have hb : Below w.heap.size w W := by rw [hW]; exact (Below.refl _ _).alloc (Nat.le_refl _) _
  have hk : W.heap[w.heap.size]? = some (.cells #[.map (some b0), .slice a xs.length c] 95) := by rw [hW]; exact blk_new _ _ _
  have CL := Lib.hid (impl_lookUpR W b0 xs s (hd.below hb hd.lt) hs)
  have HR := Lib.hid h
  clear h
  obtain ⟨⟨x0, x1⟩, -⟩ := cls_2 hk
  clear hk
  rcases findR_cases xs s with ⟨hq, ha, -⟩ | ⟨i, x, hq, hx, hxs, ha⟩
  · rw [hq] at CL
    rw [ha]
    clear hq ha
    go_enter Try.func80, Try.ntmps80
    go_upto_region 1 with fail
    rw [← hW]
    clear hW
    go_wp2_with (go_at_call 119; refine CL.out.mono ?_; rintro e u ⟨rfl, rfl⟩)
    go_ret
    exact ⟨rfl, hb⟩
  · rw [hq] at CL
    rw [ha]
    obtain ⟨p0, p1⟩ := x
    obtain ⟨b, off, rfl, g1, g2, HC⟩ := HR.out.at hx
    obtain ⟨c0, c1⟩ := HC _ _ g2 hb
    have hi2 : i < xs.length := (List.getElem?_eq_some_iff.1 hx).1
    have hi3 : (i : Int) < (xs.length : Int) := by omega
    have hi4 : ((i : Int) == -1) = false := by simp
    clear hq ha HC hx
    go_enter Try.func80, Try.ntmps80
    go_upto_region 1 with fail
    rw [← hW]
    clear hW
    go_wp2_with (go_at_call 119; refine CL.out.mono ?_; rintro e u ⟨rfl, rfl⟩)
    go_ret
    exact ⟨rfl, hb⟩
set_option maxHeartbeats 2000000 in
theorem impl_isRevokedM (w : World) (b0 hi c : Nat) (a : Option Addr) (xs : List RevokedD) (s n : Int) (hd : HasDir w b0 xs) (h : RowRevoked w hi (.slice a xs.length c) xs) (hh : hi ≤ w.heap.size) (hwf : ∀ x ∈ xs, x.wf) (hs : (Lit.int .i64 s).wf = true) (hn : (Lit.int .i64 n).wf = true) :
    Calls Try.prog 79 #[.agg #[.map (some b0), .slice a xs.length c], .int .i64 s, .int .i64 n] w fun e w' => e = .returned (.bool (revokedB xs s n)) ∧ Below w.heap.size w w' := by
  have hq := atR_wf s hwf
  obtain ⟨W, hW⟩ : ∃ W, W = w.alloc (.cells #[.map (some b0), .slice a xs.length c] 95) := ⟨_, rfl⟩
  have hb : Below w.heap.size w W := by rw [hW]; exact (Below.refl _ _).alloc (Nat.le_refl _) _
  have hk : W.heap[w.heap.size]? = some (.cells #[.map (some b0), .slice a xs.length c] 95) := by rw [hW]; exact blk_new _ _ _
  have CT := Lib.hid (impl_timeOf W b0 hi c a xs s (hd.below hb hd.lt) (h.below hb hh) hs)
  rw [← revokedB_asc]
  generalize atR xs s = q at CT hq ⊢
  have CA := Lib.hid (fun (W : World) => show Calls Try.prog 124 #[.slice (some ⟨W.heap.size, 0, none⟩) 3 3] (W.alloc (.cells #[.int .i64 0, .int .i64 q, .int .i64 n] 3)) _ from
    impl_asc (W.alloc (.cells #[.int .i64 0, .int .i64 q, .int .i64 n] 3)) (W.heap.size + 1) 3 (some ⟨W.heap.size, 0, none⟩) [0, q, n] (Own.lit 3 W [0, q, n] (fun y hy => by
      simp only [List.mem_cons, List.not_mem_nil, or_false] at hy
      rcases hy with rfl | rfl | rfl
      · exact wf_i64 (by decide) (by decide)
      · exact hq
      · exact hn) (by show 3 ≤ maxLen; decide)).read (by simp))
  generalize ascB [0, q, n] = R at CA ⊢
  obtain ⟨⟨x0, x1⟩, -⟩ := cls_2 hk
  clear hq hn hs hk h hd
  go_enter Try.func79, Try.ntmps79
  go_upto_region 1 with fail
  rw [← hW]
  clear hW
  go_wp2_with (first
    | (go_at_call 80; refine CT.out.mono ?_; rintro e u ⟨rfl, b1⟩)
    | (go_at_call 124; refine (CA.out _).mono ?_; rintro e u2 ⟨rfl, b2⟩))
  go_ret
  have bA : Below u.heap.size u (u.alloc (.cells #[.int .i64 0, .int .i64 q, .int .i64 n] 3)) := (Below.refl _ _).alloc (Nat.le_refl _) _
  exact ⟨rfl, (hb.trans (b1.mono hb.size)).trans ((bA.trans (b2.mono bA.size)).mono (hb.trans (b1.mono hb.size)).size)⟩
theorem impl_revokedAt (w : World) (hi c : Nat) (a : Option Addr) (xs : List RevokedD) (s : Int) (h : RowRevoked w hi (.slice a xs.length c) xs) (hh : hi ≤ w.heap.size) (hwf : ∀ x ∈ xs, x.wf) (hs : (Lit.int .i64 s).wf = true) :
    Calls Try.prog 26 #[.slice a xs.length c, .int .i64 s] w fun e w' => e = .returned (.int .i64 (atR xs s)) ∧ Below w.heap.size w w' := by
  have CR := Lib.hid (impl_revocationsOf w hi c a xs h hh hwf)
  have CT := Lib.hid (fun (W : World) (b : Nat) (hd : HasDir W b xs) (hb : Below w.heap.size w W) => impl_timeOf W b hi c a xs s hd (h.below hb hh) hs)
  generalize atR xs s = q at CT ⊢
  clear h hwf hs
  go_enter Try.func26, Try.ntmps26
  go_wp2_with fail
  refine CR.out.mono ?_
  rintro e u ⟨b, rfl, hb0, hd, b1⟩
  have CT2 := Lib.hid (CT.out u b hd b1)
  clear CT CR hd
  go_wp2_with (go_at_call 80; refine CT2.out.mono ?_; rintro e u2 ⟨rfl, b2⟩)
  go_ret
  exact ⟨rfl, b1.trans (b2.mono b1.size)⟩
theorem impl_isRevoked (w : World) (hi c : Nat) (a : Option Addr) (xs : List RevokedD) (s n : Int) (h : RowRevoked w hi (.slice a xs.length c) xs) (hh : hi ≤ w.heap.size) (hwf : ∀ x ∈ xs, x.wf) (hs : (Lit.int .i64 s).wf = true) (hn : (Lit.int .i64 n).wf = true) :
    Calls Try.prog 25 #[.slice a xs.length c, .int .i64 s, .int .i64 n] w fun e w' => e = .returned (.bool (revokedB xs s n)) ∧ Below w.heap.size w w' := by
  have CR := Lib.hid (impl_revocationsOf w hi c a xs h hh hwf)
  have CT := Lib.hid (fun (W : World) (b : Nat) (hd : HasDir W b xs) (hb : Below w.heap.size w W) => impl_isRevokedM W b hi c a xs s n hd (h.below hb hh) (Nat.le_trans hh hb.size) hwf hs hn)
  generalize revokedB xs s n = q at CT ⊢
  clear h hwf hs hn
  go_enter Try.func25, Try.ntmps25
  go_wp2_with fail
  refine CR.out.mono ?_
  rintro e u ⟨b, rfl, hb0, hd, b1⟩
  have CT2 := Lib.hid (CT.out u b hd b1)
  clear CT CR hd
  go_wp2_with (go_at_call 79; refine CT2.out.mono ?_; rintro e u2 ⟨rfl, b2⟩)
  go_ret
  exact ⟨rfl, b1.trans (b2.mono b1.size)⟩
end Go.Proofs.Ytjfmmingkciapaa
