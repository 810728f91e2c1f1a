/- Certificates (chapter 10): the landed functions that seal: sealUnder (a closure), MarkCert, ProveKey. No condition but the bounds of what came in. -/
import Derived.Test.YtkbeejnikmegmaaDoorCert2
import Derived.Test.YtkbeejnikmegmaaDoorCryI
namespace Go.Proofs.YtkbeejnikmegmaaDoor
open Go.ChangeShapes Go.WideShapes Go.ChangeAt Go.RowKit
set_option linter.unusedVariables false

theorem impl_sealUnder (w : World) (k : Int) :
    Calls Tryd.prog 28 #[.int .i64 k] w fun e w' => e = .returned (.func (Fn.func 45) #[] #[.pointer (some ⟨w.heap.size, 0, none⟩)]) ∧ w' = w.alloc (.cells #[.int .i64 k] 3) := by
  go_enter Tryd.func28, Tryd.ntmps28
  go_wp2
  go_ret
  exact ⟨rfl, rfl⟩
theorem impl_sealAt (w : World) (B hi : Nat) (k : Int) (v : Value) (l : List Int) (hk : (Lit.int .i64 k).wf = true) (hB : w.cell? ⟨B, 0, none⟩ = some (.int .i64 k)) (h : Row .i64 w hi v l) (hh : hi ≤ w.heap.size) (hn : l.length ≤ 137438953472) :
    Calls Tryd.prog 45 #[v, .pointer (some ⟨B, 0, none⟩)] w fun e w' => e = .returned (.int .i64 (keyed k l)) ∧ Below w.heap.size w w' := by
  have HR := Lib.hid h
  obtain ⟨⟨A, c, rfl, r1, r2, _, r3⟩, _⟩ := h
  clear r3
  go_enter Tryd.func45, Tryd.ntmps45
  go_wp2_with fail
  refine (impl_keyed w hi k _ l hk HR.out hh hn).mono ?_
  rintro e w1 ⟨rfl, b1⟩
  go_wp2
  go_ret
  exact ⟨rfl, b1⟩
theorem impl_proveKey (k n : Int) (w : World) (hk : (Lit.int .i64 k).wf = true) (hn : (Lit.int .i64 n).wf = true) :
    Calls Tryd.prog 11 #[.int .i64 k, .int .i64 n] w fun e w' => e = .returned (.int .i64 (proveC k n)) ∧ Below w.heap.size w w' := by
  obtain ⟨W, hW⟩ : ∃ W, W = w.alloc (.cells #[.int .i64 k] 3) := ⟨_, rfl⟩
  have HK := Lib.hid (show W.heap[w.heap.size]? = some (.cells #[.int .i64 k] 3) by rw [hW]; exact blk_new _ _ _)
  have HB := Lib.hid (fun (u : World) (hb : Below W.heap.size W u) => below_box hW hb)
  go_enter Tryd.func11, Tryd.ntmps11
  go_wp2_with fail
  refine (impl_sealUnder _ _).mono ?_
  rintro e w1 ⟨rfl, hw⟩
  rw [← hW] at hw
  subst hw
  clear hW
  go_wp2_with fail
  have b0 := (Below.refl w1.heap.size w1).alloc (Nat.le_refl _) (.cells #[.int .i64 n] 3)
  refine (impl_sealAt _ w.heap.size _ k _ [n] hk (blk_cell (blk_keep HK.out b0 (blk_lt HK.out)) 0 rfl) (row_one .i64 3 w1 n hn) (by simp) (by simp)).mono ?_
  rintro e w2 ⟨rfl, b2⟩
  go_wp2
  go_ret
  exact ⟨rfl, HB.out _ (b0.trans (b2.mono (by simp)))⟩
set_option maxHeartbeats 2000000 in
theorem impl_markCert (s : Int) (x : CertD) (w : World) (hs : (Lit.int .i64 s).wf = true) (hx : x.wf) : Calls Tryd.prog 19 #[.int .i64 s, x.val] w fun e w' => e = .returned (markC s x).val ∧ Below w.heap.size w w' := by
  obtain ⟨n, p, k, f, u, m⟩ := x
  have HR := Lib.hid (fun (W : World) => (Own.lit 3 W (certL ⟨n, p, k, f, u, m⟩) (certL_wf hx) (by show 5 ≤ maxLen; decide)).read)
  have CK := Lib.hid (fun (W : World) (B hi : Nat) (v : Value) (hB : W.cell? ⟨B, 0, none⟩ = some (.int .i64 s)) (h : Row .i64 W hi v [n, p, k, f, u]) (hh : hi ≤ W.heap.size) => impl_sealAt W B hi s v [n, p, k, f, u] hs hB h hh (by simp))
  clear hx
  show Calls _ _ _ _ fun e w' => e = .returned (CertD.val ⟨n, p, k, f, u, keyed s [n, p, k, f, u]⟩) ∧ _
  generalize keyed s [n, p, k, f, u] = q at CK
  rw [CertD.val_mk, CertD.val_mk]
  obtain ⟨W1, hW1⟩ : ∃ W1, W1 = ((w.alloc (.cells #[.int .i64 n, .int .i64 p, .int .i64 k, .int .i64 f, .int .i64 u, .int .i64 m] 27)).alloc (.cells #[.int .i64 0, .int .i64 0, .int .i64 0, .int .i64 0, .int .i64 0, .int .i64 0] 27)).alloc (.cells #[.int .i64 s] 3) := ⟨_, rfl⟩
  have b1 : Below w.heap.size w W1 := by rw [hW1]; go_grown
  have z1 : W1.heap.size = w.heap.size + 1 + 1 + 1 := by rw [hW1]; simp
  have k0 : W1.heap[w.heap.size]? = some (.cells #[.int .i64 n, .int .i64 p, .int .i64 k, .int .i64 f, .int .i64 u, .int .i64 m] 27) := by rw [hW1]; exact blk_keep (C := w.heap.size + 1) (blk_new _ _ _) (by go_grown) (by omega)
  have k1 : W1.heap[w.heap.size + 1]? = some (.cells #[.int .i64 0, .int .i64 0, .int .i64 0, .int .i64 0, .int .i64 0, .int .i64 0] 27) := by rw [hW1]; exact blk_keep (C := w.heap.size + 1 + 1) (blk_new_at (w := w.alloc (.cells #[.int .i64 n, .int .i64 p, .int .i64 k, .int .i64 f, .int .i64 u, .int .i64 m] 27)) _ _ (by simp)) (by go_grown) (by omega)
  have k2 : W1.heap[w.heap.size + 1 + 1]? = some (.cells #[.int .i64 s] 3) := by rw [hW1]; exact blk_new_at _ _ (by simp)
  have HW := Lib.hid hW1
  clear hW1
  go_enter Tryd.func19, Tryd.ntmps19
  go_wp2_with fail
  refine (impl_sealUnder _ _).mono ?_
  rintro e w1 ⟨rfl, hw⟩
  rw [← HW.out] at hw
  subst hw
  clear HW
  obtain ⟨⟨c0, c1, c2, c3, c4, c5⟩, -⟩ := cls_6 k0
  go_wp2_with fail
  have hR := HR.out w1
  rw [z1] at hR
  have b0 := (Below.refl w1.heap.size w1).alloc (Nat.le_refl _) (.cells #[.int .i64 n, .int .i64 p, .int .i64 k, .int .i64 f, .int .i64 u] 3)
  have c6 := blk_cell (blk_keep k2 b0 (blk_lt k2)) 0 rfl
  refine (CK.out _ (w.heap.size + 1 + 1) _ _ (by exact c6) hR (by simp [z1])).mono ?_
  rintro e w2 ⟨rfl, b2⟩
  have b12 := b0.trans (b2.mono (by simp))
  have k0' := blk_keep k0 b12 (by omega)
  have k1' := blk_keep k1 b12 (by omega)
  have B2 := b1.trans (b12.mono (by omega))
  clear k0 k1 k2 c0 c1 c2 c3 c4 c5 c6 b2 hR HR CK b1 b0 b12
  have T1 : Touch [w.heap.size] w2 (w2.setCell ⟨w.heap.size, 5, none⟩ (.int .i64 q)) := Touch.set (List.mem_singleton.2 rfl) _ _ _
  have k2 := (T1.block _ (blk_lt k1') (by simp)).trans k1'
  have B3 := B2.trans (T1.below (B := w.heap.size) (fun k hk => by rw [List.mem_singleton] at hk; omega) B2.size)
  obtain ⟨hE, tE⟩ := stt_6 k2 (.int .i64 n) (.int .i64 p) (.int .i64 k) (.int .i64 f) (.int .i64 u) (.int .i64 q)
  have B4 := B3.trans (tE.below (B := w.heap.size) (fun k hk => by rw [List.mem_singleton] at hk; omega) B3.size)
  have HE := Lib.hid (cls_6 hE).1
  have HB := Lib.hid B4
  clear k2 B3 tE hE T1 B2 B4
  obtain ⟨⟨c0, c1, c2, c3, c4, c5⟩, -, -, -, -, -, f5⟩ := cls_6 k0'
  obtain ⟨⟨d0, d1, d2, d3, d4, d5⟩, g0, g1, g2, g3, g4, g5⟩ := cls_6 k1'
  clear k0' k1'
  go_wp2
  obtain ⟨e0, e1, e2, e3, e4, e5⟩ := HE.out
  have B4 := HB.out
  generalize hV : World.setCell _ _ _ = V at e0 e1 e2 e3 e4 e5 B4 ⊢
  exact bodyPost_ret (v := .agg #[.int .i64 n, .int .i64 p, .int .i64 k, .int .i64 f, .int .i64 u, .int .i64 q]) (by simp [results, Tryd.results19, go_sem, e0, e1, e2, e3, e4, e5]) rfl ⟨rfl, B4⟩
end Go.Proofs.YtkbeejnikmegmaaDoor
