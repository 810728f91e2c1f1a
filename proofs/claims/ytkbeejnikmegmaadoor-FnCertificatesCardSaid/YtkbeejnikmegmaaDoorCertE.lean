/- Certificates (chapter 10): the landed IssueCert, CheckCert, HasProved. Condition: NoKey; else none but the bounds of what came in. -/
import Derived.Test.YtkbeejnikmegmaaDoorCertD
import Derived.Laws.StructEq
import Derived.Deep.RegionHeld3
namespace Go.Proofs.YtkbeejnikmegmaaDoor
open Go.ChangeShapes Go.WideShapes Go.ChangeAt Go.RowKit
set_option linter.unusedVariables false

set_option maxHeartbeats 4000000 in
theorem impl_issueCert (s n p k f sp : Int) (w : World) (hs : (Lit.int .i64 s).wf = true) (hn : (Lit.int .i64 n).wf = true) (hp : (Lit.int .i64 p).wf = true) (hk : (Lit.int .i64 k).wf = true) (hf : (Lit.int .i64 f).wf = true) (hK : NoKey w) :
    Calls Tryd.prog 6 #[.int .i64 s, .int .i64 n, .int .i64 p, .int .i64 k, .int .i64 f, .int .i64 sp] w fun e w' => e = .returned (.tuple #[(issueC s n p k f sp).val, .bool (okIssue s n p k f sp)]) ∧ Below w.heap.size w w' := by
  obtain ⟨q, hq⟩ : ∃ q, endOf f sp = q := ⟨_, rfl⟩
  have hqw := endOf_wf f sp
  rw [hq] at hqw
  have CE := Lib.hid (fun W => show Calls Tryd.prog 17 #[.int .i64 f, .int .i64 sp] W fun e w' => e = .returned (.int .i64 q) ∧ Below W.heap.size W w' from hq ▸ impl_end f sp W)
  have CM := Lib.hid (fun W => impl_markCert s ⟨n, p, k, f, q, 0⟩ W hs ⟨hn, hp, hk, hf, hqw, wf_zero⟩)
  have CI := Lib.hid (fun W (hb : Below w.heap.size w W) => impl_isCert ⟨n, p, k, f, q, 0⟩ W ⟨hn, hp, hk, hf, hqw, wf_zero⟩ (hK.kept hb))
  have CV := Lib.hid (fun U (hb : Below w.heap.size w U) => show Calls Tryd.prog 18 #[.int .i64 s] U fun e w' => e = .returned (.bool (validKey s)) ∧ Below U.heap.size U w' from impl_valid s U (hK.kept hb))
  have hok : okIssue s n p k f sp = (validKey s && (decide (0 ≤ sp) && certB ⟨n, p, k, f, q, 0⟩)) := by unfold okIssue newC; rw [hq]
  have his : issueC s n p k f sp = if (validKey s && (decide (0 ≤ sp) && certB ⟨n, p, k, f, q, 0⟩)) then ⟨n, p, k, f, q, keyed s [n, p, k, f, q]⟩ else ⟨0, 0, 0, 0, 0, 0⟩ := by unfold issueC; rw [hok]; unfold newC; rw [hq]; rfl
  rw [his, hok]
  generalize certB ⟨n, p, k, f, q, 0⟩ = cb at CI ⊢
  generalize validKey s = vb at CV ⊢
  simp only [markC, certL] at CM
  generalize keyed s [n, p, k, f, q] = m at CM ⊢
  clear hq hqw his hok hs hn hp hk hf hK
  simp only [CertD.val_mk] at CM CI
  obtain ⟨R, hR⟩ : ∃ R : Value, Value.tuple #[(if (vb && (decide (0 ≤ sp) && cb)) then (⟨n, p, k, f, q, m⟩ : CertD) else ⟨0, 0, 0, 0, 0, 0⟩).val, .bool (vb && (decide (0 ≤ sp) && cb))] = R := ⟨_, rfl⟩
  rw [hR]
  have HR := Lib.hid hR
  clear hR
  go_enter Tryd.func6, Tryd.ntmps6
  go_wp2_with fail
  refine (CE.out _).mono ?_
  rintro e w1 ⟨rfl, b1⟩
  have k0 := blk_keep (blk_new w 27 #[.int .i64 0, .int .i64 0, .int .i64 0, .int .i64 0, .int .i64 0, .int .i64 0]) b1 (by simp)
  have B1 := (Below.refl w.heap.size w).alloc (Nat.le_refl _) (.cells #[.int .i64 0, .int .i64 0, .int .i64 0, .int .i64 0, .int .i64 0, .int .i64 0] 27)
  replace B1 := B1.trans (b1.mono (by simp))
  have l0 := blk_lt k0
  clear b1 CE
  go_upto_region 2 with fail
  obtain ⟨W1, hW1⟩ : ∃ W1, W1 = w1.alloc (.cells #[.int .i64 n, .int .i64 p, .int .i64 k, .int .i64 f, .int .i64 q, .int .i64 0] 27) := ⟨_, rfl⟩
  rw [← hW1]
  have k1 : W1.heap[w.heap.size]? = some (.cells #[.int .i64 0, .int .i64 0, .int .i64 0, .int .i64 0, .int .i64 0, .int .i64 0] 27) := by rw [hW1]; exact blk_keep k0 ((Below.refl w1.heap.size w1).alloc (Nat.le_refl _) _) l0
  have k2 : W1.heap[w1.heap.size]? = some (.cells #[.int .i64 n, .int .i64 p, .int .i64 k, .int .i64 f, .int .i64 q, .int .i64 0] 27) := by rw [hW1]; exact blk_new _ _ _
  have B2 : Below w.heap.size w W1 := by rw [hW1]; exact B1.alloc B1.size _
  have hne : w.heap.size ≠ w1.heap.size := by omega
  generalize w1.heap.size = g at k2 hne ⊢
  clear hW1 B1 k0 l0
  go_wp2_with fail
  refine (CV.out _ B2).mono ?_
  rintro e W2 ⟨rfl, b2⟩
  replace k1 := blk_keep k1 b2 (blk_lt k1)
  replace k2 := blk_keep k2 b2 (blk_lt k2)
  replace B2 := B2.trans (b2.mono B2.size)
  clear b2 CV
  cases hv : vb
  · subst hv
    obtain ⟨⟨d0, d1, d2, d3, d4, d5⟩, g0, g1, g2, g3, g4, g5⟩ := cls_6 k1
    obtain ⟨hE, tE⟩ := stt_6 k1 (.int .i64 0) (.int .i64 0) (.int .i64 0) (.int .i64 0) (.int .i64 0) (.int .i64 0)
    have HE := Lib.hid (cls_6 hE).1
    have HB := Lib.hid (B2.trans (tE.below (B := w.heap.size) (fun k hk => by rw [List.mem_singleton] at hk; omega) B2.size))
    clear hE tE
    go_wp2
    obtain ⟨e0, e1, e2, e3, e4, e5⟩ := HE.out
    have B4 := HB.out
    generalize World.setCell _ _ _ = V at e0 e1 e2 e3 e4 e5 B4 ⊢
    exact bodyPost_ret (v := .tuple #[.agg #[.int .i64 0, .int .i64 0, .int .i64 0, .int .i64 0, .int .i64 0, .int .i64 0], .bool false]) (by simp [results, Tryd.results6, go_sem, e0, e1, e2, e3, e4, e5]) rfl ⟨by rw [← HR.out]; rfl, B4⟩
  · subst hv
    obtain ⟨⟨c0, c1, c2, c3, c4, c5⟩, -⟩ := cls_6 k2
    go_wp2_with fail
    refine (CI.out _ B2).mono ?_
    rintro e w3 ⟨rfl, b3⟩
    have k3 := blk_keep k1 b3 (blk_lt k1)
    have k4 := blk_keep k2 b3 (blk_lt k2)
    have B3 := B2.trans (b3.mono B2.size)
    clear c0 c1 c2 c3 c4 c5 k1 k2 B2 b3
    cases hc : cb
    · subst hc
      obtain ⟨⟨d0, d1, d2, d3, d4, d5⟩, g0, g1, g2, g3, g4, g5⟩ := cls_6 k3
      obtain ⟨hE, tE⟩ := stt_6 k3 (.int .i64 0) (.int .i64 0) (.int .i64 0) (.int .i64 0) (.int .i64 0) (.int .i64 0)
      have HE := Lib.hid (cls_6 hE).1
      have HB := Lib.hid (B3.trans (tE.below (B := w.heap.size) (fun k hk => by rw [List.mem_singleton] at hk; omega) B3.size))
      clear hE tE
      go_wp2
      obtain ⟨e0, e1, e2, e3, e4, e5⟩ := HE.out
      have B4 := HB.out
      generalize World.setCell _ _ _ = V at e0 e1 e2 e3 e4 e5 B4 ⊢
      exact bodyPost_ret (v := .tuple #[.agg #[.int .i64 0, .int .i64 0, .int .i64 0, .int .i64 0, .int .i64 0, .int .i64 0], .bool false]) (by simp [results, Tryd.results6, go_sem, e0, e1, e2, e3, e4, e5]) rfl ⟨by rw [← HR.out]; simp; rfl, B4⟩
    · subst hc
      by_cases hsp : 0 ≤ sp
      · have HP := Lib.hid (decide_eq_true hsp)
        have hlt : decide (sp < 0) = false := decide_eq_false (by omega)
        obtain ⟨⟨c0, c1, c2, c3, c4, c5⟩, -⟩ := cls_6 k4
        go_wp2_with fail
        refine (CM.out _).mono ?_
        rintro e w4 ⟨rfl, b4⟩
        have k5 := blk_keep k3 b4 (blk_lt k3)
        have B5 := B3.trans (b4.mono B3.size)
        clear c0 c1 c2 c3 c4 c5 k3 k4 B3 b4
        obtain ⟨⟨d0, d1, d2, d3, d4, d5⟩, g0, g1, g2, g3, g4, g5⟩ := cls_6 k5
        obtain ⟨hE, tE⟩ := stt_6 k5 (.int .i64 n) (.int .i64 p) (.int .i64 k) (.int .i64 f) (.int .i64 q) (.int .i64 m)
        have HE := Lib.hid (cls_6 hE).1
        have HB := Lib.hid (B5.trans (tE.below (B := w.heap.size) (fun k hk => by rw [List.mem_singleton] at hk; omega) B5.size))
        clear hE tE
        go_wp2
        obtain ⟨e0, e1, e2, e3, e4, e5⟩ := HE.out
        have B4 := HB.out
        generalize World.setCell _ _ _ = V at e0 e1 e2 e3 e4 e5 B4 ⊢
        exact bodyPost_ret (v := .tuple #[.agg #[.int .i64 n, .int .i64 p, .int .i64 k, .int .i64 f, .int .i64 q, .int .i64 m], .bool true]) (by simp [results, Tryd.results6, go_sem, e0, e1, e2, e3, e4, e5]) rfl ⟨by rw [← HR.out, HP.out]; rfl, B4⟩
      · have HP := Lib.hid (decide_eq_false hsp)
        have hlt : decide (sp < 0) = true := decide_eq_true (by omega)
        obtain ⟨⟨d0, d1, d2, d3, d4, d5⟩, g0, g1, g2, g3, g4, g5⟩ := cls_6 k3
        obtain ⟨hE, tE⟩ := stt_6 k3 (.int .i64 0) (.int .i64 0) (.int .i64 0) (.int .i64 0) (.int .i64 0) (.int .i64 0)
        have HE := Lib.hid (cls_6 hE).1
        have HB := Lib.hid (B3.trans (tE.below (B := w.heap.size) (fun k hk => by rw [List.mem_singleton] at hk; omega) B3.size))
        clear hE tE
        go_wp2
        obtain ⟨e0, e1, e2, e3, e4, e5⟩ := HE.out
        have B4 := HB.out
        generalize World.setCell _ _ _ = V at e0 e1 e2 e3 e4 e5 B4 ⊢
        exact bodyPost_ret (v := .tuple #[.agg #[.int .i64 0, .int .i64 0, .int .i64 0, .int .i64 0, .int .i64 0, .int .i64 0], .bool false]) (by simp [results, Tryd.results6, go_sem, e0, e1, e2, e3, e4, e5]) rfl ⟨by rw [← HR.out, HP.out]; rfl, B4⟩
set_option maxHeartbeats 4000000 in
theorem impl_checkCert (s now : Int) (x : CertD) (w : World) (hs : (Lit.int .i64 s).wf = true) (hx : x.wf) (hK : NoKey w) :
    Calls Tryd.prog 9 #[.int .i64 s, x.val, .int .i64 now] w fun e w' => e = .returned (.bool (checkC s x now)) ∧ Below w.heap.size w w' := by
  obtain ⟨R, hR⟩ : ∃ R, checkC s x now = R := ⟨_, rfl⟩
  rw [hR]
  obtain ⟨n, p, k, f, u, m⟩ := x
  obtain ⟨W, hW⟩ : ∃ W, W = w.alloc (.cells #[.int .i64 n, .int .i64 p, .int .i64 k, .int .i64 f, .int .i64 u, .int .i64 m] 27) := ⟨_, rfl⟩
  have HBK := Lib.hid (show W.heap[w.heap.size]? = some (.cells #[.int .i64 n, .int .i64 p, .int .i64 k, .int .i64 f, .int .i64 u, .int .i64 m] 27) by rw [hW]; exact blk_new _ _ _)
  have HB0 := Lib.hid (fun (u : World) (hb : Below W.heap.size W u) => below_box hW hb)
  have CI := Lib.hid (fun U (hb : Below W.heap.size W U) => impl_isCert ⟨n, p, k, f, u, m⟩ U hx (hK.kept (HB0.out _ hb)))
  have CW := Lib.hid (fun W => impl_within f u now W)
  have CM := Lib.hid (fun W => impl_markCert s ⟨n, p, k, f, u, m⟩ W hs hx)
  clear hx hs hK
  unfold checkC at hR
  simp only [markC, certL] at CM hR
  generalize certB ⟨n, p, k, f, u, m⟩ = cb at CI hR
  generalize withinOf f u now = wb at CW hR
  generalize keyed s [n, p, k, f, u] = q at CM hR
  rw [CertD.val_mk] at CI CM ⊢
  rw [CertD.val_mk] at CM
  have HR := Lib.hid hR
  clear hR
  have hR := Below.refl W.heap.size W
  cases cb
  · go_enter Tryd.func9, Tryd.ntmps9
    go_upto_region 1 with fail
    rw [← hW]
    clear hW
    have HC1 := Lib.hid (fun (uu : World) (hb : Below W.heap.size W uu) => (⟨blk_cell (blk_keep HBK.out hb (blk_lt HBK.out)) 0 rfl, blk_cell (blk_keep HBK.out hb (blk_lt HBK.out)) 1 rfl, blk_cell (blk_keep HBK.out hb (blk_lt HBK.out)) 2 rfl, blk_cell (blk_keep HBK.out hb (blk_lt HBK.out)) 3 rfl, blk_cell (blk_keep HBK.out hb (blk_lt HBK.out)) 4 rfl, blk_cell (blk_keep HBK.out hb (blk_lt HBK.out)) 5 rfl, hb⟩ : uu.cell? ⟨w.heap.size, 0, none⟩ = some (.int .i64 n) ∧ uu.cell? ⟨w.heap.size, 1, none⟩ = some (.int .i64 p) ∧ uu.cell? ⟨w.heap.size, 2, none⟩ = some (.int .i64 k) ∧ uu.cell? ⟨w.heap.size, 3, none⟩ = some (.int .i64 f) ∧ uu.cell? ⟨w.heap.size, 4, none⟩ = some (.int .i64 u) ∧ uu.cell? ⟨w.heap.size, 5, none⟩ = some (.int .i64 m) ∧ Below W.heap.size W uu))
    have hD1 := (hR).drew
    refine wp_region_held_drew (S := fun uu => uu.cell? ⟨w.heap.size, 0, none⟩ = some (.int .i64 n) ∧ uu.cell? ⟨w.heap.size, 1, none⟩ = some (.int .i64 p) ∧ uu.cell? ⟨w.heap.size, 2, none⟩ = some (.int .i64 k) ∧ uu.cell? ⟨w.heap.size, 3, none⟩ = some (.int .i64 f) ∧ uu.cell? ⟨w.heap.size, 4, none⟩ = some (.int .i64 u) ∧ uu.cell? ⟨w.heap.size, 5, none⟩ = some (.int .i64 m) ∧ Below W.heap.size W uu) (by kernel_rfl) (HC1.out _ hD1) (fun hHeld => ?_)
    refine wpAnyH_take (i := 0) (oi := ⟨some 7, _, _, _, _, _⟩) (v := ?_) rfl (by kernel_rfl) (by kernel_rfl) (by kernel_rfl) (fun _ _ _ h => h) (Or.inl ⟨by rfl, ?_⟩) (by assumption) ?_
    rotate_left
    · intro w hSw; (try dsimp only at hSw); go_simp <;> (with_reducible rfl)
    (try simp only [Act.put, List.setIfInBounds_toArray, List.set_cons_zero, List.set_cons_succ])
    refine wpAnyH_ready (rs := [1]) (by kernel_rfl) (by simp) ?_
    refine AllReadyH.cons (o := ⟨some 8, _, _, _, _, _⟩) rfl (fun K hK => ?_) AllReadyH.nil
    go_simp
    (with_reducible refine (CI.out _ hD1).mono ?_)
    rintro e8 u8 ⟨rfl, b8⟩
    have d8 : Below W.heap.size W u8 := hD1.trans (b8.mono hD1.size)
    refine hK.out _ _ (HC1.out _ d8) (fun hHeld2 => ?_)
    clear hK K
    (try simp only [Act.put, List.setIfInBounds_toArray, List.set_cons_zero, List.set_cons_succ])
    refine wpAnyH_take (i := 2) (oi := ⟨some 9, _, _, _, _, _⟩) (v := ?_) rfl (by kernel_rfl) (by kernel_rfl) (by kernel_rfl) (fun _ _ _ h => h) (Or.inl ⟨by rfl, ?_⟩) (by assumption) ?_
    rotate_left
    · intro w hSw; (try dsimp only at hSw); go_simp <;> (with_reducible rfl)
    (try simp only [Act.put, List.setIfInBounds_toArray, List.set_cons_zero, List.set_cons_succ])
    refine wpAnyH_take (i := 3) (oi := ⟨some 10, _, _, _, _, _⟩) (v := undef) rfl (by kernel_rfl) (by kernel_rfl) (by kernel_rfl) (fun _ _ _ h => h) (.inr ⟨by rfl, rfl⟩) (by assumption) ?_
    (try simp only [Act.put, List.setIfInBounds_toArray, List.set_cons_zero, List.set_cons_succ])
    refine wpAnyH_take (i := 4) (oi := ⟨some 11, _, _, _, _, _⟩) (v := undef) rfl (by kernel_rfl) (by kernel_rfl) (by kernel_rfl) (fun _ _ _ h => h) (.inr ⟨by rfl, rfl⟩) (by assumption) ?_
    (try simp only [Act.put, List.setIfInBounds_toArray, List.set_cons_zero, List.set_cons_succ])
    refine wpAnyH_take (i := 5) (oi := ⟨some 12, _, _, _, _, _⟩) (v := undef) rfl (by kernel_rfl) (by kernel_rfl) (by kernel_rfl) (fun _ _ _ h => h) (.inr ⟨by rfl, rfl⟩) (by assumption) ?_
    (try simp only [Act.put, List.setIfInBounds_toArray, List.set_cons_zero, List.set_cons_succ])
    refine wpAnyH_take (i := 6) (oi := ⟨some 13, _, _, _, _, _⟩) (v := undef) rfl (by kernel_rfl) (by kernel_rfl) (by kernel_rfl) (fun _ _ _ h => h) (.inr ⟨by rfl, rfl⟩) (by assumption) ?_
    (try simp only [Act.put, List.setIfInBounds_toArray, List.set_cons_zero, List.set_cons_succ])
    refine wpAnyH_take (i := 7) (oi := ⟨some 14, _, _, _, _, _⟩) (v := undef) rfl (by kernel_rfl) (by kernel_rfl) (by kernel_rfl) (fun _ _ _ h => h) (.inr ⟨by rfl, rfl⟩) (by assumption) ?_
    (try simp only [Act.put, List.setIfInBounds_toArray, List.set_cons_zero, List.set_cons_succ])
    refine wpAnyH_take (i := 8) (oi := ⟨some 15, _, _, _, _, _⟩) (v := undef) rfl (by kernel_rfl) (by kernel_rfl) (by kernel_rfl) (fun _ _ _ h => h) (.inr ⟨by rfl, rfl⟩) (by assumption) ?_
    (try simp only [Act.put, List.setIfInBounds_toArray, List.set_cons_zero, List.set_cons_succ])
    refine wpAnyH_take (i := 9) (oi := ⟨some 16, _, _, _, _, _⟩) (v := ?_) rfl (by kernel_rfl) (by kernel_rfl) (by kernel_rfl) (fun _ _ _ h => h) (Or.inl ⟨by rfl, ?_⟩) (by assumption) ?_
    rotate_left
    · intro w hSw; (try dsimp only at hSw); go_simp <;> (with_reducible rfl)
    (try simp only [Act.put, List.setIfInBounds_toArray, List.set_cons_zero, List.set_cons_succ])
    refine wpAnyH_take (i := 10) (oi := ⟨some 17, _, _, _, _, _⟩) (v := ?_) rfl (by kernel_rfl) (by kernel_rfl) (by kernel_rfl) (fun _ _ _ h => h) (Or.inl ⟨by rfl, ?_⟩) (by assumption) ?_
    rotate_left
    · intro w hSw; (try dsimp only at hSw); go_simp <;> (with_reducible rfl)
    (try simp only [Act.put, List.setIfInBounds_toArray, List.set_cons_zero, List.set_cons_succ])
    refine wpAnyH_take (i := 11) (oi := ⟨some 18, _, _, _, _, _⟩) (v := undef) rfl (by kernel_rfl) (by kernel_rfl) (by kernel_rfl) (fun _ _ _ h => h) (.inr ⟨by rfl, rfl⟩) (by assumption) ?_
    (try simp only [Act.put, List.setIfInBounds_toArray, List.set_cons_zero, List.set_cons_succ])
    refine wpAnyH_take (i := 12) (oi := ⟨some 19, _, _, _, _, _⟩) (v := undef) rfl (by kernel_rfl) (by kernel_rfl) (by kernel_rfl) (fun _ _ _ h => h) (.inr ⟨by rfl, rfl⟩) (by assumption) ?_
    (try simp only [Act.put, List.setIfInBounds_toArray, List.set_cons_zero, List.set_cons_succ])
    refine wpAnyH_take (i := 13) (oi := ⟨some 20, _, _, _, _, _⟩) (v := undef) rfl (by kernel_rfl) (by kernel_rfl) (by kernel_rfl) (fun _ _ _ h => h) (.inr ⟨by rfl, rfl⟩) (by assumption) ?_
    (try simp only [Act.put, List.setIfInBounds_toArray, List.set_cons_zero, List.set_cons_succ])
    refine wpAnyH_take (i := 14) (oi := ⟨some 21, _, _, _, _, _⟩) (v := undef) rfl (by kernel_rfl) (by kernel_rfl) (by kernel_rfl) (fun _ _ _ h => h) (.inr ⟨by rfl, rfl⟩) (by assumption) ?_
    (try simp only [Act.put, List.setIfInBounds_toArray, List.set_cons_zero, List.set_cons_succ])
    refine wpAnyH_take (i := 15) (oi := ⟨some 22, _, _, _, _, _⟩) (v := undef) rfl (by kernel_rfl) (by kernel_rfl) (by kernel_rfl) (fun _ _ _ h => h) (.inr ⟨by rfl, rfl⟩) (by assumption) ?_
    (try simp only [Act.put, List.setIfInBounds_toArray, List.set_cons_zero, List.set_cons_succ])
    refine wpAnyH_take (i := 16) (oi := ⟨some 23, _, _, _, _, _⟩) (v := ?_) rfl (by kernel_rfl) (by kernel_rfl) (by kernel_rfl) (fun _ _ _ h => h) (Or.inl ⟨by rfl, ?_⟩) (by assumption) ?_
    rotate_left
    · intro w hSw; (try dsimp only at hSw); go_simp <;> (with_reducible rfl)
    (try simp only [Act.put, List.setIfInBounds_toArray, List.set_cons_zero, List.set_cons_succ])
    refine wpAnyH_take (i := 17) (oi := ⟨some 6, _, _, _, _, _⟩) (v := ?_) rfl (by kernel_rfl) (by kernel_rfl) (by kernel_rfl) (fun _ _ _ h => h) (Or.inl ⟨by rfl, ?_⟩) (by assumption) ?_
    rotate_left
    · intro w hSw; (try dsimp only at hSw); go_simp <;> (with_reducible rfl)
    (try simp only [Act.put, List.setIfInBounds_toArray, List.set_cons_zero, List.set_cons_succ])
    refine wpAnyH_done (by kernel_rfl) ?_ _
    go_wp2
    go_ret
    exact ⟨ret_b (by rw [← HR.out]; rfl), HB0.out _ d8⟩
  · cases wb
    · go_enter Tryd.func9, Tryd.ntmps9
      go_upto_region 1 with fail
      rw [← hW]
      clear hW
      have HC1 := Lib.hid (fun (uu : World) (hb : Below W.heap.size W uu) => (⟨blk_cell (blk_keep HBK.out hb (blk_lt HBK.out)) 0 rfl, blk_cell (blk_keep HBK.out hb (blk_lt HBK.out)) 1 rfl, blk_cell (blk_keep HBK.out hb (blk_lt HBK.out)) 2 rfl, blk_cell (blk_keep HBK.out hb (blk_lt HBK.out)) 3 rfl, blk_cell (blk_keep HBK.out hb (blk_lt HBK.out)) 4 rfl, blk_cell (blk_keep HBK.out hb (blk_lt HBK.out)) 5 rfl, hb⟩ : uu.cell? ⟨w.heap.size, 0, none⟩ = some (.int .i64 n) ∧ uu.cell? ⟨w.heap.size, 1, none⟩ = some (.int .i64 p) ∧ uu.cell? ⟨w.heap.size, 2, none⟩ = some (.int .i64 k) ∧ uu.cell? ⟨w.heap.size, 3, none⟩ = some (.int .i64 f) ∧ uu.cell? ⟨w.heap.size, 4, none⟩ = some (.int .i64 u) ∧ uu.cell? ⟨w.heap.size, 5, none⟩ = some (.int .i64 m) ∧ Below W.heap.size W uu))
      have hD1 := (hR).drew
      refine wp_region_held_drew (S := fun uu => uu.cell? ⟨w.heap.size, 0, none⟩ = some (.int .i64 n) ∧ uu.cell? ⟨w.heap.size, 1, none⟩ = some (.int .i64 p) ∧ uu.cell? ⟨w.heap.size, 2, none⟩ = some (.int .i64 k) ∧ uu.cell? ⟨w.heap.size, 3, none⟩ = some (.int .i64 f) ∧ uu.cell? ⟨w.heap.size, 4, none⟩ = some (.int .i64 u) ∧ uu.cell? ⟨w.heap.size, 5, none⟩ = some (.int .i64 m) ∧ Below W.heap.size W uu) (by kernel_rfl) (HC1.out _ hD1) (fun hHeld => ?_)
      refine wpAnyH_take (i := 0) (oi := ⟨some 7, _, _, _, _, _⟩) (v := ?_) rfl (by kernel_rfl) (by kernel_rfl) (by kernel_rfl) (fun _ _ _ h => h) (Or.inl ⟨by rfl, ?_⟩) (by assumption) ?_
      rotate_left
      · intro w hSw; (try dsimp only at hSw); go_simp <;> (with_reducible rfl)
      (try simp only [Act.put, List.setIfInBounds_toArray, List.set_cons_zero, List.set_cons_succ])
      refine wpAnyH_ready (rs := [1]) (by kernel_rfl) (by simp) ?_
      refine AllReadyH.cons (o := ⟨some 8, _, _, _, _, _⟩) rfl (fun K hK => ?_) AllReadyH.nil
      go_simp
      (with_reducible refine (CI.out _ hD1).mono ?_)
      rintro e8 u8 ⟨rfl, b8⟩
      have d8 : Below W.heap.size W u8 := hD1.trans (b8.mono hD1.size)
      refine hK.out _ _ (HC1.out _ d8) (fun hHeld2 => ?_)
      clear hK K
      (try simp only [Act.put, List.setIfInBounds_toArray, List.set_cons_zero, List.set_cons_succ])
      refine wpAnyH_take (i := 2) (oi := ⟨some 9, _, _, _, _, _⟩) (v := ?_) rfl (by kernel_rfl) (by kernel_rfl) (by kernel_rfl) (fun _ _ _ h => h) (Or.inl ⟨by rfl, ?_⟩) (by assumption) ?_
      rotate_left
      · intro w hSw; (try dsimp only at hSw); go_simp <;> (with_reducible rfl)
      (try simp only [Act.put, List.setIfInBounds_toArray, List.set_cons_zero, List.set_cons_succ])
      refine wpAnyH_take (i := 3) (oi := ⟨some 10, _, _, _, _, _⟩) (v := ?_) rfl (by kernel_rfl) (by kernel_rfl) (by kernel_rfl) (fun _ _ _ h => h) (Or.inl ⟨by rfl, ?_⟩) (by assumption) ?_
      rotate_left
      · intro w hSw; (try dsimp only at hSw); go_simp <;> (with_reducible rfl)
      (try simp only [Act.put, List.setIfInBounds_toArray, List.set_cons_zero, List.set_cons_succ])
      refine wpAnyH_take (i := 4) (oi := ⟨some 11, _, _, _, _, _⟩) (v := ?_) rfl (by kernel_rfl) (by kernel_rfl) (by kernel_rfl) (fun _ _ _ h => h) (Or.inl ⟨by rfl, ?_⟩) (by assumption) ?_
      rotate_left
      · intro w hSw; (try dsimp only at hSw); go_simp <;> (with_reducible rfl)
      (try simp only [Act.put, List.setIfInBounds_toArray, List.set_cons_zero, List.set_cons_succ])
      refine wpAnyH_take (i := 5) (oi := ⟨some 12, _, _, _, _, _⟩) (v := ?_) rfl (by kernel_rfl) (by kernel_rfl) (by kernel_rfl) (fun _ _ _ h => h) (Or.inl ⟨by rfl, ?_⟩) (by assumption) ?_
      rotate_left
      · intro w hSw; (try dsimp only at hSw); go_simp <;> (with_reducible rfl)
      (try simp only [Act.put, List.setIfInBounds_toArray, List.set_cons_zero, List.set_cons_succ])
      refine wpAnyH_take (i := 6) (oi := ⟨some 13, _, _, _, _, _⟩) (v := ?_) rfl (by kernel_rfl) (by kernel_rfl) (by kernel_rfl) (fun _ _ _ h => h) (Or.inl ⟨by rfl, ?_⟩) (by assumption) ?_
      rotate_left
      · intro w hSw; (try dsimp only at hSw); go_simp <;> (with_reducible rfl)
      (try simp only [Act.put, List.setIfInBounds_toArray, List.set_cons_zero, List.set_cons_succ])
      refine wpAnyH_take (i := 7) (oi := ⟨some 14, _, _, _, _, _⟩) (v := ?_) rfl (by kernel_rfl) (by kernel_rfl) (by kernel_rfl) (fun _ _ _ h => h) (Or.inl ⟨by rfl, ?_⟩) (by assumption) ?_
      rotate_left
      · intro w hSw; (try dsimp only at hSw); go_simp <;> (with_reducible rfl)
      (try simp only [Act.put, List.setIfInBounds_toArray, List.set_cons_zero, List.set_cons_succ])
      refine wpAnyH_ready (rs := [8]) (by kernel_rfl) (by simp) ?_
      refine AllReadyH.cons (o := ⟨some 15, _, _, _, _, _⟩) rfl (fun K hK => ?_) AllReadyH.nil
      go_simp
      (with_reducible refine (CW.out _).mono ?_)
      rintro e15 u15 ⟨rfl, b15⟩
      have d15 : Below W.heap.size W u15 := d8.trans (b15.mono d8.size)
      refine hK.out _ _ (HC1.out _ d15) (fun hHeld2 => ?_)
      clear hK K
      (try simp only [Act.put, List.setIfInBounds_toArray, List.set_cons_zero, List.set_cons_succ])
      refine wpAnyH_take (i := 9) (oi := ⟨some 16, _, _, _, _, _⟩) (v := ?_) rfl (by kernel_rfl) (by kernel_rfl) (by kernel_rfl) (fun _ _ _ h => h) (Or.inl ⟨by rfl, ?_⟩) (by assumption) ?_
      rotate_left
      · intro w hSw; (try dsimp only at hSw); go_simp <;> (with_reducible rfl)
      (try simp only [Act.put, List.setIfInBounds_toArray, List.set_cons_zero, List.set_cons_succ])
      refine wpAnyH_take (i := 10) (oi := ⟨some 17, _, _, _, _, _⟩) (v := ?_) rfl (by kernel_rfl) (by kernel_rfl) (by kernel_rfl) (fun _ _ _ h => h) (Or.inl ⟨by rfl, ?_⟩) (by assumption) ?_
      rotate_left
      · intro w hSw; (try dsimp only at hSw); go_simp <;> (with_reducible rfl)
      (try simp only [Act.put, List.setIfInBounds_toArray, List.set_cons_zero, List.set_cons_succ])
      refine wpAnyH_take (i := 11) (oi := ⟨some 18, _, _, _, _, _⟩) (v := undef) rfl (by kernel_rfl) (by kernel_rfl) (by kernel_rfl) (fun _ _ _ h => h) (.inr ⟨by rfl, rfl⟩) (by assumption) ?_
      (try simp only [Act.put, List.setIfInBounds_toArray, List.set_cons_zero, List.set_cons_succ])
      refine wpAnyH_take (i := 12) (oi := ⟨some 19, _, _, _, _, _⟩) (v := undef) rfl (by kernel_rfl) (by kernel_rfl) (by kernel_rfl) (fun _ _ _ h => h) (.inr ⟨by rfl, rfl⟩) (by assumption) ?_
      (try simp only [Act.put, List.setIfInBounds_toArray, List.set_cons_zero, List.set_cons_succ])
      refine wpAnyH_take (i := 13) (oi := ⟨some 20, _, _, _, _, _⟩) (v := undef) rfl (by kernel_rfl) (by kernel_rfl) (by kernel_rfl) (fun _ _ _ h => h) (.inr ⟨by rfl, rfl⟩) (by assumption) ?_
      (try simp only [Act.put, List.setIfInBounds_toArray, List.set_cons_zero, List.set_cons_succ])
      refine wpAnyH_take (i := 14) (oi := ⟨some 21, _, _, _, _, _⟩) (v := undef) rfl (by kernel_rfl) (by kernel_rfl) (by kernel_rfl) (fun _ _ _ h => h) (.inr ⟨by rfl, rfl⟩) (by assumption) ?_
      (try simp only [Act.put, List.setIfInBounds_toArray, List.set_cons_zero, List.set_cons_succ])
      refine wpAnyH_take (i := 15) (oi := ⟨some 22, _, _, _, _, _⟩) (v := undef) rfl (by kernel_rfl) (by kernel_rfl) (by kernel_rfl) (fun _ _ _ h => h) (.inr ⟨by rfl, rfl⟩) (by assumption) ?_
      (try simp only [Act.put, List.setIfInBounds_toArray, List.set_cons_zero, List.set_cons_succ])
      refine wpAnyH_take (i := 16) (oi := ⟨some 23, _, _, _, _, _⟩) (v := ?_) rfl (by kernel_rfl) (by kernel_rfl) (by kernel_rfl) (fun _ _ _ h => h) (Or.inl ⟨by rfl, ?_⟩) (by assumption) ?_
      rotate_left
      · intro w hSw; (try dsimp only at hSw); go_simp <;> (with_reducible rfl)
      (try simp only [Act.put, List.setIfInBounds_toArray, List.set_cons_zero, List.set_cons_succ])
      refine wpAnyH_take (i := 17) (oi := ⟨some 6, _, _, _, _, _⟩) (v := ?_) rfl (by kernel_rfl) (by kernel_rfl) (by kernel_rfl) (fun _ _ _ h => h) (Or.inl ⟨by rfl, ?_⟩) (by assumption) ?_
      rotate_left
      · intro w hSw; (try dsimp only at hSw); go_simp <;> (with_reducible rfl)
      (try simp only [Act.put, List.setIfInBounds_toArray, List.set_cons_zero, List.set_cons_succ])
      refine wpAnyH_done (by kernel_rfl) ?_ _
      go_wp2
      go_ret
      exact ⟨ret_b (by rw [← HR.out]; rfl), HB0.out _ d15⟩
    · have e0 : (n == n) = true := beq_self_eq_true _
      have e1 : (p == p) = true := beq_self_eq_true _
      have e2 : (k == k) = true := beq_self_eq_true _
      have e3 : (f == f) = true := beq_self_eq_true _
      have e4 : (u == u) = true := beq_self_eq_true _
      cases hm : q == m
      all_goals
        rw [hm] at HR
        go_enter Tryd.func9, Tryd.ntmps9
        go_upto_region 1 with fail
        rw [← hW]
        clear hW
        have HC1 := Lib.hid (fun (uu : World) (hb : Below W.heap.size W uu) => (⟨blk_cell (blk_keep HBK.out hb (blk_lt HBK.out)) 0 rfl, blk_cell (blk_keep HBK.out hb (blk_lt HBK.out)) 1 rfl, blk_cell (blk_keep HBK.out hb (blk_lt HBK.out)) 2 rfl, blk_cell (blk_keep HBK.out hb (blk_lt HBK.out)) 3 rfl, blk_cell (blk_keep HBK.out hb (blk_lt HBK.out)) 4 rfl, blk_cell (blk_keep HBK.out hb (blk_lt HBK.out)) 5 rfl, hb⟩ : uu.cell? ⟨w.heap.size, 0, none⟩ = some (.int .i64 n) ∧ uu.cell? ⟨w.heap.size, 1, none⟩ = some (.int .i64 p) ∧ uu.cell? ⟨w.heap.size, 2, none⟩ = some (.int .i64 k) ∧ uu.cell? ⟨w.heap.size, 3, none⟩ = some (.int .i64 f) ∧ uu.cell? ⟨w.heap.size, 4, none⟩ = some (.int .i64 u) ∧ uu.cell? ⟨w.heap.size, 5, none⟩ = some (.int .i64 m) ∧ Below W.heap.size W uu))
        have hD1 := (hR).drew
        refine wp_region_held_drew (S := fun uu => uu.cell? ⟨w.heap.size, 0, none⟩ = some (.int .i64 n) ∧ uu.cell? ⟨w.heap.size, 1, none⟩ = some (.int .i64 p) ∧ uu.cell? ⟨w.heap.size, 2, none⟩ = some (.int .i64 k) ∧ uu.cell? ⟨w.heap.size, 3, none⟩ = some (.int .i64 f) ∧ uu.cell? ⟨w.heap.size, 4, none⟩ = some (.int .i64 u) ∧ uu.cell? ⟨w.heap.size, 5, none⟩ = some (.int .i64 m) ∧ Below W.heap.size W uu) (by kernel_rfl) (HC1.out _ hD1) (fun hHeld => ?_)
        refine wpAnyH_take (i := 0) (oi := ⟨some 7, _, _, _, _, _⟩) (v := ?_) rfl (by kernel_rfl) (by kernel_rfl) (by kernel_rfl) (fun _ _ _ h => h) (Or.inl ⟨by rfl, ?_⟩) (by assumption) ?_
        rotate_left
        · intro w hSw; (try dsimp only at hSw); go_simp <;> (with_reducible rfl)
        (try simp only [Act.put, List.setIfInBounds_toArray, List.set_cons_zero, List.set_cons_succ])
        refine wpAnyH_ready (rs := [1]) (by kernel_rfl) (by simp) ?_
        refine AllReadyH.cons (o := ⟨some 8, _, _, _, _, _⟩) rfl (fun K hK => ?_) AllReadyH.nil
        go_simp
        (with_reducible refine (CI.out _ hD1).mono ?_)
        rintro e8 u8 ⟨rfl, b8⟩
        have d8 : Below W.heap.size W u8 := hD1.trans (b8.mono hD1.size)
        refine hK.out _ _ (HC1.out _ d8) (fun hHeld2 => ?_)
        clear hK K
        (try simp only [Act.put, List.setIfInBounds_toArray, List.set_cons_zero, List.set_cons_succ])
        refine wpAnyH_take (i := 2) (oi := ⟨some 9, _, _, _, _, _⟩) (v := ?_) rfl (by kernel_rfl) (by kernel_rfl) (by kernel_rfl) (fun _ _ _ h => h) (Or.inl ⟨by rfl, ?_⟩) (by assumption) ?_
        rotate_left
        · intro w hSw; (try dsimp only at hSw); go_simp <;> (with_reducible rfl)
        (try simp only [Act.put, List.setIfInBounds_toArray, List.set_cons_zero, List.set_cons_succ])
        refine wpAnyH_take (i := 3) (oi := ⟨some 10, _, _, _, _, _⟩) (v := ?_) rfl (by kernel_rfl) (by kernel_rfl) (by kernel_rfl) (fun _ _ _ h => h) (Or.inl ⟨by rfl, ?_⟩) (by assumption) ?_
        rotate_left
        · intro w hSw; (try dsimp only at hSw); go_simp <;> (with_reducible rfl)
        (try simp only [Act.put, List.setIfInBounds_toArray, List.set_cons_zero, List.set_cons_succ])
        refine wpAnyH_take (i := 4) (oi := ⟨some 11, _, _, _, _, _⟩) (v := ?_) rfl (by kernel_rfl) (by kernel_rfl) (by kernel_rfl) (fun _ _ _ h => h) (Or.inl ⟨by rfl, ?_⟩) (by assumption) ?_
        rotate_left
        · intro w hSw; (try dsimp only at hSw); go_simp <;> (with_reducible rfl)
        (try simp only [Act.put, List.setIfInBounds_toArray, List.set_cons_zero, List.set_cons_succ])
        refine wpAnyH_take (i := 5) (oi := ⟨some 12, _, _, _, _, _⟩) (v := ?_) rfl (by kernel_rfl) (by kernel_rfl) (by kernel_rfl) (fun _ _ _ h => h) (Or.inl ⟨by rfl, ?_⟩) (by assumption) ?_
        rotate_left
        · intro w hSw; (try dsimp only at hSw); go_simp <;> (with_reducible rfl)
        (try simp only [Act.put, List.setIfInBounds_toArray, List.set_cons_zero, List.set_cons_succ])
        refine wpAnyH_take (i := 6) (oi := ⟨some 13, _, _, _, _, _⟩) (v := ?_) rfl (by kernel_rfl) (by kernel_rfl) (by kernel_rfl) (fun _ _ _ h => h) (Or.inl ⟨by rfl, ?_⟩) (by assumption) ?_
        rotate_left
        · intro w hSw; (try dsimp only at hSw); go_simp <;> (with_reducible rfl)
        (try simp only [Act.put, List.setIfInBounds_toArray, List.set_cons_zero, List.set_cons_succ])
        refine wpAnyH_take (i := 7) (oi := ⟨some 14, _, _, _, _, _⟩) (v := ?_) rfl (by kernel_rfl) (by kernel_rfl) (by kernel_rfl) (fun _ _ _ h => h) (Or.inl ⟨by rfl, ?_⟩) (by assumption) ?_
        rotate_left
        · intro w hSw; (try dsimp only at hSw); go_simp <;> (with_reducible rfl)
        (try simp only [Act.put, List.setIfInBounds_toArray, List.set_cons_zero, List.set_cons_succ])
        refine wpAnyH_ready (rs := [8]) (by kernel_rfl) (by simp) ?_
        refine AllReadyH.cons (o := ⟨some 15, _, _, _, _, _⟩) rfl (fun K hK => ?_) AllReadyH.nil
        go_simp
        (with_reducible refine (CW.out _).mono ?_)
        rintro e15 u15 ⟨rfl, b15⟩
        have d15 : Below W.heap.size W u15 := d8.trans (b15.mono d8.size)
        refine hK.out _ _ (HC1.out _ d15) (fun hHeld2 => ?_)
        clear hK K
        (try simp only [Act.put, List.setIfInBounds_toArray, List.set_cons_zero, List.set_cons_succ])
        refine wpAnyH_take (i := 9) (oi := ⟨some 16, _, _, _, _, _⟩) (v := ?_) rfl (by kernel_rfl) (by kernel_rfl) (by kernel_rfl) (fun _ _ _ h => h) (Or.inl ⟨by rfl, ?_⟩) (by assumption) ?_
        rotate_left
        · intro w hSw; (try dsimp only at hSw); go_simp <;> (with_reducible rfl)
        (try simp only [Act.put, List.setIfInBounds_toArray, List.set_cons_zero, List.set_cons_succ])
        refine wpAnyH_take (i := 10) (oi := ⟨some 17, _, _, _, _, _⟩) (v := ?_) rfl (by kernel_rfl) (by kernel_rfl) (by kernel_rfl) (fun _ _ _ h => h) (Or.inl ⟨by rfl, ?_⟩) (by assumption) ?_
        rotate_left
        · intro w hSw; (try dsimp only at hSw); go_simp <;> (with_reducible rfl)
        (try simp only [Act.put, List.setIfInBounds_toArray, List.set_cons_zero, List.set_cons_succ])
        refine wpAnyH_take (i := 11) (oi := ⟨some 18, _, _, _, _, _⟩) (v := ?_) rfl (by kernel_rfl) (by kernel_rfl) (by kernel_rfl) (fun _ _ _ h => h) (Or.inl ⟨by rfl, ?_⟩) (by assumption) ?_
        rotate_left
        · intro w hSw; (try dsimp only at hSw); go_simp <;> (with_reducible rfl)
        (try simp only [Act.put, List.setIfInBounds_toArray, List.set_cons_zero, List.set_cons_succ])
        refine wpAnyH_take (i := 12) (oi := ⟨some 19, _, _, _, _, _⟩) (v := ?_) rfl (by kernel_rfl) (by kernel_rfl) (by kernel_rfl) (fun _ _ _ h => h) (Or.inl ⟨by rfl, ?_⟩) (by assumption) ?_
        rotate_left
        · intro w hSw; (try dsimp only at hSw); go_simp <;> (with_reducible rfl)
        (try simp only [Act.put, List.setIfInBounds_toArray, List.set_cons_zero, List.set_cons_succ])
        refine wpAnyH_take (i := 14) (oi := ⟨some 21, _, _, _, _, _⟩) (v := ?_) rfl (by kernel_rfl) (by kernel_rfl) (by kernel_rfl) (fun _ _ _ h => h) (Or.inl ⟨by rfl, ?_⟩) (by assumption) ?_
        rotate_left
        · intro w hSw; (try dsimp only at hSw); go_simp <;> (with_reducible rfl)
        (try simp only [Act.put, List.setIfInBounds_toArray, List.set_cons_zero, List.set_cons_succ])
        refine wpAnyH_ready (rs := [13]) (by kernel_rfl) (by simp) ?_
        refine AllReadyH.cons (o := ⟨some 20, _, _, _, _, _⟩) rfl (fun K hK => ?_) AllReadyH.nil
        go_simp
        (with_reducible refine (CM.out _).mono ?_)
        rintro e20 u20 ⟨rfl, b20⟩
        have d20 : Below W.heap.size W u20 := d15.trans (b20.mono d15.size)
        refine hK.out _ _ (HC1.out _ d20) (fun hHeld2 => ?_)
        clear hK K
        (try simp only [Act.put, List.setIfInBounds_toArray, List.set_cons_zero, List.set_cons_succ])
        refine wpAnyH_take (i := 15) (oi := ⟨some 22, _, _, _, _, _⟩) (v := ?_) rfl (by kernel_rfl) (by kernel_rfl) (by kernel_rfl) (fun _ _ _ h => h) (Or.inl ⟨by rfl, ?_⟩) (by assumption) ?_
        rotate_left
        · intro w hSw; (try dsimp only at hSw); go_simp <;> (with_reducible rfl)
        (try simp only [Act.put, List.setIfInBounds_toArray, List.set_cons_zero, List.set_cons_succ])
        refine wpAnyH_take (i := 16) (oi := ⟨some 23, _, _, _, _, _⟩) (v := ?_) rfl (by kernel_rfl) (by kernel_rfl) (by kernel_rfl) (fun _ _ _ h => h) (Or.inl ⟨by rfl, ?_⟩) (by assumption) ?_
        rotate_left
        · intro w hSw; (try dsimp only at hSw); go_simp <;> (with_reducible rfl)
        (try simp only [Act.put, List.setIfInBounds_toArray, List.set_cons_zero, List.set_cons_succ])
        refine wpAnyH_take (i := 17) (oi := ⟨some 6, _, _, _, _, _⟩) (v := ?_) rfl (by kernel_rfl) (by kernel_rfl) (by kernel_rfl) (fun _ _ _ h => h) (Or.inl ⟨by rfl, ?_⟩) (by assumption) ?_
        rotate_left
        · intro w hSw; (try dsimp only at hSw); go_simp <;> (with_reducible rfl)
        (try simp only [Act.put, List.setIfInBounds_toArray, List.set_cons_zero, List.set_cons_succ])
        refine wpAnyH_done (by kernel_rfl) ?_ _
        go_wp2
        go_ret
        exact ⟨ret_b (by rw [← HR.out]; rfl), HB0.out _ d20⟩
set_option maxHeartbeats 2000000 in
theorem impl_hasProved (s n a now : Int) (x : CertD) (w : World) (hs : (Lit.int .i64 s).wf = true) (hn : (Lit.int .i64 n).wf = true) (hx : x.wf) (hK : NoKey w) :
    Calls Tryd.prog 10 #[.int .i64 s, x.val, .int .i64 n, .int .i64 a, .int .i64 now] w fun e w' => e = .returned (.bool (provedC s x n a now)) ∧ Below w.heap.size w w' := by
  obtain ⟨R, hR⟩ : ∃ R, provedC s x n a now = R := ⟨_, rfl⟩
  rw [hR]
  have CC := Lib.hid (fun W (hb : Below w.heap.size w W) => impl_checkCert s now x W hs hx (hK.kept hb))
  have CP := Lib.hid (fun W => impl_proveKey x.Key n W hx.2.2.1 hn)
  unfold provedC at hR
  clear hx
  obtain ⟨n0, p, k, f, u, m⟩ := x
  dsimp only at CP hR
  generalize checkC s ⟨n0, p, k, f, u, m⟩ now = cb at CC hR
  generalize proveC k n = q at CP hR
  rw [CertD.val_mk] at CC ⊢
  have HR := Lib.hid hR
  clear hR hs hn hK
  go_enter Tryd.func10, Tryd.ntmps10
  go_wp2_with fail
  refine (CC.out _ (below_box rfl (Below.refl _ _))).mono ?_
  rintro e w1 ⟨rfl, b1⟩
  have B1 := below_box rfl b1
  have c2 := blk_cell (blk_keep (blk_new w _ _) b1 (by simp)) 2 rfl
  cases cb
  · go_wp2
    go_ret
    exact ⟨ret_b (by rw [← HR.out]; rfl), B1⟩
  · go_wp2_with fail
    refine (CP.out _).mono ?_
    rintro e w2 ⟨rfl, b2⟩
    have B2 := B1.trans (b2.mono B1.size)
    clear c2 b1
    go_wp2
    go_ret
    exact ⟨ret_b (by rw [← HR.out, Bool.true_and]), B2⟩
end Go.Proofs.YtkbeejnikmegmaaDoor
