/- The draws of chapter 10's inputs: what the law FnCertificates draws. -/
import Derived.Test.YtkbeejnikmegmaaDoorDraw10b
import Derived.BigQuiet
import Derived.Deep.QuietTactic
namespace Go.Proofs.YtkbeejnikmegmaaDoor
open Go.ChangeShapes Go.WideShapes Go.ChangeAt Go.RowKit
set_option linter.unusedVariables false

def In64 (x : Int) : Prop := -9223372036854775808 ≤ x ∧ x ≤ 9223372036854775807
theorem In64.wf {x : Int} (h : In64 x) : (Lit.int .i64 x).wf = true := wf_i64 h.1 h.2
set_option maxHeartbeats 4000000 in
theorem draw_issueCert (w : World) (a : Option Addr) (len cap : Nat) (z : List Int) (hr : IsRow .u8 w a len cap z) :
    Calls Tryd.prog 5 #[.slice a len cap] w fun e w' => ∃ s n p k f sp : Int, (In64 s ∧ In64 n ∧ In64 p ∧ In64 k ∧ In64 f ∧ In64 sp) ∧ e = .returned (.tuple #[.int .i64 s, .int .i64 n, .int .i64 p, .int .i64 k, .int .i64 f, .int .i64 sp]) ∧ Below w.heap.size w w' := by
  go_enter Tryd.func5, Tryd.ntmps5
  go_wp2_with fail
  refine (new_any w a len cap z hr).mono ?_
  rintro e w1 ⟨B, rfl, hB, hb1, hc1⟩
  go_wp2_with fail
  refine (int_any _ B a len cap z _ 4 _ (by decide) (by decide) (ints_lit w1 B hc1.lt _ _ _ (by decide)) (hc1.alloc _)).mono ?_
  rintro e w2 ⟨s, s0, s1, rfl, ho2, hc2⟩
  have ho2 := ((Only.refl B w1).alloc _).trans ho2
  go_wp2_with fail
  refine (int_any _ B a len cap z _ 4 _ (by decide) (by decide) (ints_lit w2 B hc2.lt _ _ _ (by decide)) (hc2.alloc _)).mono ?_
  rintro e w3 ⟨n, n0, n1, rfl, ho3, hc3⟩
  have ho3 := (ho2.alloc _).trans ho3
  go_wp2_with fail
  refine (any_any _ B a len cap z hc3).mono ?_
  rintro e w4 ⟨p, p0, p1, rfl, ho4, hc4⟩
  have ho4 := ho3.trans ho4
  go_wp2_with fail
  refine (int_any _ B a len cap z _ 3 _ (by decide) (by decide) (ints_lit w4 B hc4.lt _ _ _ (by decide)) (hc4.alloc _)).mono ?_
  rintro e w5 ⟨k, k0, k1, rfl, ho5, hc5⟩
  have ho5 := (ho4.alloc _).trans ho5
  go_wp2_with fail
  refine (time_any _ B a len cap z hc5).mono ?_
  rintro e w6 ⟨f, f0, f1, rfl, ho6, hc6⟩
  have ho6 := ho5.trans ho6
  go_wp2_with fail
  refine (int_any _ B a len cap z _ 5 _ (by decide) (by decide) (ints_lit w6 B hc6.lt _ _ _ (by decide)) (hc6.alloc _)).mono ?_
  rintro e w7 ⟨sp, q0, q1, rfl, ho7, hc7⟩
  have ho7 := (ho6.alloc _).trans ho7
  have H := Lib.hid (hb1.trans (ho7.below hb1.size hB))
  clear ho2 ho3 ho4 ho5 ho6 ho7 hc1 hc2 hc3 hc4 hc5 hc6 hc7
  go_wp2
  go_returns
  exact ⟨s, n, p, k, f, sp, ⟨⟨s0, s1⟩, ⟨n0, n1⟩, ⟨by omega, by omega⟩, ⟨k0, k1⟩, ⟨f0, f1⟩, ⟨q0, q1⟩⟩, rfl, H.out⟩
theorem box6o {w W : World} {B f : Nat} {T : TypeId} {z0 z1 z2 z3 z4 z5 : Value} (l : Loc w B f T #[z0, z1, z2, z3, z4, z5] W) (r0 r1 r2 r3 r4 r5 : Value) :
    (((((((W.setCell ⟨f, 0, none⟩ r0).setCell ⟨f, 1, none⟩ r1).setCell ⟨f, 2, none⟩ r2).setCell ⟨f, 3, none⟩ r3).setCell ⟨f, 4, none⟩ r4).setCell ⟨f, 5, none⟩ r5).cell? ⟨f, 0, none⟩ = some r0 ∧ ((((((W.setCell ⟨f, 0, none⟩ r0).setCell ⟨f, 1, none⟩ r1).setCell ⟨f, 2, none⟩ r2).setCell ⟨f, 3, none⟩ r3).setCell ⟨f, 4, none⟩ r4).setCell ⟨f, 5, none⟩ r5).cell? ⟨f, 1, none⟩ = some r1 ∧ ((((((W.setCell ⟨f, 0, none⟩ r0).setCell ⟨f, 1, none⟩ r1).setCell ⟨f, 2, none⟩ r2).setCell ⟨f, 3, none⟩ r3).setCell ⟨f, 4, none⟩ r4).setCell ⟨f, 5, none⟩ r5).cell? ⟨f, 2, none⟩ = some r2 ∧ ((((((W.setCell ⟨f, 0, none⟩ r0).setCell ⟨f, 1, none⟩ r1).setCell ⟨f, 2, none⟩ r2).setCell ⟨f, 3, none⟩ r3).setCell ⟨f, 4, none⟩ r4).setCell ⟨f, 5, none⟩ r5).cell? ⟨f, 3, none⟩ = some r3 ∧ ((((((W.setCell ⟨f, 0, none⟩ r0).setCell ⟨f, 1, none⟩ r1).setCell ⟨f, 2, none⟩ r2).setCell ⟨f, 3, none⟩ r3).setCell ⟨f, 4, none⟩ r4).setCell ⟨f, 5, none⟩ r5).cell? ⟨f, 4, none⟩ = some r4 ∧ ((((((W.setCell ⟨f, 0, none⟩ r0).setCell ⟨f, 1, none⟩ r1).setCell ⟨f, 2, none⟩ r2).setCell ⟨f, 3, none⟩ r3).setCell ⟨f, 4, none⟩ r4).setCell ⟨f, 5, none⟩ r5).cell? ⟨f, 5, none⟩ = some r5) ∧ Only B w ((((((W.setCell ⟨f, 0, none⟩ r0).setCell ⟨f, 1, none⟩ r1).setCell ⟨f, 2, none⟩ r2).setCell ⟨f, 3, none⟩ r3).setCell ⟨f, 4, none⟩ r4).setCell ⟨f, 5, none⟩ r5) := by
  obtain ⟨hE, tE⟩ := stt_6 l.blk r0 r1 r2 r3 r4 r5
  exact ⟨(cls_6 hE).1, (((((((l.only).setNew l.new r0).setNew l.new r1).setNew l.new r2).setNew l.new r3).setNew l.new r4).setNew l.new r5)⟩
set_option maxHeartbeats 8000000 in
set_option maxRecDepth 100000 in
theorem draw_checkCert (w : World) (a : Option Addr) (len cap : Nat) (z : List Int) (hr : IsRow .u8 w a len cap z) :
    Calls Tryd.prog 29 #[.slice a len cap] w fun e w' => ∃ (s : Int) (x : CertD) (now : Int), In64 s ∧ x.wf ∧ e = .returned (.tuple #[.int .i64 s, x.val, .int .i64 now]) ∧ Below w.heap.size w w' := by
  obtain ⟨W0, hW0⟩ : ∃ W0, W0 = w.alloc (.cells #[.int .i64 0, .int .i64 0, .int .i64 0, .int .i64 0, .int .i64 0, .int .i64 0] 27) := ⟨_, rfl⟩
  have hb0 : Below w.heap.size w W0 := by rw [hW0]; exact (Below.refl _ _).alloc (Nat.le_refl _) _
  have hk0 : W0.heap[w.heap.size]? = some (.cells #[.int .i64 0, .int .i64 0, .int .i64 0, .int .i64 0, .int .i64 0, .int .i64 0] 27) := by rw [hW0]; exact blk_new _ _ _
  have hr0 := hr.below hb0
  go_enter Tryd.func29, Tryd.ntmps29
  go_upto_region 1 with fail
  rw [← hW0]
  clear hW0
  go_wp2_with fail
  refine (new_any W0 a len cap z hr0).mono ?_
  rintro e w1 ⟨B, rfl, hB, hb1, hc1⟩
  have la1 : Loc w B w.heap.size 27 #[.int .i64 0, .int .i64 0, .int .i64 0, .int .i64 0, .int .i64 0, .int .i64 0] w1 := Loc.early hb0 hb1 hk0 (Nat.le_refl _) (blk_lt hk0) hB
  go_wp2_with fail
  refine (anyC_any _ B a len cap z hc1).mono ?_
  rintro e w2 ⟨y, hy, rfl, ho2, hc2⟩
  obtain ⟨y0, y1, y2, y3, y4, y5⟩ := y
  rw [CertD.val_mk]
  have la2 := la1.call ho2
  have hBs : B < w2.heap.size := hc2.lt
  obtain ⟨W3, hW3⟩ : ∃ W3, w2.alloc (.cells #[.int .i64 y0, .int .i64 y1, .int .i64 y2, .int .i64 y3, .int .i64 y4, .int .i64 y5] 27) = W3 := ⟨_, rfl⟩
  have la : Loc w B w.heap.size 27 #[.int .i64 0, .int .i64 0, .int .i64 0, .int .i64 0, .int .i64 0, .int .i64 0] W3 := by rw [← hW3]; exact la2.alloc _
  have lb : Loc w B w2.heap.size 27 #[.int .i64 y0, .int .i64 y1, .int .i64 y2, .int .i64 y3, .int .i64 y4, .int .i64 y5] W3 := by rw [← hW3]; exact Loc.mk_new la2.only hBs
  have hc3 : Cur W3 B a len cap z := by rw [← hW3]; exact hc2.alloc _
  have HWF := Lib.hid hy
  have hs2 : w.heap.size < w2.heap.size := la2.lt
  generalize hF : w2.heap.size = F at lb hBs hs2
  obtain ⟨⟨c0, c1, c2, c3, c4, c5⟩, -⟩ := cls_6 lb.blk
  have hkb := hk0
  have hBf : B ≠ w.heap.size := by have := blk_lt hk0; omega
  clear la1 la2 hc1 hc2 ho2 hy hb1 hk0 hr0 hkb
  go_upto_region 3 with fail
  (try rw [hW3])
  (try rw [hF])
  clear hW3 hF
  go_wp2_with fail
  refine (once_any _ B a len cap z 2 (by decide) (by decide) hc3).mono ?_
  rintro e w4 ⟨oc, rfl, ho4, hc4⟩
  have la4 := la.call ho4
  have lb4 := lb.call ho4
  clear la lb hc3 ho4 c0 c1 c2 c3 c4 c5
  cases oc
  · skip
    go_upto_region 6 with fail
    have la := la4.drew
    have lb := lb4.drew
    have hc := hc4.only (Below.refl _ _).drew
    have hX : F ≠ w.heap.size := by omega
    clear la4 lb4 hc4
    refine wp_region_held_drew (S := fun U => U.cell? ⟨F, 0, none⟩ = some (.int .i64 y0) ∧ U.cell? ⟨F, 1, none⟩ = some (.int .i64 y1) ∧ U.cell? ⟨F, 2, none⟩ = some (.int .i64 y2) ∧ U.cell? ⟨F, 3, none⟩ = some (.int .i64 y3) ∧ U.cell? ⟨F, 4, none⟩ = some (.int .i64 y4) ∧ U.cell? ⟨F, 5, none⟩ = some (.int .i64 y5)) (by kernel_rfl) (lb.cells6) (fun hHeld => ?_)
    generalize hDD : w4.drew = UD at la lb hc hHeld ⊢
    refine wpAnyH_take (i := 0) (oi := ⟨some 18, _, _, _, _, _⟩) (v := ?_) rfl (by kernel_rfl) (by kernel_rfl) (by kernel_rfl) (fun _ _ _ h => h) (Or.inl ⟨by rfl, ?_⟩) (by assumption) ?_
    rotate_left
    · intro w hSw; (try dsimp only at hSw); go_simp <;> (with_reducible rfl)
    (try simp only [Act.put, List.setIfInBounds_toArray, List.set_cons_zero, List.set_cons_succ])
    refine wpAnyH_take (i := 4) (oi := ⟨some 22, _, _, _, _, _⟩) (v := ?_) rfl (by kernel_rfl) (by kernel_rfl) (by kernel_rfl) (fun _ _ _ h => h) (Or.inl ⟨by rfl, ?_⟩) (by assumption) ?_
    rotate_left
    · intro w hSw; (try dsimp only at hSw); go_simp <;> (with_reducible rfl)
    (try simp only [Act.put, List.setIfInBounds_toArray, List.set_cons_zero, List.set_cons_succ])
    refine wpAnyH_take (i := 3) (oi := ⟨some 21, _, _, _, _, _⟩) (v := ?_) rfl (by kernel_rfl) (by kernel_rfl) (by kernel_rfl) (fun _ _ _ h => h) (Or.inl ⟨by rfl, ?_⟩) (by assumption) ?_
    rotate_left
    · intro w hSw; (try dsimp only at hSw); go_simp <;> (with_reducible rfl)
    (try simp only [Act.put, List.setIfInBounds_toArray, List.set_cons_zero, List.set_cons_succ])
    refine wpAnyH_ready (rs := [1]) (by kernel_rfl) (by simp) ?_
    refine AllReadyH.cons (o := ⟨some 19, _, _, _, _, _⟩) rfl (fun K hK => ?_) AllReadyH.nil
    have HI := ints_lit UD B hc.lt 3 [.int .i64 77, .int .i64 77, .int .i64 77, .int .i64 78] 4 (by decide)
    have la := la.alloc (.cells #[.int .i64 77, .int .i64 77, .int .i64 77, .int .i64 78] 3)
    have lb := lb.alloc (.cells #[.int .i64 77, .int .i64 77, .int .i64 77, .int .i64 78] 3)
    have hc := hc.alloc (.cells #[.int .i64 77, .int .i64 77, .int .i64 77, .int .i64 78] 3)
    go_simp
    refine hK.out _ _ (lb.cells6) (fun hHeld2 => ?_)
    clear hK K
    (try simp only [Act.put, List.setIfInBounds_toArray, List.set_cons_zero, List.set_cons_succ])
    refine wpAnyH_ready (rs := [2]) (by kernel_rfl) (by simp) ?_
    refine AllReadyH.cons (o := ⟨some 20, _, _, _, _, _⟩) rfl (fun K hK => ?_) AllReadyH.nil
    go_simp
    (with_reducible refine (int_any _ B a len cap z _ 4 _ (by decide) (by decide) HI hc).mono ?_)
    rintro e9 w9 ⟨s, s0, s1, rfl, ho9, hc9⟩
    have la := la.call ho9
    have lb := lb.call ho9
    refine hK.out _ _ (lb.cells6) (fun hHeld2 => ?_)
    clear hK K
    (try simp only [Act.put, List.setIfInBounds_toArray, List.set_cons_zero, List.set_cons_succ])
    refine wpAnyH_take (i := 5) (oi := ⟨some 2, _, _, _, _, _⟩) (v := ?_) rfl (by kernel_rfl) (by kernel_rfl) (by kernel_rfl) (fun _ _ _ h => h) (Or.inl ⟨by rfl, ?_⟩) (by assumption) ?_
    rotate_left
    · intro w hSw; (try dsimp only at hSw); go_simp <;> (with_reducible rfl)
    (try simp only [Act.put, List.setIfInBounds_toArray, List.set_cons_zero, List.set_cons_succ])
    refine wpAnyH_ready (rs := [6]) (by kernel_rfl) (by simp) ?_
    refine AllReadyH.cons (o := ⟨none, _, _, _, _, _⟩) rfl (fun K hK => ?_) AllReadyH.nil
    obtain ⟨⟨q0, q1, q2, q3, q4, q5⟩, g0, g1, g2, g3, g4, g5⟩ := cls_6 la.blk
    have HB := Lib.hid (box6o la (.int .i64 y0) (.int .i64 y1) (.int .i64 y2) (.int .i64 y3) (.int .i64 y4) (.int .i64 y5))
    have lbs := ((((((lb.setFar la.new hX 0 (.int .i64 y0)).setFar la.new hX 1 (.int .i64 y1)).setFar la.new hX 2 (.int .i64 y2)).setFar la.new hX 3 (.int .i64 y3)).setFar la.new hX 4 (.int .i64 y4)).setFar la.new hX 5 (.int .i64 y5))
    go_simp
    refine hK.out _ _ (lbs.cells6) (fun hHeld2 => ?_)
    clear hK K
    (try simp only [Act.put, List.setIfInBounds_toArray, List.set_cons_zero, List.set_cons_succ])
    refine wpAnyH_take (i := 7) (oi := ⟨some 4, _, _, _, _, _⟩) (v := ?_) rfl (by kernel_rfl) (by kernel_rfl) (by kernel_rfl) (fun _ _ _ h => h) (Or.inl ⟨by rfl, ?_⟩) (by assumption) ?_
    rotate_left
    · intro w hSw; (try dsimp only at hSw); go_simp <;> (with_reducible rfl)
    (try simp only [Act.put, List.setIfInBounds_toArray, List.set_cons_zero, List.set_cons_succ])
    refine wpAnyH_done (by kernel_rfl) ?_ _
    obtain ⟨⟨e0, e1, e2, e3, e4, e5⟩, o9⟩ := HB.out
    have B9 := o9.below (Nat.le_refl _) (Nat.le_trans hb0.size hB)
    clear q0 q1 q2 q3 q4 q5 g0 g1 g2 g3 g4 g5 lbs
    go_wp2
    generalize World.setCell _ _ _ = V9 at e0 e1 e2 e3 e4 e5 B9 ⊢
    refine bodyPost_ret (v := .tuple #[.int .i64 s, .agg #[.int .i64 y0, .int .i64 y1, .int .i64 y2, .int .i64 y3, .int .i64 y4, .int .i64 y5], .int .i64 y3]) (by simp [results, Tryd.results29, go_sem, e0, e1, e2, e3, e4, e5]) rfl ?_
    exact ⟨s, ⟨y0, y1, y2, y3, y4, y5⟩, y3, ⟨s0, s1⟩, HWF.out, rfl, B9⟩
  · go_wp2_with fail
    refine (time_any _ B a len cap z hc4).mono ?_
    rintro e w5 ⟨now, n0, n1, rfl, ho5, hc5⟩
    have la5 := la4.call ho5
    have lb5 := lb4.call ho5
    clear la4 lb4 hc4 ho5
    go_upto_region 6 with fail
    have la := la5.drew
    have lb := lb5.drew
    have hc := hc5.only (Below.refl _ _).drew
    have hX : F ≠ w.heap.size := by omega
    clear la5 lb5 hc5
    refine wp_region_held_drew (S := fun U => U.cell? ⟨F, 0, none⟩ = some (.int .i64 y0) ∧ U.cell? ⟨F, 1, none⟩ = some (.int .i64 y1) ∧ U.cell? ⟨F, 2, none⟩ = some (.int .i64 y2) ∧ U.cell? ⟨F, 3, none⟩ = some (.int .i64 y3) ∧ U.cell? ⟨F, 4, none⟩ = some (.int .i64 y4) ∧ U.cell? ⟨F, 5, none⟩ = some (.int .i64 y5)) (by kernel_rfl) (lb.cells6) (fun hHeld => ?_)
    generalize hDD : w5.drew = UD at la lb hc hHeld ⊢
    refine wpAnyH_take (i := 0) (oi := ⟨some 18, _, _, _, _, _⟩) (v := ?_) rfl (by kernel_rfl) (by kernel_rfl) (by kernel_rfl) (fun _ _ _ h => h) (Or.inl ⟨by rfl, ?_⟩) (by assumption) ?_
    rotate_left
    · intro w hSw; (try dsimp only at hSw); go_simp <;> (with_reducible rfl)
    (try simp only [Act.put, List.setIfInBounds_toArray, List.set_cons_zero, List.set_cons_succ])
    refine wpAnyH_take (i := 4) (oi := ⟨some 22, _, _, _, _, _⟩) (v := ?_) rfl (by kernel_rfl) (by kernel_rfl) (by kernel_rfl) (fun _ _ _ h => h) (Or.inl ⟨by rfl, ?_⟩) (by assumption) ?_
    rotate_left
    · intro w hSw; (try dsimp only at hSw); go_simp <;> (with_reducible rfl)
    (try simp only [Act.put, List.setIfInBounds_toArray, List.set_cons_zero, List.set_cons_succ])
    refine wpAnyH_take (i := 3) (oi := ⟨some 21, _, _, _, _, _⟩) (v := ?_) rfl (by kernel_rfl) (by kernel_rfl) (by kernel_rfl) (fun _ _ _ h => h) (Or.inl ⟨by rfl, ?_⟩) (by assumption) ?_
    rotate_left
    · intro w hSw; (try dsimp only at hSw); go_simp <;> (with_reducible rfl)
    (try simp only [Act.put, List.setIfInBounds_toArray, List.set_cons_zero, List.set_cons_succ])
    refine wpAnyH_ready (rs := [1]) (by kernel_rfl) (by simp) ?_
    refine AllReadyH.cons (o := ⟨some 19, _, _, _, _, _⟩) rfl (fun K hK => ?_) AllReadyH.nil
    have HI := ints_lit UD B hc.lt 3 [.int .i64 77, .int .i64 77, .int .i64 77, .int .i64 78] 4 (by decide)
    have la := la.alloc (.cells #[.int .i64 77, .int .i64 77, .int .i64 77, .int .i64 78] 3)
    have lb := lb.alloc (.cells #[.int .i64 77, .int .i64 77, .int .i64 77, .int .i64 78] 3)
    have hc := hc.alloc (.cells #[.int .i64 77, .int .i64 77, .int .i64 77, .int .i64 78] 3)
    go_simp
    refine hK.out _ _ (lb.cells6) (fun hHeld2 => ?_)
    clear hK K
    (try simp only [Act.put, List.setIfInBounds_toArray, List.set_cons_zero, List.set_cons_succ])
    refine wpAnyH_ready (rs := [2]) (by kernel_rfl) (by simp) ?_
    refine AllReadyH.cons (o := ⟨some 20, _, _, _, _, _⟩) rfl (fun K hK => ?_) AllReadyH.nil
    go_simp
    (with_reducible refine (int_any _ B a len cap z _ 4 _ (by decide) (by decide) HI hc).mono ?_)
    rintro e9 w9 ⟨s, s0, s1, rfl, ho9, hc9⟩
    have la := la.call ho9
    have lb := lb.call ho9
    refine hK.out _ _ (lb.cells6) (fun hHeld2 => ?_)
    clear hK K
    (try simp only [Act.put, List.setIfInBounds_toArray, List.set_cons_zero, List.set_cons_succ])
    refine wpAnyH_take (i := 5) (oi := ⟨some 2, _, _, _, _, _⟩) (v := ?_) rfl (by kernel_rfl) (by kernel_rfl) (by kernel_rfl) (fun _ _ _ h => h) (Or.inl ⟨by rfl, ?_⟩) (by assumption) ?_
    rotate_left
    · intro w hSw; (try dsimp only at hSw); go_simp <;> (with_reducible rfl)
    (try simp only [Act.put, List.setIfInBounds_toArray, List.set_cons_zero, List.set_cons_succ])
    refine wpAnyH_ready (rs := [6]) (by kernel_rfl) (by simp) ?_
    refine AllReadyH.cons (o := ⟨none, _, _, _, _, _⟩) rfl (fun K hK => ?_) AllReadyH.nil
    obtain ⟨⟨q0, q1, q2, q3, q4, q5⟩, g0, g1, g2, g3, g4, g5⟩ := cls_6 la.blk
    have HB := Lib.hid (box6o la (.int .i64 y0) (.int .i64 y1) (.int .i64 y2) (.int .i64 y3) (.int .i64 y4) (.int .i64 y5))
    have lbs := ((((((lb.setFar la.new hX 0 (.int .i64 y0)).setFar la.new hX 1 (.int .i64 y1)).setFar la.new hX 2 (.int .i64 y2)).setFar la.new hX 3 (.int .i64 y3)).setFar la.new hX 4 (.int .i64 y4)).setFar la.new hX 5 (.int .i64 y5))
    go_simp
    refine hK.out _ _ (lbs.cells6) (fun hHeld2 => ?_)
    clear hK K
    (try simp only [Act.put, List.setIfInBounds_toArray, List.set_cons_zero, List.set_cons_succ])
    refine wpAnyH_take (i := 7) (oi := ⟨some 4, _, _, _, _, _⟩) (v := ?_) rfl (by kernel_rfl) (by kernel_rfl) (by kernel_rfl) (fun _ _ _ h => h) (Or.inl ⟨by rfl, ?_⟩) (by assumption) ?_
    rotate_left
    · intro w hSw; (try dsimp only at hSw); go_simp <;> (with_reducible rfl)
    (try simp only [Act.put, List.setIfInBounds_toArray, List.set_cons_zero, List.set_cons_succ])
    refine wpAnyH_done (by kernel_rfl) ?_ _
    obtain ⟨⟨e0, e1, e2, e3, e4, e5⟩, o9⟩ := HB.out
    have B9 := o9.below (Nat.le_refl _) (Nat.le_trans hb0.size hB)
    clear q0 q1 q2 q3 q4 q5 g0 g1 g2 g3 g4 g5 lbs
    go_wp2
    generalize World.setCell _ _ _ = V9 at e0 e1 e2 e3 e4 e5 B9 ⊢
    refine bodyPost_ret (v := .tuple #[.int .i64 s, .agg #[.int .i64 y0, .int .i64 y1, .int .i64 y2, .int .i64 y3, .int .i64 y4, .int .i64 y5], .int .i64 now]) (by simp [results, Tryd.results29, go_sem, e0, e1, e2, e3, e4, e5]) rfl ?_
    exact ⟨s, ⟨y0, y1, y2, y3, y4, y5⟩, now, ⟨s0, s1⟩, HWF.out, rfl, B9⟩
end Go.Proofs.YtkbeejnikmegmaaDoor
