/- The draws of chapter 13's inputs: rules and a log, two rules. -/
import Derived.Test.YtjfmmingkciapaaDoorDraw13b
import Derived.Test.YtjfmmingkciapaaDoorAllow2
namespace Go.Proofs.YtjfmmingkciapaaDoor
open Go.ChangeShapes Go.WideShapes Go.ChangeAt Go.RowKit
set_option linter.unusedVariables false

/-- Rules that a law has drawn, as they may be read. -/
def AllR (w : World) (x : AllowedD) (vs : List Value) : Prop := (x.Good.length ≤ 7 ∧ x.Old.length ≤ 7 ∧ x.Bad.length ≤ 7) ∧ rdL w w.heap.size (AllowedD.c x) vs
theorem AllR.below {w w' : World} {x : AllowedD} {vs : List Value} (h : AllR w x vs) (hb : Below w.heap.size w w') : AllR w' x vs := ⟨h.1, (h.2.below hb (Nat.le_refl _)).more hb.size⟩
theorem AllR.form {w : World} {x : AllowedD} {vs : List Value} (h : AllR w x vs) : ∃ a1 k1 a2 k2 a3 k3, vs = [.int .i64 x.Version, .slice a1 x.Good.length k1, .slice a2 x.Old.length k2, .slice a3 x.Bad.length k3] := by
  obtain ⟨v, g, o, b⟩ := x
  obtain ⟨A1, c1, A2, c2, A3, c3, e, -⟩ := allowed_in h.2
  exact ⟨A1, c1, A2, c2, A3, c3, e⟩
theorem Tri.all {E : TypeId} {w : World} {L F : Nat} {v1 v2 v3 : Value} {g o b : List Int} {ver : Int} (h : Tri E w L F v1 v2 v3 g o b) (h0 : -1 ≤ ver) (h1 : ver < 4) (hn : g.length ≤ 7 ∧ o.length ≤ 7 ∧ b.length ≤ 7) : AllR w ⟨ver, g, o, b⟩ [.int .i64 ver, v1, v2, v3] :=
  ⟨hn, h.read (wf_i64 (by omega) (by omega))⟩
/-- The same, and its slices are new: they lie from block lo on. -/
def AllN (E : TypeId) (w : World) (lo : Nat) (x : AllowedD) (vs : List Value) : Prop := (x.Good.length ≤ 7 ∧ x.Old.length ≤ 7 ∧ x.Bad.length ≤ 7) ∧ (-1 ≤ x.Version ∧ x.Version < 4) ∧ ∃ v1 v2 v3 F, vs = [.int .i64 x.Version, v1, v2, v3] ∧ Tri E w lo F v1 v2 v3 x.Good x.Old x.Bad
theorem AllN.read {E : TypeId} {w : World} {lo : Nat} {x : AllowedD} {vs : List Value} (h : AllN E w lo x vs) : AllR w x vs := by
  obtain ⟨hn, ⟨h0, h1⟩, v1, v2, v3, F, rfl, ht⟩ := h
  obtain ⟨v, g, o, b⟩ := x
  exact ht.all h0 h1 hn
theorem AllN.keep {E : TypeId} {w w' : World} {lo : Nat} {x : AllowedD} {vs : List Value} (h : AllN E w lo x vs) (hs : w.heap.size ≤ w'.heap.size) (hb : ∀ k, lo ≤ k → k < w.heap.size → w'.heap[k]? = w.heap[k]?) : AllN E w' lo x vs := by
  obtain ⟨hn, hv, v1, v2, v3, F, e, ht⟩ := h
  exact ⟨hn, hv, v1, v2, v3, F, e, ht.keep hs fun k h1 h2 _ => hb k h1 h2⟩
theorem AllN.wide {E : TypeId} {w : World} {lo lo' : Nat} {x : AllowedD} {vs : List Value} (h : AllN E w lo x vs) (hl : lo' ≤ lo) : AllN E w lo' x vs := by
  obtain ⟨hn, hv, v1, v2, v3, F, e, ht⟩ := h
  exact ⟨hn, hv, v1, v2, v3, F, e, ht.wide hl⟩
theorem Tri.alln {E : TypeId} {w : World} {L F lo : Nat} {v1 v2 v3 : Value} {g o b : List Int} {ver : Int} (h : Tri E w L F v1 v2 v3 g o b) (hL : lo ≤ L) (h0 : -1 ≤ ver) (h1 : ver < 4) (hn : g.length ≤ 7 ∧ o.length ≤ 7 ∧ b.length ≤ 7) : AllN E w lo ⟨ver, g, o, b⟩ [.int .i64 ver, v1, v2, v3] :=
  ⟨hn, ⟨h0, h1⟩, v1, v2, v3, F, rfl, h.wide hL⟩
set_option maxHeartbeats 8000000 in
set_option maxRecDepth 100000 in
theorem draw_appraiseLog (w : World) (a : Option Addr) (len cap : Nat) (z : List Int) (hr : IsRow .u8 w a len cap z) :
    Calls Tryd.prog 5 #[.slice a len cap] w fun e w' => ∃ (x : AllowedD) (vs : List Value) (u : Value) (xs : List Int), e = .returned (.tuple #[.agg vs.toArray, u]) ∧ AllR w' x vs ∧ LogR w' u xs 4 ∧ Below w.heap.size w w' := by
  obtain ⟨W0, hW0⟩ : ∃ W0, W0 = w.alloc (.cells #[.int .i64 0, .slice none 0 0, .slice none 0 0, .slice none 0 0] 26) := ⟨_, rfl⟩
  have hb0 : Below w.heap.size w W0 := by rw [hW0]; exact (Below.refl _ _).alloc (Nat.le_refl _) _
  have hk0 : W0.heap[w.heap.size]? = some (.cells #[.int .i64 0, .slice none 0 0, .slice none 0 0, .slice none 0 0] 26) := by rw [hW0]; exact blk_new _ _ _
  have hr0 := hr.below hb0
  go_enter Tryd.func5, Tryd.ntmps5
  go_upto_region 1 with fail
  rw [← hW0]
  clear hW0
  go_wp2_with fail
  refine (new_any W0 a len cap z hr0).mono ?_
  rintro e w1 ⟨B, rfl, hB, hb1, hc1⟩
  have lR1 : Loc w B w.heap.size 26 #[.int .i64 0, .slice none 0 0, .slice none 0 0, .slice none 0 0] w1 := Loc.early hb0 hb1 hk0 (Nat.le_refl _) (blk_lt hk0) hB
  have hRl1 := lR1.lt
  have hBw : w.heap.size ≤ B := Nat.le_trans hb0.size hB
  clear hb1
  go_wp2_with fail
  refine (allowed_any _ B a len cap z hc1).mono ?_
  rintro e w2 ⟨verx, vx1, vx2, vx3, gx, ox, bx, rfl, ⟨hx0, hx1⟩, ⟨hxn1, hxn2, hxn3⟩, ⟨F0, hT2⟩, ho2, hc2⟩
  obtain ⟨ax1, kx1, rfl, -⟩ := id hT2.o1.read.form
  obtain ⟨ax2, kx2, rfl, -⟩ := id hT2.o2.read.form
  obtain ⟨ax3, kx3, rfl, -⟩ := id hT2.o3.read.form
  have lR2 := lR1.call ho2
  clear lR1 hk0
  have hs2 := ho2.size
  obtain ⟨W3, hW3⟩ : ∃ W3, W3 = w2.alloc (.cells #[.int .i64 verx, .slice ax1 gx.length kx1, .slice ax2 ox.length kx2, .slice ax3 bx.length kx3] 26) := ⟨_, rfl⟩
  have lF3 : Loc w B w2.heap.size 26 #[.int .i64 verx, .slice ax1 gx.length kx1, .slice ax2 ox.length kx2, .slice ax3 bx.length kx3] W3 := by rw [hW3]; exact Loc.mk_new lR2.only hc2.lt
  have lR3 : Loc w B w.heap.size 26 #[.int .i64 0, .slice none 0 0, .slice none 0 0, .slice none 0 0] W3 := by rw [hW3]; exact lR2.alloc _
  have hc3 : Cur W3 B a len cap z := by rw [hW3]; exact hc2.alloc _
  have hT3 : Tri 3 W3 w1.heap.size w2.heap.size (.slice ax1 gx.length kx1) (.slice ax2 ox.length kx2) (.slice ax3 bx.length kx3) gx ox bx := by rw [hW3]; exact hT2.box _
  have hBL : B < w1.heap.size := hc1.lt
  have hRL : w.heap.size < w1.heap.size := hRl1
  clear hc1 hc2 hT2 ho2 lR2
  go_upto_region 3 with fail
  rw [← hW3]
  clear hW3
  obtain ⟨F, hF⟩ : ∃ F, w2.heap.size = F := ⟨_, rfl⟩
  obtain ⟨L, hL⟩ : ∃ L, w1.heap.size = L := ⟨_, rfl⟩
  rw [hF, hL] at hT3
  rw [hF] at lF3 ⊢
  rw [hF, hL] at hs2
  rw [hL] at hBL hRL
  clear hF hL
  have hFR : F ≠ w.heap.size := by omega
  have lFD := lF3.drew
  have lRD := lR3.drew
  have hcD := hc3.drewN 1
  change Cur W3.drew B a len cap z at hcD
  have hTD := hT3.keep (w' := W3.drew) (Nat.le_refl _) (fun _ _ _ _ => rfl)
  refine wp_region_held_drew (S := fun U => U.cell? ⟨F, 0, none⟩ = some (.int .i64 verx) ∧ U.cell? ⟨F, 1, none⟩ = some (.slice ax1 gx.length kx1) ∧ U.cell? ⟨F, 2, none⟩ = some (.slice ax2 ox.length kx2) ∧ U.cell? ⟨F, 3, none⟩ = some (.slice ax3 bx.length kx3)) (by kernel_rfl) (lFD.cells4) (fun hHeld => ?_)
  generalize hDD : W3.drew = UD at lFD lRD hcD hTD hHeld ⊢
  refine wpAnyH_take (i := 0) (oi := ⟨some 10, _, _, _, _, _⟩) (v := ?_) rfl (by kernel_rfl) (by kernel_rfl) (by kernel_rfl) (fun _ _ _ h => h) (Or.inl ⟨by rfl, ?_⟩) (by assumption) ?_
  rotate_left
  · intro w hSw; (try dsimp only at hSw); go_simp <;> (with_reducible rfl)
  (try simp only [Act.put, List.setIfInBounds_toArray, List.set_cons_zero, List.set_cons_succ])
  refine wpAnyH_take (i := 1) (oi := ⟨some 11, _, _, _, _, _⟩) (v := ?_) rfl (by kernel_rfl) (by kernel_rfl) (by kernel_rfl) (fun _ _ _ h => h) (Or.inl ⟨by rfl, ?_⟩) (by assumption) ?_
  rotate_left
  · intro w hSw; (try dsimp only at hSw); go_simp <;> (with_reducible rfl)
  (try simp only [Act.put, List.setIfInBounds_toArray, List.set_cons_zero, List.set_cons_succ])
  refine wpAnyH_ready (rs := [2]) (by kernel_rfl) (by simp) ?_
  refine AllReadyH.cons (o := ⟨some 12, _, _, _, _, _⟩) rfl (fun K hK => ?_) AllReadyH.nil
  go_simp
  (with_reducible refine (log_any _ B a len cap z hcD).mono ?_)
  rintro e6 w6 ⟨ul, ls, rfl, hol, hll, hlb, ho6, hc6⟩
  have lF6 := lFD.call ho6
  have lR6 := lRD.call ho6
  have hT6 := hTD.only ho6 hBL
  refine hK.out _ _ (lF6.cells4) (fun hHeld2 => ?_)
  clear hK K
  (try simp only [Act.put, List.setIfInBounds_toArray, List.set_cons_zero, List.set_cons_succ])
  refine wpAnyH_ready (rs := [3]) (by kernel_rfl) (by simp) ?_
  refine AllReadyH.cons (o := ⟨none, _, _, _, _, _⟩) rfl (fun K hK => ?_) AllReadyH.nil
  obtain ⟨⟨q0, q1, q2, q3⟩, g0, g1, g2, g3⟩ := cls_4 lR6.blk
  obtain ⟨hE, tE⟩ := stt_4 lR6.blk (.int .i64 verx) (.slice ax1 gx.length kx1) (.slice ax2 ox.length kx2) (.slice ax3 bx.length kx3)
  have HE := Lib.hid (cls_4 hE).1
  have HT := Lib.hid tE
  have lFs := ((((lF6.setFar lR6.new hFR 0 (.int .i64 verx)).setFar lR6.new hFR 1 (.slice ax1 gx.length kx1)).setFar lR6.new hFR 2 (.slice ax2 ox.length kx2)).setFar lR6.new hFR 3 (.slice ax3 bx.length kx3))
  go_simp
  refine hK.out _ _ (lFs.cells4) (fun hHeld2 => ?_)
  clear hK K
  (try simp only [Act.put, List.setIfInBounds_toArray, List.set_cons_zero, List.set_cons_succ])
  refine wpAnyH_take (i := 4) (oi := ⟨some 3, _, _, _, _, _⟩) (v := ?_) rfl (by kernel_rfl) (by kernel_rfl) (by kernel_rfl) (fun _ _ _ h => h) (Or.inl ⟨by rfl, ?_⟩) (by assumption) ?_
  rotate_left
  · intro w hSw; (try dsimp only at hSw); go_simp <;> (with_reducible rfl)
  (try simp only [Act.put, List.setIfInBounds_toArray, List.set_cons_zero, List.set_cons_succ])
  refine wpAnyH_done (by kernel_rfl) ?_ _
  have tE := HT.out
  have hTf := (hT6.keep tE.size (fun j h1 h2 _ => tE.block j h2 (by rw [List.mem_singleton]; omega))).all (ver := verx) (by omega) hx1 ⟨by omega, by omega, by omega⟩
  have hRf : w.heap.size < UD.heap.size := lRD.lt
  have hlf : LogR _ ul ls 4 := ⟨hll, hlb, ((hol.keep (fun j h1 h2 h3 => tE.block j h3 (by rw [List.mem_singleton]; omega))).read).more tE.size⟩
  have hbf := (lR6.only.trans' tE (Nat.le_refl _)).below (Nat.le_refl _) hBw
  obtain ⟨e0, e1, e2, e3⟩ := HE.out
  obtain ⟨au, ku, rfl, -⟩ := id hol.read.form
  clear q0 q1 q2 q3 g0 g1 g2 g3 lFs tE HT hE
  generalize World.setCell _ _ _ = V9 at e0 e1 e2 e3 hTf hlf hbf ⊢
  go_wp2
  refine bodyPost_ret (v := .tuple #[.agg #[.int .i64 verx, .slice ax1 gx.length kx1, .slice ax2 ox.length kx2, .slice ax3 bx.length kx3], .slice au ls.length ku]) (by simp [results, Tryd.results5, go_sem, e0, e1, e2, e3]) rfl ?_
  exact ⟨_, _, _, ls, rfl, hTf, hlf, hbf⟩
end Go.Proofs.YtjfmmingkciapaaDoor
