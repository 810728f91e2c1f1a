/- The draws of chapter 8's inputs: a statement. -/
import Derived.Test.YtjfmmingkciapaaGreatDoorDraw8
namespace Go.Proofs.YtjfmmingkciapaaGreatDoor
open Go.ChangeShapes Go.WideShapes Go.ChangeAt Go.RowKit
set_option linter.unusedVariables false

theorem Loc.allocV {w0 w V : World} {B f : Nat} {T : TypeId} {cs : Array Value} {o : Obj} (h : Loc w0 B f T cs w) (hV : w.alloc o = V) : Loc w0 B f T cs V := hV ▸ h.alloc o
theorem Loc.newV {w0 w V : World} {B : Nat} {T : TypeId} {cs : Array Value} (h : Only B w0 w) (far : B < w.heap.size) (hV : w.alloc (.cells cs T) = V) : Loc w0 B w.heap.size T cs V := hV ▸ Loc.mk_new h far
theorem Cur.allocV {w V : World} {B : Nat} {a : Option Addr} {len cap : Nat} {z : List Int} {o : Obj} (h : Cur w B a len cap z) (hV : w.alloc o = V) : Cur V B a len cap z := hV ▸ h.alloc o
theorem Iss3.allocV {w V : World} {lo hi g : Nat} {kvs : List Value} {o : Obj} (h : Iss3 w lo hi g kvs) (hV : w.alloc o = V) (hs : hi ≤ w.heap.size) : Iss3 V lo hi g kvs := by
  subst hV
  exact h.below (B := w.heap.size) ((Below.refl _ _).alloc (Nat.le_refl _) o) hs
theorem size_allocV {w V : World} {o : Obj} (hV : w.alloc o = V) : w.heap.size < V.heap.size := by
  subst hV
  simp
theorem wf_wrap (x : Int) : (Lit.int .i64 (IntKind.i64.wrap x)).wf = true := wf_i64 (by rw [IntKind.wrap_i64]; omega) (by rw [IntKind.wrap_i64]; omega)
theorem Loc.cells7 {w0 w : World} {B f : Nat} {T : TypeId} {v0 v1 v2 v3 v4 v5 v6 : Value} (h : Loc w0 B f T #[v0, v1, v2, v3, v4, v5, v6] w) :
    (w.cell? ⟨f, 0, none⟩ = some v0 ∧ w.cell? ⟨f, 1, none⟩ = some v1 ∧ w.cell? ⟨f, 2, none⟩ = some v2 ∧ w.cell? ⟨f, 3, none⟩ = some v3 ∧ w.cell? ⟨f, 4, none⟩ = some v4 ∧ w.cell? ⟨f, 5, none⟩ = some v5 ∧ w.cell? ⟨f, 6, none⟩ = some v6) ∧
    (w.frozen? ⟨f, 0, none⟩ = false ∧ w.frozen? ⟨f, 1, none⟩ = false ∧ w.frozen? ⟨f, 2, none⟩ = false ∧ w.frozen? ⟨f, 3, none⟩ = false ∧ w.frozen? ⟨f, 4, none⟩ = false ∧ w.frozen? ⟨f, 5, none⟩ = false ∧ w.frozen? ⟨f, 6, none⟩ = false) :=
  ⟨⟨h.cell 0 rfl, h.cell 1 rfl, h.cell 2 rfl, h.cell 3 rfl, h.cell 4 rfl, h.cell 5 rfl, h.cell 6 rfl⟩, ⟨h.frozen 0, h.frozen 1, h.frozen 2, h.frozen 3, h.frozen 4, h.frozen 5, h.frozen 6⟩⟩
theorem Loc.store7 {w0 w : World} {B f : Nat} {T : TypeId} {z0 z1 z2 z3 z4 z5 z6 : Value} (h : Loc w0 B f T #[z0, z1, z2, z3, z4, z5, z6] w) (r0 r1 r2 r3 r4 r5 r6 : Value) : Loc w0 B f T #[r0, r1, r2, r3, r4, r5, r6] (((((((w.setCell ⟨f, 0, none⟩ r0).setCell ⟨f, 1, none⟩ r1).setCell ⟨f, 2, none⟩ r2).setCell ⟨f, 3, none⟩ r3).setCell ⟨f, 4, none⟩ r4).setCell ⟨f, 5, none⟩ r5).setCell ⟨f, 6, none⟩ r6) := by
  have h0 : Loc w0 B f T #[r0, z1, z2, z3, z4, z5, z6] (w.setCell ⟨f, 0, none⟩ r0) := h.set 0 r0
  have h1 : Loc w0 B f T #[r0, r1, z2, z3, z4, z5, z6] ((w.setCell ⟨f, 0, none⟩ r0).setCell ⟨f, 1, none⟩ r1) := h0.set 1 r1
  have h2 : Loc w0 B f T #[r0, r1, r2, z3, z4, z5, z6] (((w.setCell ⟨f, 0, none⟩ r0).setCell ⟨f, 1, none⟩ r1).setCell ⟨f, 2, none⟩ r2) := h1.set 2 r2
  have h3 : Loc w0 B f T #[r0, r1, r2, r3, z4, z5, z6] ((((w.setCell ⟨f, 0, none⟩ r0).setCell ⟨f, 1, none⟩ r1).setCell ⟨f, 2, none⟩ r2).setCell ⟨f, 3, none⟩ r3) := h2.set 3 r3
  have h4 : Loc w0 B f T #[r0, r1, r2, r3, r4, z5, z6] (((((w.setCell ⟨f, 0, none⟩ r0).setCell ⟨f, 1, none⟩ r1).setCell ⟨f, 2, none⟩ r2).setCell ⟨f, 3, none⟩ r3).setCell ⟨f, 4, none⟩ r4) := h3.set 4 r4
  have h5 : Loc w0 B f T #[r0, r1, r2, r3, r4, r5, z6] ((((((w.setCell ⟨f, 0, none⟩ r0).setCell ⟨f, 1, none⟩ r1).setCell ⟨f, 2, none⟩ r2).setCell ⟨f, 3, none⟩ r3).setCell ⟨f, 4, none⟩ r4).setCell ⟨f, 5, none⟩ r5) := h4.set 5 r5
  have h6 : Loc w0 B f T #[r0, r1, r2, r3, r4, r5, r6] (((((((w.setCell ⟨f, 0, none⟩ r0).setCell ⟨f, 1, none⟩ r1).setCell ⟨f, 2, none⟩ r2).setCell ⟨f, 3, none⟩ r3).setCell ⟨f, 4, none⟩ r4).setCell ⟨f, 5, none⟩ r5).setCell ⟨f, 6, none⟩ r6) := h5.set 6 r6
  exact h6
theorem Loc.far7 {w0 w : World} {B f g : Nat} {T : TypeId} {cs : Array Value} (h : Loc w0 B f T cs w) (hg : w0.heap.size ≤ g) (hne : f ≠ g) (r0 r1 r2 r3 r4 r5 r6 : Value) : Loc w0 B f T cs (((((((w.setCell ⟨g, 0, none⟩ r0).setCell ⟨g, 1, none⟩ r1).setCell ⟨g, 2, none⟩ r2).setCell ⟨g, 3, none⟩ r3).setCell ⟨g, 4, none⟩ r4).setCell ⟨g, 5, none⟩ r5).setCell ⟨g, 6, none⟩ r6) :=
  ((((((h.setFar hg hne 0 r0).setFar hg hne 1 r1).setFar hg hne 2 r2).setFar hg hne 3 r3).setFar hg hne 4 r4).setFar hg hne 5 r5).setFar hg hne 6 r6
theorem Cur.far7 {w : World} {B g : Nat} {a : Option Addr} {len cap : Nat} {z : List Int} (h : Cur w B a len cap z) (hg : B < g) (r0 r1 r2 r3 r4 r5 r6 : Value) : Cur (((((((w.setCell ⟨g, 0, none⟩ r0).setCell ⟨g, 1, none⟩ r1).setCell ⟨g, 2, none⟩ r2).setCell ⟨g, 3, none⟩ r3).setCell ⟨g, 4, none⟩ r4).setCell ⟨g, 5, none⟩ r5).setCell ⟨g, 6, none⟩ r6) B a len cap z :=
  ((((((h.setFar hg 0 r0).setFar hg 1 r1).setFar hg 2 r2).setFar hg 3 r3).setFar hg 4 r4).setFar hg 5 r5).setFar hg 6 r6
theorem Iss3.cells {w : World} {lo hi g j : Nat} {kvs : List Value} {x : IssuerD} {kv : Value} (h : Iss3 w lo hi g kvs) (hx : iss3[j]? = some x) (hk : kvs[j]? = some kv) :
    w.cell? ⟨g, j * 3, none⟩ = some (.int .i64 x.Id) ∧ w.cell? ⟨g, j * 3 + 1, none⟩ = some kv ∧ w.cell? ⟨g, j * 3 + 2, none⟩ = some (.int .i64 x.Secret) := by
  have ha : ∀ r, r < 3 → (List.zipWith issC iss3 kvs).flatten[j * 3 + r]? = (issC x kv)[r]? := fun r hr => flatten_at (zip_all iss3 kvs) (zip_at hx hk) hr
  exact ⟨blk_cell h.blk (j * 3 + 0) (by rw [List.getElem?_toArray]; exact ha 0 (by decide)), blk_cell h.blk (j * 3 + 1) (by rw [List.getElem?_toArray]; exact ha 1 (by decide)), blk_cell h.blk (j * 3 + 2) (by rw [List.getElem?_toArray]; exact ha 2 (by decide))⟩
theorem Iss3.pick {w : World} {lo hi g : Nat} {kvs : List Value} (h : Iss3 w lo hi g kvs) {j : Nat} (hj : j < 3) : ∃ (i s : Int) (ks : List Int) (A : Option Addr) (n : Nat), iss3[j]? = some ⟨i, ks, s⟩ ∧ kvs[j]? = some (.slice A ks.length n) ∧ 0 ≤ i ∧ i ≤ 2 ∧ 101 ≤ s ∧ s ≤ 103 := by
  obtain ⟨x, hx⟩ : ∃ x, iss3[j]? = some x := ⟨_, List.getElem?_eq_getElem hj⟩
  obtain ⟨kv, hk⟩ : ∃ kv, kvs[j]? = some kv := ⟨_, List.getElem?_eq_getElem (by rw [h.len]; exact hj)⟩
  have hb : 0 ≤ x.Id ∧ x.Id ≤ 2 ∧ 101 ≤ x.Secret ∧ x.Secret ≤ 103 := by
    have hm := List.mem_of_getElem? hx
    simp only [iss3, List.mem_cons, List.not_mem_nil, or_false] at hm
    rcases hm with rfl | rfl | rfl <;> decide
  obtain ⟨i, ks, s⟩ := x
  obtain ⟨A, n, rfl, -⟩ := (h.kinds j _ _ hk hx).read.form
  exact ⟨i, s, ks, A, n, hx, hk, hb⟩
/-- What StateFact hands back, its numbers in range. -/
theorem stateV_wf (i s : Int) (ks : List Int) (k s' v i' t u : Int) (hi : (Lit.int .i64 i).wf = true) (hf : FactD.wf ⟨k, s', v, i', t, u⟩) : ∃ (r0 r1 r2 r3 r4 r5 r6 : Int) (o : Bool), stateV ⟨i, ks, s⟩ ⟨k, s', v, i', t, u⟩ = .tuple #[.agg #[.int .i64 r0, .int .i64 r1, .int .i64 r2, .int .i64 r3, .int .i64 r4, .int .i64 r5, .int .i64 r6], .bool o] ∧ StatedD.wf ⟨⟨r0, r1, r2, r3, r4, r5⟩, r6⟩ := by
  obtain ⟨h0, h1, h2, h3, h4, h5⟩ := hf
  have hz : (Lit.int .i64 0).wf = true := wf_i64 (by decide) (by decide)
  unfold stateV
  split
  · have hb := keyed_bd s [k, s', v, i, t, u]
    exact ⟨_, _, _, _, _, _, _, _, rfl, h0, h1, h2, hi, h4, h5, show (Lit.int .i64 (keyed s [k, s', v, i, t, u])).wf = true from wf_i64 (by omega) (by omega)⟩
  · exact ⟨_, _, _, _, _, _, _, _, rfl, hz, hz, hz, hz, hz, hz, hz⟩
set_option maxHeartbeats 16000000 in
set_option maxRecDepth 100000 in
theorem stated_any (w : World) (B : Nat) (a : Option Addr) (len cap : Nat) (z : List Int) (hc : Cur w B a len cap z) :
    Calls Tryz.prog 39 #[.pointer (some ⟨B, 0, none⟩)] w fun e w' => ∃ y : StatedD, y.wf ∧ e = .returned y.val ∧ Only B w w' ∧ Cur w' B a len cap z := by
  have hr : Loc w B w.heap.size 32 #[.int .i64 0, .int .i64 0, .int .i64 0, .int .i64 0, .int .i64 0, .int .i64 0, .int .i64 0] (w.alloc (.cells #[.int .i64 0, .int .i64 0, .int .i64 0, .int .i64 0, .int .i64 0, .int .i64 0, .int .i64 0] 32)) := Loc.mk_new (Only.refl _ _) hc.lt
  have hBR : B < w.heap.size := hc.lt
  go_enter Tryz.func39, Tryz.ntmps39
  go_wp2_with fail
  refine (fact_any _ B a len cap z (hc.alloc _)).mono ?_
  rintro e w1 ⟨⟨k, s, v, i, t, u'⟩, hfw, rfl, ho1, hc1⟩
  have hr1 := hr.call ho1
  clear hr ho1 hc
  have hfi : ∀ x : Int, (Lit.int .i64 x).wf = true → FactD.wf ⟨k, s, v, x, t, u'⟩ := fun x h => ⟨hfw.1, hfw.2.1, hfw.2.2.1, h, hfw.2.2.2.2.1, hfw.2.2.2.2.2⟩
  rw [FactD.val_mk]
  go_upto_region 2 with fail
  obtain ⟨W4, hW4⟩ : ∃ W : World, W = w1.alloc (.cells #[.int .i64 k, .int .i64 s, .int .i64 v, .int .i64 i, .int .i64 t, .int .i64 u'] 28) := ⟨_, rfl⟩
  rw [← hW4]
  have lf4 : Loc w B w1.heap.size 28 #[.int .i64 k, .int .i64 s, .int .i64 v, .int .i64 i, .int .i64 t, .int .i64 u'] W4 := by rw [hW4]; exact Loc.mk_new hr1.only hc1.lt
  have lr4 : Loc w B w.heap.size 32 #[.int .i64 0, .int .i64 0, .int .i64 0, .int .i64 0, .int .i64 0, .int .i64 0, .int .i64 0] W4 := by rw [hW4]; exact hr1.alloc _
  have hc4 : Cur W4 B a len cap z := by rw [hW4]; exact hc1.alloc _
  clear hW4 hr1 hc1
  generalize w1.heap.size = F at lf4 ⊢
  have lf := lf4.drew
  have lr := lr4.drew
  have hc : Cur W4.drew B a len cap z := hc4.drewN 1
  go_cut [4] (fun p wx => ∃ (G : Nat) (r0 r1 r2 r3 r4 r5 r6 : Int), p = .pointer (some ⟨G, 0, none⟩) ∧ StatedD.wf ⟨⟨r0, r1, r2, r3, r4, r5⟩, r6⟩ ∧ Loc w B G 32 #[.int .i64 r0, .int .i64 r1, .int .i64 r2, .int .i64 r3, .int .i64 r4, .int .i64 r5, .int .i64 r6] wx ∧ Loc w B w.heap.size 32 #[.int .i64 0, .int .i64 0, .int .i64 0, .int .i64 0, .int .i64 0, .int .i64 0, .int .i64 0] wx ∧ Cur wx B a len cap z ∧ G ≠ w.heap.size)
  case first =>
    clear lf4 lr4 hc4
    refine wp_region_held_drew (S := fun U => U.cell? ⟨F, 0, none⟩ = some (.int .i64 k) ∧ U.cell? ⟨F, 1, none⟩ = some (.int .i64 s) ∧ U.cell? ⟨F, 2, none⟩ = some (.int .i64 v) ∧ U.cell? ⟨F, 3, none⟩ = some (.int .i64 i) ∧ U.cell? ⟨F, 4, none⟩ = some (.int .i64 t) ∧ U.cell? ⟨F, 5, none⟩ = some (.int .i64 u')) (by kernel_rfl) (lf.cells6) (fun hHeld => ?_)
    generalize hDD : W4.drew = UD at lf lr hc hHeld ⊢
    refine wpAnyH_take (i := 1) (oi := ⟨some 10, _, _, _, _, _⟩) (v := ?_) rfl (by kernel_rfl) (by kernel_rfl) (by kernel_rfl) (fun _ _ _ h => h) (Or.inl ⟨by rfl, ?_⟩) (by assumption) ?_
    rotate_left
    · intro w hSw; (try dsimp only at hSw); go_simp <;> (with_reducible rfl)
    (try simp only [Act.put, List.setIfInBounds_toArray, List.set_cons_zero, List.set_cons_succ])
    refine wpAnyH_take (i := 5) (oi := ⟨some 14, _, _, _, _, _⟩) (v := ?_) rfl (by kernel_rfl) (by kernel_rfl) (by kernel_rfl) (fun _ _ _ h => h) (Or.inl ⟨by rfl, ?_⟩) (by assumption) ?_
    rotate_left
    · intro w hSw; (try dsimp only at hSw); go_simp <;> (with_reducible rfl)
    (try simp only [Act.put, List.setIfInBounds_toArray, List.set_cons_zero, List.set_cons_succ])
    refine wpAnyH_ready (rs := [0, 10]) (by kernel_rfl) (by simp) ?_
    refine AllReadyH.cons (o := ⟨some 9, _, _, _, _, _⟩) rfl (fun K hK => ?_) (AllReadyH.cons (o := ⟨some 4, _, _, _, _, _⟩) rfl (fun K hK => ?_) (AllReadyH.nil))
    · skip
      go_simp
      (with_reducible refine (issuers_any _).mono ?_)
      rintro e2 u2 ⟨g, kvs, rfl, h3, b2⟩
      have hBlo := hc.lt
      first |have ls := ls.call (Below.only (B := B) b2) |skip
      have lf := lf.call (Below.only (B := B) b2)
      have lr := lr.call (Below.only (B := B) b2)
      have hc := hc.only b2
      have hz3 : u2.heap.size ≤ u2.heap.size := Nat.le_refl _
      refine hK.out _ _ (lf.cells6) (fun hHeld2 => ?_)
      clear hK K
      (try simp only [Act.put, List.setIfInBounds_toArray, List.set_cons_zero, List.set_cons_succ])
      refine wpAnyH_ready (rs := [2, 10]) (by kernel_rfl) (by simp) ?_
      refine AllReadyH.cons (o := ⟨some 11, _, _, _, _, _⟩) rfl (fun K hK => ?_) (AllReadyH.cons (o := ⟨some 4, _, _, _, _, _⟩) rfl (fun K hK => ?_) (AllReadyH.nil))
      · skip
        go_simp
        (with_reducible refine (below_any _ B a len cap z 3 (by decide) (by decide) hc).mono ?_)
        rintro e3 u3 ⟨j, hj, rfl, ho3, hc3⟩
        first |have ls := ls.call ho3 |skip
        have lf := lf.call ho3
        have lr := lr.call ho3
        have h3 := h3.only ho3 hBlo
        have hc := hc3
        have hz3 := Nat.le_trans hz3 ho3.size
        have hj0 : (0 : Int) ≤ (j : Int) := by omega
        obtain ⟨i2, s2, ks, A, n, hx, hkv, ib0, ib1, sb0, sb1⟩ := h3.pick (j := j) (by omega)
        refine hK.out _ _ (lf.cells6) (fun hHeld2 => ?_)
        clear hK K
        (try simp only [Act.put, List.setIfInBounds_toArray, List.set_cons_zero, List.set_cons_succ])
        refine wpAnyH_take (i := 3) (oi := ⟨some 12, _, _, _, _, _⟩) (v := ?_) rfl (by kernel_rfl) (by kernel_rfl) (by kernel_rfl) (fun _ _ _ h => h) (Or.inl ⟨by rfl, ?_⟩) (by assumption) ?_
        rotate_left
        · intro w hSw; (try dsimp only at hSw); go_simp <;> (with_reducible rfl)
        (try simp only [Act.put, List.setIfInBounds_toArray, List.set_cons_zero, List.set_cons_succ])
        refine wpAnyH_ready (rs := [4, 10]) (by kernel_rfl) (by simp) ?_
        refine AllReadyH.cons (o := ⟨some 13, _, _, _, _, _⟩) rfl (fun K hK => ?_) (AllReadyH.cons (o := ⟨some 4, _, _, _, _, _⟩) rfl (fun K hK => ?_) (AllReadyH.nil))
        · skip
          obtain ⟨c0, c1, c2⟩ := h3.cells hx hkv
          go_simp
          refine hK.out _ _ (lf.cells6) (fun hHeld2 => ?_)
          clear hK K
          (try simp only [Act.put, List.setIfInBounds_toArray, List.set_cons_zero, List.set_cons_succ])
          refine wpAnyH_ready (rs := [6, 10]) (by kernel_rfl) (by simp) ?_
          refine AllReadyH.cons (o := ⟨some 15, _, _, _, _, _⟩) rfl (fun K hK => ?_) (AllReadyH.cons (o := ⟨some 4, _, _, _, _, _⟩) rfl (fun K hK => ?_) (AllReadyH.nil))
          · skip
            go_simp
            (with_reducible refine (spec_stateFact _ u2.heap.size n A i2 s2 k s v i t u' ks (h3.kinds j _ _ hkv hx).read hz3 (wf_i64 (by omega) (by omega)) (hfi i2 (wf_i64 (by omega) (by omega)))).mono ?_)
            rintro e4 u4 ⟨he4, b4⟩
            first |have ls := ls.call (Below.only (B := B) b4) |skip
            have lf := lf.call (Below.only (B := B) b4)
            have lr := lr.call (Below.only (B := B) b4)
            have hc := hc.only b4
            obtain ⟨r0, r1, r2, r3, r4, r5, r6, o, hV, hw⟩ := stateV_wf i2 s2 ks k s v i t u' (wf_i64 (by omega) (by omega)) hfw
            rw [hV] at he4
            subst he4
            refine hK.out _ _ (lf.cells6) (fun hHeld2 => ?_)
            clear hK K
            (try simp only [Act.put, List.setIfInBounds_toArray, List.set_cons_zero, List.set_cons_succ])
            refine wpAnyH_take (i := 7) (oi := ⟨some 8, _, _, _, _, _⟩) (v := ?_) rfl (by kernel_rfl) (by kernel_rfl) (by kernel_rfl) (fun _ _ _ h => h) (Or.inl ⟨by rfl, ?_⟩) (by assumption) ?_
            rotate_left
            · intro w hSw; (try dsimp only at hSw); go_simp <;> (with_reducible rfl)
            (try simp only [Act.put, List.setIfInBounds_toArray, List.set_cons_zero, List.set_cons_succ])
            refine wpAnyH_take (i := 8) (oi := ⟨some 16, _, _, _, _, _⟩) (v := ?_) rfl (by kernel_rfl) (by kernel_rfl) (by kernel_rfl) (fun _ _ _ h => h) (Or.inl ⟨by rfl, ?_⟩) (by assumption) ?_
            rotate_left
            · intro w hSw; (try dsimp only at hSw); go_simp <;> (with_reducible rfl)
            (try simp only [Act.put, List.setIfInBounds_toArray, List.set_cons_zero, List.set_cons_succ])
            refine wpAnyH_take (i := 9) (oi := ⟨some 17, _, _, _, _, _⟩) (v := ?_) rfl (by kernel_rfl) (by kernel_rfl) (by kernel_rfl) (fun _ _ _ h => h) (Or.inl ⟨by rfl, ?_⟩) (by assumption) ?_
            rotate_left
            · intro w hSw; (try dsimp only at hSw); go_simp <;> (with_reducible rfl)
            (try simp only [Act.put, List.setIfInBounds_toArray, List.set_cons_zero, List.set_cons_succ])
            refine wpAnyH_ready (rs := [10]) (by kernel_rfl) (by simp) ?_
            refine AllReadyH.cons (o := ⟨some 4, _, _, _, _, _⟩) rfl (fun K hK => ?_) AllReadyH.nil
            go_simp
            generalize hV' : World.alloc _ _ = V
            have ls := Loc.newV lf.only hc.lt hV'
            have hGR := Nat.ne_of_gt lr.lt
            have hFG := Nat.ne_of_lt lf.lt
            have hBG := hc.lt
            have hRG := Nat.le_of_lt lr.lt
            first |have h3 := h3.allocV hV' hz3 |skip
            first |have hz3 := Nat.le_trans hz3 (Nat.le_of_lt (size_allocV hV')) |skip
            have lf := lf.allocV hV'
            have lr := lr.allocV hV'
            have hc := hc.allocV hV'
            refine hK.out _ _ (lf.cells6) (fun hHeld2 => ?_)
            clear hK K
            (try simp only [Act.put, List.setIfInBounds_toArray, List.set_cons_zero, List.set_cons_succ])
            refine wpAnyH_ready (rs := [11]) (by kernel_rfl) (by simp) ?_
            refine AllReadyH.cons (o := ⟨none, _, _, _, _, _⟩) rfl (fun K hK => ?_) AllReadyH.nil
            obtain ⟨⟨z0, z1, z2, z3, z4, z5, z6⟩, y0, y1, y2, y3, y4, y5, y6⟩ := ls.cells7
            have lfs := lf.far7 hRG hFG (.int .i64 r0) (.int .i64 r1) (.int .i64 r2) (.int .i64 r3) (.int .i64 r4) (.int .i64 r5) (.int .i64 r6)
            have lrs := lr.far7 hRG (Ne.symm hGR) (.int .i64 r0) (.int .i64 r1) (.int .i64 r2) (.int .i64 r3) (.int .i64 r4) (.int .i64 r5) (.int .i64 r6)
            have hcs := hc.far7 hBG (.int .i64 r0) (.int .i64 r1) (.int .i64 r2) (.int .i64 r3) (.int .i64 r4) (.int .i64 r5) (.int .i64 r6)
            have lss := ls.store7 (.int .i64 r0) (.int .i64 r1) (.int .i64 r2) (.int .i64 r3) (.int .i64 r4) (.int .i64 r5) (.int .i64 r6)
            go_simp
            refine hK.out _ _ (lfs.cells6) (fun hHeld2 => ?_)
            clear hK K
            (try simp only [Act.put, List.setIfInBounds_toArray, List.set_cons_zero, List.set_cons_succ])
            refine wpAnyH_take (i := 12) (oi := ⟨some 5, _, _, _, _, _⟩) (v := ?_) rfl (by kernel_rfl) (by kernel_rfl) (by kernel_rfl) (fun _ _ _ h => h) (Or.inl ⟨by rfl, ?_⟩) (by assumption) ?_
            rotate_left
            · intro w hSw; (try dsimp only at hSw); go_simp <;> (with_reducible rfl)
            (try simp only [Act.put, List.setIfInBounds_toArray, List.set_cons_zero, List.set_cons_succ])
            refine wpAnyH_done (by kernel_rfl) ?_ _
            go_wp2
            go_meet
            exact ⟨_, r0, r1, r2, r3, r4, r5, r6, rfl, hw, lss, lrs, hcs, hGR⟩
          · skip
            go_simp
            generalize hV' : World.alloc _ _ = V
            have ls := Loc.newV lf.only hc.lt hV'
            have hGR := Nat.ne_of_gt lr.lt
            have hFG := Nat.ne_of_lt lf.lt
            have hBG := hc.lt
            have hRG := Nat.le_of_lt lr.lt
            first |have h3 := h3.allocV hV' hz3 |skip
            first |have hz3 := Nat.le_trans hz3 (Nat.le_of_lt (size_allocV hV')) |skip
            have lf := lf.allocV hV'
            have lr := lr.allocV hV'
            have hc := hc.allocV hV'
            refine hK.out _ _ (lf.cells6) (fun hHeld2 => ?_)
            clear hK K
            (try simp only [Act.put, List.setIfInBounds_toArray, List.set_cons_zero, List.set_cons_succ])
            refine wpAnyH_ready (rs := [6]) (by kernel_rfl) (by simp) ?_
            refine AllReadyH.cons (o := ⟨some 15, _, _, _, _, _⟩) rfl (fun K hK => ?_) AllReadyH.nil
            go_simp
            (with_reducible refine (spec_stateFact _ u2.heap.size n A i2 s2 k s v i t u' ks (h3.kinds j _ _ hkv hx).read hz3 (wf_i64 (by omega) (by omega)) (hfi i2 (wf_i64 (by omega) (by omega)))).mono ?_)
            rintro e4 u4 ⟨he4, b4⟩
            first |have ls := ls.call (Below.only (B := B) b4) |skip
            have lf := lf.call (Below.only (B := B) b4)
            have lr := lr.call (Below.only (B := B) b4)
            have hc := hc.only b4
            obtain ⟨r0, r1, r2, r3, r4, r5, r6, o, hV, hw⟩ := stateV_wf i2 s2 ks k s v i t u' (wf_i64 (by omega) (by omega)) hfw
            rw [hV] at he4
            subst he4
            refine hK.out _ _ (lf.cells6) (fun hHeld2 => ?_)
            clear hK K
            (try simp only [Act.put, List.setIfInBounds_toArray, List.set_cons_zero, List.set_cons_succ])
            refine wpAnyH_take (i := 7) (oi := ⟨some 8, _, _, _, _, _⟩) (v := ?_) rfl (by kernel_rfl) (by kernel_rfl) (by kernel_rfl) (fun _ _ _ h => h) (Or.inl ⟨by rfl, ?_⟩) (by assumption) ?_
            rotate_left
            · intro w hSw; (try dsimp only at hSw); go_simp <;> (with_reducible rfl)
            (try simp only [Act.put, List.setIfInBounds_toArray, List.set_cons_zero, List.set_cons_succ])
            refine wpAnyH_take (i := 8) (oi := ⟨some 16, _, _, _, _, _⟩) (v := ?_) rfl (by kernel_rfl) (by kernel_rfl) (by kernel_rfl) (fun _ _ _ h => h) (Or.inl ⟨by rfl, ?_⟩) (by assumption) ?_
            rotate_left
            · intro w hSw; (try dsimp only at hSw); go_simp <;> (with_reducible rfl)
            (try simp only [Act.put, List.setIfInBounds_toArray, List.set_cons_zero, List.set_cons_succ])
            refine wpAnyH_take (i := 9) (oi := ⟨some 17, _, _, _, _, _⟩) (v := ?_) rfl (by kernel_rfl) (by kernel_rfl) (by kernel_rfl) (fun _ _ _ h => h) (Or.inl ⟨by rfl, ?_⟩) (by assumption) ?_
            rotate_left
            · intro w hSw; (try dsimp only at hSw); go_simp <;> (with_reducible rfl)
            (try simp only [Act.put, List.setIfInBounds_toArray, List.set_cons_zero, List.set_cons_succ])
            refine wpAnyH_ready (rs := [11]) (by kernel_rfl) (by simp) ?_
            refine AllReadyH.cons (o := ⟨none, _, _, _, _, _⟩) rfl (fun K hK => ?_) AllReadyH.nil
            obtain ⟨⟨z0, z1, z2, z3, z4, z5, z6⟩, y0, y1, y2, y3, y4, y5, y6⟩ := ls.cells7
            have lfs := lf.far7 hRG hFG (.int .i64 r0) (.int .i64 r1) (.int .i64 r2) (.int .i64 r3) (.int .i64 r4) (.int .i64 r5) (.int .i64 r6)
            have lrs := lr.far7 hRG (Ne.symm hGR) (.int .i64 r0) (.int .i64 r1) (.int .i64 r2) (.int .i64 r3) (.int .i64 r4) (.int .i64 r5) (.int .i64 r6)
            have hcs := hc.far7 hBG (.int .i64 r0) (.int .i64 r1) (.int .i64 r2) (.int .i64 r3) (.int .i64 r4) (.int .i64 r5) (.int .i64 r6)
            have lss := ls.store7 (.int .i64 r0) (.int .i64 r1) (.int .i64 r2) (.int .i64 r3) (.int .i64 r4) (.int .i64 r5) (.int .i64 r6)
            go_simp
            refine hK.out _ _ (lfs.cells6) (fun hHeld2 => ?_)
            clear hK K
            (try simp only [Act.put, List.setIfInBounds_toArray, List.set_cons_zero, List.set_cons_succ])
            refine wpAnyH_take (i := 12) (oi := ⟨some 5, _, _, _, _, _⟩) (v := ?_) rfl (by kernel_rfl) (by kernel_rfl) (by kernel_rfl) (fun _ _ _ h => h) (Or.inl ⟨by rfl, ?_⟩) (by assumption) ?_
            rotate_left
            · intro w hSw; (try dsimp only at hSw); go_simp <;> (with_reducible rfl)
            (try simp only [Act.put, List.setIfInBounds_toArray, List.set_cons_zero, List.set_cons_succ])
            refine wpAnyH_done (by kernel_rfl) ?_ _
            go_wp2
            go_meet
            exact ⟨_, r0, r1, r2, r3, r4, r5, r6, rfl, hw, lss, lrs, hcs, hGR⟩
        · skip
          go_simp
          generalize hV' : World.alloc _ _ = V
          have ls := Loc.newV lf.only hc.lt hV'
          have hGR := Nat.ne_of_gt lr.lt
          have hFG := Nat.ne_of_lt lf.lt
          have hBG := hc.lt
          have hRG := Nat.le_of_lt lr.lt
          first |have h3 := h3.allocV hV' hz3 |skip
          first |have hz3 := Nat.le_trans hz3 (Nat.le_of_lt (size_allocV hV')) |skip
          have lf := lf.allocV hV'
          have lr := lr.allocV hV'
          have hc := hc.allocV hV'
          refine hK.out _ _ (lf.cells6) (fun hHeld2 => ?_)
          clear hK K
          (try simp only [Act.put, List.setIfInBounds_toArray, List.set_cons_zero, List.set_cons_succ])
          refine wpAnyH_ready (rs := [4]) (by kernel_rfl) (by simp) ?_
          refine AllReadyH.cons (o := ⟨some 13, _, _, _, _, _⟩) rfl (fun K hK => ?_) AllReadyH.nil
          obtain ⟨c0, c1, c2⟩ := h3.cells hx hkv
          go_simp
          refine hK.out _ _ (lf.cells6) (fun hHeld2 => ?_)
          clear hK K
          (try simp only [Act.put, List.setIfInBounds_toArray, List.set_cons_zero, List.set_cons_succ])
          refine wpAnyH_ready (rs := [6]) (by kernel_rfl) (by simp) ?_
          refine AllReadyH.cons (o := ⟨some 15, _, _, _, _, _⟩) rfl (fun K hK => ?_) AllReadyH.nil
          go_simp
          (with_reducible refine (spec_stateFact _ u2.heap.size n A i2 s2 k s v i t u' ks (h3.kinds j _ _ hkv hx).read hz3 (wf_i64 (by omega) (by omega)) (hfi i2 (wf_i64 (by omega) (by omega)))).mono ?_)
          rintro e4 u4 ⟨he4, b4⟩
          first |have ls := ls.call (Below.only (B := B) b4) |skip
          have lf := lf.call (Below.only (B := B) b4)
          have lr := lr.call (Below.only (B := B) b4)
          have hc := hc.only b4
          obtain ⟨r0, r1, r2, r3, r4, r5, r6, o, hV, hw⟩ := stateV_wf i2 s2 ks k s v i t u' (wf_i64 (by omega) (by omega)) hfw
          rw [hV] at he4
          subst he4
          refine hK.out _ _ (lf.cells6) (fun hHeld2 => ?_)
          clear hK K
          (try simp only [Act.put, List.setIfInBounds_toArray, List.set_cons_zero, List.set_cons_succ])
          refine wpAnyH_take (i := 7) (oi := ⟨some 8, _, _, _, _, _⟩) (v := ?_) rfl (by kernel_rfl) (by kernel_rfl) (by kernel_rfl) (fun _ _ _ h => h) (Or.inl ⟨by rfl, ?_⟩) (by assumption) ?_
          rotate_left
          · intro w hSw; (try dsimp only at hSw); go_simp <;> (with_reducible rfl)
          (try simp only [Act.put, List.setIfInBounds_toArray, List.set_cons_zero, List.set_cons_succ])
          refine wpAnyH_take (i := 8) (oi := ⟨some 16, _, _, _, _, _⟩) (v := ?_) rfl (by kernel_rfl) (by kernel_rfl) (by kernel_rfl) (fun _ _ _ h => h) (Or.inl ⟨by rfl, ?_⟩) (by assumption) ?_
          rotate_left
          · intro w hSw; (try dsimp only at hSw); go_simp <;> (with_reducible rfl)
          (try simp only [Act.put, List.setIfInBounds_toArray, List.set_cons_zero, List.set_cons_succ])
          refine wpAnyH_take (i := 9) (oi := ⟨some 17, _, _, _, _, _⟩) (v := ?_) rfl (by kernel_rfl) (by kernel_rfl) (by kernel_rfl) (fun _ _ _ h => h) (Or.inl ⟨by rfl, ?_⟩) (by assumption) ?_
          rotate_left
          · intro w hSw; (try dsimp only at hSw); go_simp <;> (with_reducible rfl)
          (try simp only [Act.put, List.setIfInBounds_toArray, List.set_cons_zero, List.set_cons_succ])
          refine wpAnyH_ready (rs := [11]) (by kernel_rfl) (by simp) ?_
          refine AllReadyH.cons (o := ⟨none, _, _, _, _, _⟩) rfl (fun K hK => ?_) AllReadyH.nil
          obtain ⟨⟨z0, z1, z2, z3, z4, z5, z6⟩, y0, y1, y2, y3, y4, y5, y6⟩ := ls.cells7
          have lfs := lf.far7 hRG hFG (.int .i64 r0) (.int .i64 r1) (.int .i64 r2) (.int .i64 r3) (.int .i64 r4) (.int .i64 r5) (.int .i64 r6)
          have lrs := lr.far7 hRG (Ne.symm hGR) (.int .i64 r0) (.int .i64 r1) (.int .i64 r2) (.int .i64 r3) (.int .i64 r4) (.int .i64 r5) (.int .i64 r6)
          have hcs := hc.far7 hBG (.int .i64 r0) (.int .i64 r1) (.int .i64 r2) (.int .i64 r3) (.int .i64 r4) (.int .i64 r5) (.int .i64 r6)
          have lss := ls.store7 (.int .i64 r0) (.int .i64 r1) (.int .i64 r2) (.int .i64 r3) (.int .i64 r4) (.int .i64 r5) (.int .i64 r6)
          go_simp
          refine hK.out _ _ (lfs.cells6) (fun hHeld2 => ?_)
          clear hK K
          (try simp only [Act.put, List.setIfInBounds_toArray, List.set_cons_zero, List.set_cons_succ])
          refine wpAnyH_take (i := 12) (oi := ⟨some 5, _, _, _, _, _⟩) (v := ?_) rfl (by kernel_rfl) (by kernel_rfl) (by kernel_rfl) (fun _ _ _ h => h) (Or.inl ⟨by rfl, ?_⟩) (by assumption) ?_
          rotate_left
          · intro w hSw; (try dsimp only at hSw); go_simp <;> (with_reducible rfl)
          (try simp only [Act.put, List.setIfInBounds_toArray, List.set_cons_zero, List.set_cons_succ])
          refine wpAnyH_done (by kernel_rfl) ?_ _
          go_wp2
          go_meet
          exact ⟨_, r0, r1, r2, r3, r4, r5, r6, rfl, hw, lss, lrs, hcs, hGR⟩
      · skip
        go_simp
        generalize hV' : World.alloc _ _ = V
        have ls := Loc.newV lf.only hc.lt hV'
        have hGR := Nat.ne_of_gt lr.lt
        have hFG := Nat.ne_of_lt lf.lt
        have hBG := hc.lt
        have hRG := Nat.le_of_lt lr.lt
        first |have h3 := h3.allocV hV' hz3 |skip
        first |have hz3 := Nat.le_trans hz3 (Nat.le_of_lt (size_allocV hV')) |skip
        have lf := lf.allocV hV'
        have lr := lr.allocV hV'
        have hc := hc.allocV hV'
        refine hK.out _ _ (lf.cells6) (fun hHeld2 => ?_)
        clear hK K
        (try simp only [Act.put, List.setIfInBounds_toArray, List.set_cons_zero, List.set_cons_succ])
        refine wpAnyH_ready (rs := [2]) (by kernel_rfl) (by simp) ?_
        refine AllReadyH.cons (o := ⟨some 11, _, _, _, _, _⟩) rfl (fun K hK => ?_) AllReadyH.nil
        go_simp
        (with_reducible refine (below_any _ B a len cap z 3 (by decide) (by decide) hc).mono ?_)
        rintro e3 u3 ⟨j, hj, rfl, ho3, hc3⟩
        first |have ls := ls.call ho3 |skip
        have lf := lf.call ho3
        have lr := lr.call ho3
        have h3 := h3.only ho3 hBlo
        have hc := hc3
        have hz3 := Nat.le_trans hz3 ho3.size
        have hj0 : (0 : Int) ≤ (j : Int) := by omega
        obtain ⟨i2, s2, ks, A, n, hx, hkv, ib0, ib1, sb0, sb1⟩ := h3.pick (j := j) (by omega)
        refine hK.out _ _ (lf.cells6) (fun hHeld2 => ?_)
        clear hK K
        (try simp only [Act.put, List.setIfInBounds_toArray, List.set_cons_zero, List.set_cons_succ])
        refine wpAnyH_take (i := 3) (oi := ⟨some 12, _, _, _, _, _⟩) (v := ?_) rfl (by kernel_rfl) (by kernel_rfl) (by kernel_rfl) (fun _ _ _ h => h) (Or.inl ⟨by rfl, ?_⟩) (by assumption) ?_
        rotate_left
        · intro w hSw; (try dsimp only at hSw); go_simp <;> (with_reducible rfl)
        (try simp only [Act.put, List.setIfInBounds_toArray, List.set_cons_zero, List.set_cons_succ])
        refine wpAnyH_ready (rs := [4]) (by kernel_rfl) (by simp) ?_
        refine AllReadyH.cons (o := ⟨some 13, _, _, _, _, _⟩) rfl (fun K hK => ?_) AllReadyH.nil
        obtain ⟨c0, c1, c2⟩ := h3.cells hx hkv
        go_simp
        refine hK.out _ _ (lf.cells6) (fun hHeld2 => ?_)
        clear hK K
        (try simp only [Act.put, List.setIfInBounds_toArray, List.set_cons_zero, List.set_cons_succ])
        refine wpAnyH_ready (rs := [6]) (by kernel_rfl) (by simp) ?_
        refine AllReadyH.cons (o := ⟨some 15, _, _, _, _, _⟩) rfl (fun K hK => ?_) AllReadyH.nil
        go_simp
        (with_reducible refine (spec_stateFact _ u2.heap.size n A i2 s2 k s v i t u' ks (h3.kinds j _ _ hkv hx).read hz3 (wf_i64 (by omega) (by omega)) (hfi i2 (wf_i64 (by omega) (by omega)))).mono ?_)
        rintro e4 u4 ⟨he4, b4⟩
        first |have ls := ls.call (Below.only (B := B) b4) |skip
        have lf := lf.call (Below.only (B := B) b4)
        have lr := lr.call (Below.only (B := B) b4)
        have hc := hc.only b4
        obtain ⟨r0, r1, r2, r3, r4, r5, r6, o, hV, hw⟩ := stateV_wf i2 s2 ks k s v i t u' (wf_i64 (by omega) (by omega)) hfw
        rw [hV] at he4
        subst he4
        refine hK.out _ _ (lf.cells6) (fun hHeld2 => ?_)
        clear hK K
        (try simp only [Act.put, List.setIfInBounds_toArray, List.set_cons_zero, List.set_cons_succ])
        refine wpAnyH_take (i := 7) (oi := ⟨some 8, _, _, _, _, _⟩) (v := ?_) rfl (by kernel_rfl) (by kernel_rfl) (by kernel_rfl) (fun _ _ _ h => h) (Or.inl ⟨by rfl, ?_⟩) (by assumption) ?_
        rotate_left
        · intro w hSw; (try dsimp only at hSw); go_simp <;> (with_reducible rfl)
        (try simp only [Act.put, List.setIfInBounds_toArray, List.set_cons_zero, List.set_cons_succ])
        refine wpAnyH_take (i := 8) (oi := ⟨some 16, _, _, _, _, _⟩) (v := ?_) rfl (by kernel_rfl) (by kernel_rfl) (by kernel_rfl) (fun _ _ _ h => h) (Or.inl ⟨by rfl, ?_⟩) (by assumption) ?_
        rotate_left
        · intro w hSw; (try dsimp only at hSw); go_simp <;> (with_reducible rfl)
        (try simp only [Act.put, List.setIfInBounds_toArray, List.set_cons_zero, List.set_cons_succ])
        refine wpAnyH_take (i := 9) (oi := ⟨some 17, _, _, _, _, _⟩) (v := ?_) rfl (by kernel_rfl) (by kernel_rfl) (by kernel_rfl) (fun _ _ _ h => h) (Or.inl ⟨by rfl, ?_⟩) (by assumption) ?_
        rotate_left
        · intro w hSw; (try dsimp only at hSw); go_simp <;> (with_reducible rfl)
        (try simp only [Act.put, List.setIfInBounds_toArray, List.set_cons_zero, List.set_cons_succ])
        refine wpAnyH_ready (rs := [11]) (by kernel_rfl) (by simp) ?_
        refine AllReadyH.cons (o := ⟨none, _, _, _, _, _⟩) rfl (fun K hK => ?_) AllReadyH.nil
        obtain ⟨⟨z0, z1, z2, z3, z4, z5, z6⟩, y0, y1, y2, y3, y4, y5, y6⟩ := ls.cells7
        have lfs := lf.far7 hRG hFG (.int .i64 r0) (.int .i64 r1) (.int .i64 r2) (.int .i64 r3) (.int .i64 r4) (.int .i64 r5) (.int .i64 r6)
        have lrs := lr.far7 hRG (Ne.symm hGR) (.int .i64 r0) (.int .i64 r1) (.int .i64 r2) (.int .i64 r3) (.int .i64 r4) (.int .i64 r5) (.int .i64 r6)
        have hcs := hc.far7 hBG (.int .i64 r0) (.int .i64 r1) (.int .i64 r2) (.int .i64 r3) (.int .i64 r4) (.int .i64 r5) (.int .i64 r6)
        have lss := ls.store7 (.int .i64 r0) (.int .i64 r1) (.int .i64 r2) (.int .i64 r3) (.int .i64 r4) (.int .i64 r5) (.int .i64 r6)
        go_simp
        refine hK.out _ _ (lfs.cells6) (fun hHeld2 => ?_)
        clear hK K
        (try simp only [Act.put, List.setIfInBounds_toArray, List.set_cons_zero, List.set_cons_succ])
        refine wpAnyH_take (i := 12) (oi := ⟨some 5, _, _, _, _, _⟩) (v := ?_) rfl (by kernel_rfl) (by kernel_rfl) (by kernel_rfl) (fun _ _ _ h => h) (Or.inl ⟨by rfl, ?_⟩) (by assumption) ?_
        rotate_left
        · intro w hSw; (try dsimp only at hSw); go_simp <;> (with_reducible rfl)
        (try simp only [Act.put, List.setIfInBounds_toArray, List.set_cons_zero, List.set_cons_succ])
        refine wpAnyH_done (by kernel_rfl) ?_ _
        go_wp2
        go_meet
        exact ⟨_, r0, r1, r2, r3, r4, r5, r6, rfl, hw, lss, lrs, hcs, hGR⟩
    · skip
      go_simp
      generalize hV' : World.alloc _ _ = V
      have ls := Loc.newV lf.only hc.lt hV'
      have hGR := Nat.ne_of_gt lr.lt
      have hFG := Nat.ne_of_lt lf.lt
      have hBG := hc.lt
      have hRG := Nat.le_of_lt lr.lt
      first |have h3 := h3.allocV hV' hz3 |skip
      first |have hz3 := Nat.le_trans hz3 (Nat.le_of_lt (size_allocV hV')) |skip
      have lf := lf.allocV hV'
      have lr := lr.allocV hV'
      have hc := hc.allocV hV'
      refine hK.out _ _ (lf.cells6) (fun hHeld2 => ?_)
      clear hK K
      (try simp only [Act.put, List.setIfInBounds_toArray, List.set_cons_zero, List.set_cons_succ])
      refine wpAnyH_ready (rs := [0]) (by kernel_rfl) (by simp) ?_
      refine AllReadyH.cons (o := ⟨some 9, _, _, _, _, _⟩) rfl (fun K hK => ?_) AllReadyH.nil
      go_simp
      (with_reducible refine (issuers_any _).mono ?_)
      rintro e2 u2 ⟨g, kvs, rfl, h3, b2⟩
      have hBlo := hc.lt
      first |have ls := ls.call (Below.only (B := B) b2) |skip
      have lf := lf.call (Below.only (B := B) b2)
      have lr := lr.call (Below.only (B := B) b2)
      have hc := hc.only b2
      have hz3 : u2.heap.size ≤ u2.heap.size := Nat.le_refl _
      refine hK.out _ _ (lf.cells6) (fun hHeld2 => ?_)
      clear hK K
      (try simp only [Act.put, List.setIfInBounds_toArray, List.set_cons_zero, List.set_cons_succ])
      refine wpAnyH_ready (rs := [2]) (by kernel_rfl) (by simp) ?_
      refine AllReadyH.cons (o := ⟨some 11, _, _, _, _, _⟩) rfl (fun K hK => ?_) AllReadyH.nil
      go_simp
      (with_reducible refine (below_any _ B a len cap z 3 (by decide) (by decide) hc).mono ?_)
      rintro e3 u3 ⟨j, hj, rfl, ho3, hc3⟩
      first |have ls := ls.call ho3 |skip
      have lf := lf.call ho3
      have lr := lr.call ho3
      have h3 := h3.only ho3 hBlo
      have hc := hc3
      have hz3 := Nat.le_trans hz3 ho3.size
      have hj0 : (0 : Int) ≤ (j : Int) := by omega
      obtain ⟨i2, s2, ks, A, n, hx, hkv, ib0, ib1, sb0, sb1⟩ := h3.pick (j := j) (by omega)
      refine hK.out _ _ (lf.cells6) (fun hHeld2 => ?_)
      clear hK K
      (try simp only [Act.put, List.setIfInBounds_toArray, List.set_cons_zero, List.set_cons_succ])
      refine wpAnyH_take (i := 3) (oi := ⟨some 12, _, _, _, _, _⟩) (v := ?_) rfl (by kernel_rfl) (by kernel_rfl) (by kernel_rfl) (fun _ _ _ h => h) (Or.inl ⟨by rfl, ?_⟩) (by assumption) ?_
      rotate_left
      · intro w hSw; (try dsimp only at hSw); go_simp <;> (with_reducible rfl)
      (try simp only [Act.put, List.setIfInBounds_toArray, List.set_cons_zero, List.set_cons_succ])
      refine wpAnyH_ready (rs := [4]) (by kernel_rfl) (by simp) ?_
      refine AllReadyH.cons (o := ⟨some 13, _, _, _, _, _⟩) rfl (fun K hK => ?_) AllReadyH.nil
      obtain ⟨c0, c1, c2⟩ := h3.cells hx hkv
      go_simp
      refine hK.out _ _ (lf.cells6) (fun hHeld2 => ?_)
      clear hK K
      (try simp only [Act.put, List.setIfInBounds_toArray, List.set_cons_zero, List.set_cons_succ])
      refine wpAnyH_ready (rs := [6]) (by kernel_rfl) (by simp) ?_
      refine AllReadyH.cons (o := ⟨some 15, _, _, _, _, _⟩) rfl (fun K hK => ?_) AllReadyH.nil
      go_simp
      (with_reducible refine (spec_stateFact _ u2.heap.size n A i2 s2 k s v i t u' ks (h3.kinds j _ _ hkv hx).read hz3 (wf_i64 (by omega) (by omega)) (hfi i2 (wf_i64 (by omega) (by omega)))).mono ?_)
      rintro e4 u4 ⟨he4, b4⟩
      first |have ls := ls.call (Below.only (B := B) b4) |skip
      have lf := lf.call (Below.only (B := B) b4)
      have lr := lr.call (Below.only (B := B) b4)
      have hc := hc.only b4
      obtain ⟨r0, r1, r2, r3, r4, r5, r6, o, hV, hw⟩ := stateV_wf i2 s2 ks k s v i t u' (wf_i64 (by omega) (by omega)) hfw
      rw [hV] at he4
      subst he4
      refine hK.out _ _ (lf.cells6) (fun hHeld2 => ?_)
      clear hK K
      (try simp only [Act.put, List.setIfInBounds_toArray, List.set_cons_zero, List.set_cons_succ])
      refine wpAnyH_take (i := 7) (oi := ⟨some 8, _, _, _, _, _⟩) (v := ?_) rfl (by kernel_rfl) (by kernel_rfl) (by kernel_rfl) (fun _ _ _ h => h) (Or.inl ⟨by rfl, ?_⟩) (by assumption) ?_
      rotate_left
      · intro w hSw; (try dsimp only at hSw); go_simp <;> (with_reducible rfl)
      (try simp only [Act.put, List.setIfInBounds_toArray, List.set_cons_zero, List.set_cons_succ])
      refine wpAnyH_take (i := 8) (oi := ⟨some 16, _, _, _, _, _⟩) (v := ?_) rfl (by kernel_rfl) (by kernel_rfl) (by kernel_rfl) (fun _ _ _ h => h) (Or.inl ⟨by rfl, ?_⟩) (by assumption) ?_
      rotate_left
      · intro w hSw; (try dsimp only at hSw); go_simp <;> (with_reducible rfl)
      (try simp only [Act.put, List.setIfInBounds_toArray, List.set_cons_zero, List.set_cons_succ])
      refine wpAnyH_take (i := 9) (oi := ⟨some 17, _, _, _, _, _⟩) (v := ?_) rfl (by kernel_rfl) (by kernel_rfl) (by kernel_rfl) (fun _ _ _ h => h) (Or.inl ⟨by rfl, ?_⟩) (by assumption) ?_
      rotate_left
      · intro w hSw; (try dsimp only at hSw); go_simp <;> (with_reducible rfl)
      (try simp only [Act.put, List.setIfInBounds_toArray, List.set_cons_zero, List.set_cons_succ])
      refine wpAnyH_ready (rs := [11]) (by kernel_rfl) (by simp) ?_
      refine AllReadyH.cons (o := ⟨none, _, _, _, _, _⟩) rfl (fun K hK => ?_) AllReadyH.nil
      obtain ⟨⟨z0, z1, z2, z3, z4, z5, z6⟩, y0, y1, y2, y3, y4, y5, y6⟩ := ls.cells7
      have lfs := lf.far7 hRG hFG (.int .i64 r0) (.int .i64 r1) (.int .i64 r2) (.int .i64 r3) (.int .i64 r4) (.int .i64 r5) (.int .i64 r6)
      have lrs := lr.far7 hRG (Ne.symm hGR) (.int .i64 r0) (.int .i64 r1) (.int .i64 r2) (.int .i64 r3) (.int .i64 r4) (.int .i64 r5) (.int .i64 r6)
      have hcs := hc.far7 hBG (.int .i64 r0) (.int .i64 r1) (.int .i64 r2) (.int .i64 r3) (.int .i64 r4) (.int .i64 r5) (.int .i64 r6)
      have lss := ls.store7 (.int .i64 r0) (.int .i64 r1) (.int .i64 r2) (.int .i64 r3) (.int .i64 r4) (.int .i64 r5) (.int .i64 r6)
      go_simp
      refine hK.out _ _ (lfs.cells6) (fun hHeld2 => ?_)
      clear hK K
      (try simp only [Act.put, List.setIfInBounds_toArray, List.set_cons_zero, List.set_cons_succ])
      refine wpAnyH_take (i := 12) (oi := ⟨some 5, _, _, _, _, _⟩) (v := ?_) rfl (by kernel_rfl) (by kernel_rfl) (by kernel_rfl) (fun _ _ _ h => h) (Or.inl ⟨by rfl, ?_⟩) (by assumption) ?_
      rotate_left
      · intro w hSw; (try dsimp only at hSw); go_simp <;> (with_reducible rfl)
      (try simp only [Act.put, List.setIfInBounds_toArray, List.set_cons_zero, List.set_cons_succ])
      refine wpAnyH_done (by kernel_rfl) ?_ _
      go_wp2
      go_meet
      exact ⟨_, r0, r1, r2, r3, r4, r5, r6, rfl, hw, lss, lrs, hcs, hGR⟩
  case rest =>
  clear lf lr hc lf4 lr4 hc4 hfi hfw
  obtain ⟨G, r0, r1, r2, r3, r4, r5, r6, rfl, hw, lg, lr, hc, hGR⟩ := hcut
  have hBG : B < G := Nat.lt_of_lt_of_le hBR lg.new
  go_wp2_with fail
  refine (below_any wc B a len cap z 8 (by decide) (by decide) hc).mono ?_
  rintro e U ⟨q, hq, rfl, ho5, hcU⟩
  have lgU := lg.call ho5
  have lrU := lr.call ho5
  clear lg lr hc ho5
  have hq4 : q = 0 ∨ q = 1 ∨ q = 2 ∨ 3 ≤ q := by omega
  rcases hq4 with rfl | rfl | rfl | hq3
  · obtain ⟨x, hx⟩ : ∃ x, IntKind.i64.wrap (r6 + 1) = x := ⟨_, rfl⟩
    have hxw : (Lit.int .i64 x).wf = true := hx ▸ wf_wrap _
    have lg6 : Loc w B G 32 #[.int .i64 r0, .int .i64 r1, .int .i64 r2, .int .i64 r3, .int .i64 r4, .int .i64 r5, .int .i64 x] (U.setCell ⟨G, 6, none⟩ (.int .i64 x)) := lgU.set 6 (.int .i64 x)
    have lr6 := lrU.setFar lgU.new (Ne.symm hGR) 6 (.int .i64 x)
    have hc6 := hcU.setFar hBG 6 (.int .i64 x)
    obtain ⟨W6, hW6⟩ : ∃ W6, W6 = U.setCell ⟨G, 6, none⟩ (.int .i64 x) := ⟨_, rfl⟩
    rw [← hW6] at lg6 lr6 hc6
    obtain ⟨⟨x0, x1, x2, x3, x4, x5, x6⟩, f0, f1, f2, f3, f4, f5, f6⟩ := lgU.cells7
    clear lrU hcU
    go_upto_region 10 with fail
    rw [← hW6]
    clear hW6 x0 x1 x2 x3 x4 x5 x6 f0 f1 f2 f3 f4 f5 f6 lgU
    obtain ⟨⟨x0, x1, x2, x3, x4, x5, x6⟩, -⟩ := lg6.cells7
    obtain ⟨⟨z0, z1, z2, z3, z4, z5, z6⟩, y0, y1, y2, y3, y4, y5, y6⟩ := lr6.cells7
    go_wp2
    refine bodyPost_ret (v := .agg #[.int .i64 r0, .int .i64 r1, .int .i64 r2, .int .i64 r3, .int .i64 r4, .int .i64 r5, .int .i64 x]) (by simp [results, Tryz.results39, go_sem, z0, z1, z2, z3, z4, z5, z6]) rfl ?_
    exact ⟨⟨⟨r0, r1, r2, r3, r4, r5⟩, x⟩, ⟨hw.1, hw.2.1, hw.2.2.1, hw.2.2.2.1, hw.2.2.2.2.1, hw.2.2.2.2.2.1, hxw⟩, rfl, (lr6.store7 (.int .i64 r0) (.int .i64 r1) (.int .i64 r2) (.int .i64 r3) (.int .i64 r4) (.int .i64 r5) (.int .i64 x)).only, hc6.far7 hBR (.int .i64 r0) (.int .i64 r1) (.int .i64 r2) (.int .i64 r3) (.int .i64 r4) (.int .i64 r5) (.int .i64 x)⟩
  · obtain ⟨x, hx⟩ : ∃ x, IntKind.i64.wrap (r5 + 1) = x := ⟨_, rfl⟩
    have hxw : (Lit.int .i64 x).wf = true := hx ▸ wf_wrap _
    have lg6 : Loc w B G 32 #[.int .i64 r0, .int .i64 r1, .int .i64 r2, .int .i64 r3, .int .i64 r4, .int .i64 x, .int .i64 r6] (U.setCell ⟨G, 5, none⟩ (.int .i64 x)) := lgU.set 5 (.int .i64 x)
    have lr6 := lrU.setFar lgU.new (Ne.symm hGR) 5 (.int .i64 x)
    have hc6 := hcU.setFar hBG 5 (.int .i64 x)
    obtain ⟨W6, hW6⟩ : ∃ W6, W6 = U.setCell ⟨G, 5, none⟩ (.int .i64 x) := ⟨_, rfl⟩
    rw [← hW6] at lg6 lr6 hc6
    obtain ⟨⟨x0, x1, x2, x3, x4, x5, x6⟩, f0, f1, f2, f3, f4, f5, f6⟩ := lgU.cells7
    clear lrU hcU
    go_upto_region 10 with fail
    rw [← hW6]
    clear hW6 x0 x1 x2 x3 x4 x5 x6 f0 f1 f2 f3 f4 f5 f6 lgU
    obtain ⟨⟨x0, x1, x2, x3, x4, x5, x6⟩, -⟩ := lg6.cells7
    obtain ⟨⟨z0, z1, z2, z3, z4, z5, z6⟩, y0, y1, y2, y3, y4, y5, y6⟩ := lr6.cells7
    go_wp2
    refine bodyPost_ret (v := .agg #[.int .i64 r0, .int .i64 r1, .int .i64 r2, .int .i64 r3, .int .i64 r4, .int .i64 x, .int .i64 r6]) (by simp [results, Tryz.results39, go_sem, z0, z1, z2, z3, z4, z5, z6]) rfl ?_
    exact ⟨⟨⟨r0, r1, r2, r3, r4, x⟩, r6⟩, ⟨hw.1, hw.2.1, hw.2.2.1, hw.2.2.2.1, hw.2.2.2.2.1, hxw, hw.2.2.2.2.2.2⟩, rfl, (lr6.store7 (.int .i64 r0) (.int .i64 r1) (.int .i64 r2) (.int .i64 r3) (.int .i64 r4) (.int .i64 x) (.int .i64 r6)).only, hc6.far7 hBR (.int .i64 r0) (.int .i64 r1) (.int .i64 r2) (.int .i64 r3) (.int .i64 r4) (.int .i64 x) (.int .i64 r6)⟩
  · go_wp2_with fail
    refine (below_any U B a len cap z 4 (by decide) (by decide) hcU).mono ?_
    rintro e U2 ⟨q2, hq2, rfl, ho6, hcU2⟩
    have lgU2 := lgU.call ho6
    have lrU2 := lrU.call ho6
    clear lgU lrU hcU ho6
    obtain ⟨x, hx⟩ : ∃ x : Int, (q2 : Int) = x := ⟨_, rfl⟩
    have hxw : (Lit.int .i64 x).wf = true := hx ▸ wf_i64 (by omega) (by omega)
    rw [hx]
    clear hx
    have lg6 : Loc w B G 32 #[.int .i64 r0, .int .i64 r1, .int .i64 r2, .int .i64 x, .int .i64 r4, .int .i64 r5, .int .i64 r6] (U2.setCell ⟨G, 3, none⟩ (.int .i64 x)) := lgU2.set 3 (.int .i64 x)
    have lr6 := lrU2.setFar lgU2.new (Ne.symm hGR) 3 (.int .i64 x)
    have hc6 := hcU2.setFar hBG 3 (.int .i64 x)
    obtain ⟨W6, hW6⟩ : ∃ W6, W6 = U2.setCell ⟨G, 3, none⟩ (.int .i64 x) := ⟨_, rfl⟩
    rw [← hW6] at lg6 lr6 hc6
    obtain ⟨⟨x0, x1, x2, x3, x4, x5, x6⟩, f0, f1, f2, f3, f4, f5, f6⟩ := lgU2.cells7
    clear lrU2 hcU2
    go_upto_region 10 with fail
    rw [← hW6]
    clear hW6 x0 x1 x2 x3 x4 x5 x6 f0 f1 f2 f3 f4 f5 f6 lgU2
    obtain ⟨⟨x0, x1, x2, x3, x4, x5, x6⟩, -⟩ := lg6.cells7
    obtain ⟨⟨z0, z1, z2, z3, z4, z5, z6⟩, y0, y1, y2, y3, y4, y5, y6⟩ := lr6.cells7
    go_wp2
    refine bodyPost_ret (v := .agg #[.int .i64 r0, .int .i64 r1, .int .i64 r2, .int .i64 x, .int .i64 r4, .int .i64 r5, .int .i64 r6]) (by simp [results, Tryz.results39, go_sem, z0, z1, z2, z3, z4, z5, z6]) rfl ?_
    exact ⟨⟨⟨r0, r1, r2, x, r4, r5⟩, r6⟩, ⟨hw.1, hw.2.1, hw.2.2.1, hxw, hw.2.2.2.2.1, hw.2.2.2.2.2.1, hw.2.2.2.2.2.2⟩, rfl, (lr6.store7 (.int .i64 r0) (.int .i64 r1) (.int .i64 r2) (.int .i64 x) (.int .i64 r4) (.int .i64 r5) (.int .i64 r6)).only, hc6.far7 hBR (.int .i64 r0) (.int .i64 r1) (.int .i64 r2) (.int .i64 x) (.int .i64 r4) (.int .i64 r5) (.int .i64 r6)⟩
  · have e0 : ((q : Int) == 0) = false := by rw [beq_eq_false_iff_ne]; omega
    have e1 : ((q : Int) == 1) = false := by rw [beq_eq_false_iff_ne]; omega
    have e2 : ((q : Int) == 2) = false := by rw [beq_eq_false_iff_ne]; omega
    have hq0 : ¬ ((q : Int) = 0) := by omega
    have hq1 : ¬ ((q : Int) = 1) := by omega
    have hq2 : ¬ ((q : Int) = 2) := by omega
    obtain ⟨⟨x0, x1, x2, x3, x4, x5, x6⟩, -⟩ := lgU.cells7
    obtain ⟨⟨z0, z1, z2, z3, z4, z5, z6⟩, y0, y1, y2, y3, y4, y5, y6⟩ := lrU.cells7
    go_wp2
    refine bodyPost_ret (v := .agg #[.int .i64 r0, .int .i64 r1, .int .i64 r2, .int .i64 r3, .int .i64 r4, .int .i64 r5, .int .i64 r6]) (by simp [results, Tryz.results39, go_sem, z0, z1, z2, z3, z4, z5, z6]) rfl ?_
    exact ⟨⟨⟨r0, r1, r2, r3, r4, r5⟩, r6⟩, hw, rfl, (lrU.store7 (.int .i64 r0) (.int .i64 r1) (.int .i64 r2) (.int .i64 r3) (.int .i64 r4) (.int .i64 r5) (.int .i64 r6)).only, hcU.far7 hBR (.int .i64 r0) (.int .i64 r1) (.int .i64 r2) (.int .i64 r3) (.int .i64 r4) (.int .i64 r5) (.int .i64 r6)⟩
end Go.Proofs.YtjfmmingkciapaaGreatDoor
