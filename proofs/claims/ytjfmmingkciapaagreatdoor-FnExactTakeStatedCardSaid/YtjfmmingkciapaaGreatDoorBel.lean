/- Issuers (chapter 8): what is believed: contracts of the model and of the landed function. Condition of the landed one: the package variable errNoKey holds a pointer to an error (NoKey); else none but the bounds of what came in. -/
import Derived.Test.YtjfmmingkciapaaGreatDoorStF
import Derived.Test.YtjfmmingkciapaaGreatDoorStE
import Derived.Test.YtjfmmingkciapaaGreatDoorDirI
import Derived.Laws.StructEq
namespace Go.Proofs.YtjfmmingkciapaaGreatDoor
open Go.ChangeShapes Go.WideShapes Go.ChangeAt Go.RowKit
set_option linter.unusedVariables false

theorem findI_cases (xs : List IssuerD) (id : Int) : findI xs id = -1 ∨ ∃ (i : Nat) (x : IssuerD), xs[i]? = some x ∧ findI xs id = (i : Int) ∧ x.Id = id := by
  have h : ∀ (ys : List IssuerD) (n : Nat), firstI (fun x : IssuerD => decide (x.Id = id)) ys (n : Int) = -1 ∨ ∃ (i : Nat) (x : IssuerD), ys[i]? = some x ∧ firstI (fun x : IssuerD => decide (x.Id = id)) ys (n : Int) = ((n + i : Nat) : Int) ∧ x.Id = id := by
    intro ys
    induction ys with
    | nil => exact fun n => .inl rfl
    | cons y ys ih =>
      intro n
      unfold firstI
      by_cases hq : y.Id = id
      · right
        exact ⟨0, y, rfl, by simp [hq], hq⟩
      · rw [decide_eq_false hq]
        simp only [Bool.false_eq_true, if_false]
        rcases ih (n + 1) with h1 | ⟨i, x, h1, h2, h3⟩
        · left
          simpa using h1
        · right
          exact ⟨i + 1, x, h1, by rw [show ((n : Int) + 1) = ((n + 1 : Nat) : Int) by omega, h2]; congr 1; omega, h3⟩
  have := h xs 0
  simpa [findI] using this
/-- What is believed: there is an issuer by the fact's, and he would state the fact with this mark. -/
def believedB (xs : List IssuerD) (f : FactD) (m : Int) : Bool := match xs[(findI xs f.Issuer).toNat]? with
  | some x => decide (0 ≤ findI xs f.Issuer) && (okState x f && (keyed x.Secret [f.Kind, f.Subject, f.Value, f.Issuer, f.At, f.Until] == m))
  | none => false
theorem believed_no {xs : List IssuerD} {f : FactD} {m : Int} (h : findI xs f.Issuer = -1) : believedB xs f m = false := by
  unfold believedB
  rw [h]
  split <;> simp
theorem believed_at {xs : List IssuerD} {f : FactD} {m : Int} {i : Nat} {x : IssuerD} (hx : xs[i]? = some x) (h : findI xs f.Issuer = (i : Int)) : believedB xs f m = (okState x f && (keyed x.Secret [f.Kind, f.Subject, f.Value, f.Issuer, f.At, f.Until] == m)) := by
  unfold believedB
  rw [h, Int.toNat_natCast, hx]
  simp
/-- What StateFact hands back, written out. -/
theorem stateV_parts (q2 k1 k2 k3 k4 k5 k6 : Int) (ks : List Int) : ∃ (r0 r1 r2 r3 r4 r5 r6 : Int) (o : Bool), stateV ⟨k4, ks, q2⟩ ⟨k1, k2, k3, k4, k5, k6⟩ = .tuple #[.agg #[.int .i64 r0, .int .i64 r1, .int .i64 r2, .int .i64 r3, .int .i64 r4, .int .i64 r5, .int .i64 r6], .bool o] ∧ okState ⟨k4, ks, q2⟩ ⟨k1, k2, k3, k4, k5, k6⟩ = o ∧
    (o = true → r0 = k1 ∧ r1 = k2 ∧ r2 = k3 ∧ r3 = k4 ∧ r4 = k5 ∧ r5 = k6 ∧ r6 = keyed q2 [k1, k2, k3, k4, k5, k6]) := by
  unfold stateV
  cases ho : okState ⟨k4, ks, q2⟩ ⟨k1, k2, k3, k4, k5, k6⟩
  · exact ⟨_, _, _, _, _, _, _, _, rfl, rfl, fun h => by cases h⟩
  · exact ⟨_, _, _, _, _, _, _, _, rfl, rfl, fun _ => ⟨rfl, rfl, rfl, rfl, rfl, rfl, rfl⟩⟩
set_option maxHeartbeats 8000000 in
set_option maxRecDepth 100000 in
theorem spec_isBelieved (w : World) (hi c : Nat) (a : Option Addr) (xs : List IssuerD) (k1 k2 k3 k4 k5 k6 m : Int) (h : RowIssuer w hi (.slice a xs.length c) xs) (hh : hi ≤ w.heap.size) (hwf : ∀ x ∈ xs, (Lit.int .i64 x.Id).wf = true ∧ (Lit.int .i64 x.Secret).wf = true) (hf : FactD.wf ⟨k1, k2, k3, k4, k5, k6⟩) :
    Calls Tryz.prog 10 #[.slice a xs.length c, .agg #[.int .i64 k1, .int .i64 k2, .int .i64 k3, .int .i64 k4, .int .i64 k5, .int .i64 k6, .int .i64 m]] w fun e w' => e = .returned (.bool (believedB xs ⟨k1, k2, k3, k4, k5, k6⟩ m)) ∧ Below w.heap.size w w' := by
  obtain ⟨_, h1, h2⟩ := h.fits
  unfold maxLen at h2
  obtain ⟨W, hW⟩ : ∃ W, W = w.alloc (.cells #[.int .i64 k1, .int .i64 k2, .int .i64 k3, .int .i64 k4, .int .i64 k5, .int .i64 k6, .int .i64 m] 32) := ⟨_, rfl⟩
  have hB : Below w.heap.size w W := by rw [hW]; go_grown
  have hz : w.heap.size < W.heap.size := by rw [hW]; simp
  have HBK := Lib.hid (show W.heap[w.heap.size]? = some (.cells #[.int .i64 k1, .int .i64 k2, .int .i64 k3, .int .i64 k4, .int .i64 k5, .int .i64 k6, .int .i64 m] 32) by rw [hW]; exact blk_new _ _ _)
  have hWs := hB.size
  have H := Lib.hid (h.below IssuerR.fine hB hh)
  have HWF := Lib.hid hwf
  have HFW := Lib.hid hf
  have HFI := Lib.hid (spec_findIssuer W hi c a xs k4 (h.below IssuerR.fine hB hh))
  have HCS := Lib.hid (findI_cases xs k4)
  obtain ⟨⟨c0, c1, c2, c3, c4, c5, c6⟩, -⟩ := cells7 HBK.out
  clear h hwf hf
  go_enter Tryz.func10, Tryz.ntmps10
  go_upto_region 1 with fail
  rw [← hW]
  clear hW
  go_wp2_with fail
  refine HFI.out.mono ?_
  rintro e u1 ⟨rfl, rfl⟩
  have b1 : Below W.heap.size W W := Below.refl _ _
  clear c0 c1 c2 c3 c4 c5 c6
  rcases HCS.out with hno | ⟨i, x, hx, hyes, hid⟩
  · have HR := Lib.hid (believed_no (f := ⟨k1, k2, k3, k4, k5, k6⟩) (m := m) hno)
    rw [hno]
    clear hno
    go_wp2
    go_ret
    exact ⟨ret_b HR.out.symm, hB.trans (b1.mono hWs)⟩
  · have HR := Lib.hid (believed_at (f := ⟨k1, k2, k3, k4, k5, k6⟩) (m := m) hx hyes)
    have hxw := HWF.out x (List.mem_of_getElem? hx)
    have hil : (i : Int) < (xs.length : Int) := by have := (List.getElem?_eq_some_iff.1 hx).1; omega
    have hi0 : (0 : Int) ≤ (i : Int) := by omega
    have hi1 : ((i : Int) == (-1 : Int)) = false := by rw [beq_eq_false_iff_ne]; omega
    rw [hyes]
    clear hyes
    obtain ⟨q0, ks, q2⟩ := x
    obtain rfl : q0 = k4 := hid
    dsimp only at HR hxw
    obtain ⟨r0, r1, r2, r3, r4, r5, r6, o, hV, ho, hro⟩ := stateV_parts q2 k1 k2 k3 q0 k5 k6 ks
    rw [ho] at HR
    obtain ⟨kv, b, off, hkr, rfl, g1, g2, HCY⟩ := RowIssuer.at H.out hx
    obtain ⟨A2, n2, rfl, -⟩ := id hkr.form
    have HC := Lib.hid (fun (u : World) (hb : Below W.heap.size W u) => (⟨(cells7 (blk_keep HBK.out hb hz)).1, HCY _ _ g2 hb, hb⟩ :
      (u.cell? ⟨w.heap.size, 0, none⟩ = some (.int .i64 k1) ∧ u.cell? ⟨w.heap.size, 1, none⟩ = some (.int .i64 k2) ∧ u.cell? ⟨w.heap.size, 2, none⟩ = some (.int .i64 k3) ∧ u.cell? ⟨w.heap.size, 3, none⟩ = some (.int .i64 q0) ∧ u.cell? ⟨w.heap.size, 4, none⟩ = some (.int .i64 k5) ∧ u.cell? ⟨w.heap.size, 5, none⟩ = some (.int .i64 k6) ∧ u.cell? ⟨w.heap.size, 6, none⟩ = some (.int .i64 m)) ∧
      (u.cell? ⟨b, off + i * 3, none⟩ = some (.int .i64 q0) ∧ u.cell? ⟨b, off + i * 3 + 1, none⟩ = some (.slice A2 ks.length n2) ∧ u.cell? ⟨b, off + i * 3 + 2, none⟩ = some (.int .i64 q2)) ∧ Below W.heap.size W u))
    have HS := Lib.hid (fun (U : World) (hb : Below W.heap.size W U) => show Calls Tryz.prog 41 #[.agg #[.int .i64 q0, .slice A2 ks.length n2, .int .i64 q2], .agg #[.int .i64 k1, .int .i64 k2, .int .i64 k3, .int .i64 q0, .int .i64 k5, .int .i64 k6]] U fun e w' => e = .returned (.tuple #[.agg #[.int .i64 r0, .int .i64 r1, .int .i64 r2, .int .i64 r3, .int .i64 r4, .int .i64 r5, .int .i64 r6], .bool o]) ∧ Below U.heap.size U w' from
      hV ▸ spec_stateFact U hi n2 A2 q0 q2 k1 k2 k3 q0 k5 k6 ks (hkr.below hb (Nat.le_trans hh hWs)) (Nat.le_trans (Nat.le_trans hh hWs) hb.size) hxw.2 HFW.out)
    have HRO := Lib.hid hro
    have hD := b1.drew
    clear hV ho hro hkr HCY hx hxw
    go_upto_region 4 with fail
    go_cut [6, 7] (fun p y wx => ∃ g : Nat, p = .pointer (some ⟨g, 0, none⟩) ∧ y = .bool o ∧ Hid (wx.heap[g]? = some (.cells #[.int .i64 r0, .int .i64 r1, .int .i64 r2, .int .i64 r3, .int .i64 r4, .int .i64 r5, .int .i64 r6] 32)) ∧ Below W.heap.size W wx)
    case first =>
      refine wp_region_held_drew (S := fun u => (u.cell? ⟨w.heap.size, 0, none⟩ = some (.int .i64 k1) ∧ u.cell? ⟨w.heap.size, 1, none⟩ = some (.int .i64 k2) ∧ u.cell? ⟨w.heap.size, 2, none⟩ = some (.int .i64 k3) ∧ u.cell? ⟨w.heap.size, 3, none⟩ = some (.int .i64 q0) ∧ u.cell? ⟨w.heap.size, 4, none⟩ = some (.int .i64 k5) ∧ u.cell? ⟨w.heap.size, 5, none⟩ = some (.int .i64 k6) ∧ u.cell? ⟨w.heap.size, 6, none⟩ = some (.int .i64 m)) ∧ (u.cell? ⟨b, off + i * 3, none⟩ = some (.int .i64 q0) ∧ u.cell? ⟨b, off + i * 3 + 1, none⟩ = some (.slice A2 ks.length n2) ∧ u.cell? ⟨b, off + i * 3 + 2, none⟩ = some (.int .i64 q2)) ∧ Below W.heap.size W u) (by kernel_rfl) (HC.out _ hD) (fun hHeld => ?_)
      generalize hDD : W.drew = UD at hD hHeld ⊢
      refine wpAnyH_take (i := 0) (oi := ⟨some 16, _, _, _, _, _⟩) (v := ?_) rfl (by kernel_rfl) (by kernel_rfl) (by kernel_rfl) (fun _ _ _ h => h) (Or.inl ⟨by rfl, ?_⟩) (by assumption) ?_
      rotate_left
      · intro w hSw; (try dsimp only at hSw); go_simp <;> (with_reducible rfl)
      (try simp only [Act.put, List.setIfInBounds_toArray, List.set_cons_zero, List.set_cons_succ])
      refine wpAnyH_take (i := 1) (oi := ⟨some 17, _, _, _, _, _⟩) (v := ?_) rfl (by kernel_rfl) (by kernel_rfl) (by kernel_rfl) (fun _ _ _ h => h) (Or.inl ⟨by rfl, ?_⟩) (by assumption) ?_
      rotate_left
      · intro w hSw; (try dsimp only at hSw); go_simp <;> (with_reducible rfl)
      (try simp only [Act.put, List.setIfInBounds_toArray, List.set_cons_zero, List.set_cons_succ])
      refine wpAnyH_take (i := 2) (oi := ⟨some 18, _, _, _, _, _⟩) (v := ?_) rfl (by kernel_rfl) (by kernel_rfl) (by kernel_rfl) (fun _ _ _ h => h) (Or.inl ⟨by rfl, ?_⟩) (by assumption) ?_
      rotate_left
      · intro w hSw; (try dsimp only at hSw); go_simp <;> (with_reducible rfl)
      (try simp only [Act.put, List.setIfInBounds_toArray, List.set_cons_zero, List.set_cons_succ])
      refine wpAnyH_take (i := 3) (oi := ⟨some 19, _, _, _, _, _⟩) (v := ?_) rfl (by kernel_rfl) (by kernel_rfl) (by kernel_rfl) (fun _ _ _ h => h) (Or.inl ⟨by rfl, ?_⟩) (by assumption) ?_
      rotate_left
      · intro w hSw; (try dsimp only at hSw); go_simp <;> (with_reducible rfl)
      (try simp only [Act.put, List.setIfInBounds_toArray, List.set_cons_zero, List.set_cons_succ])
      refine wpAnyH_take (i := 4) (oi := ⟨some 20, _, _, _, _, _⟩) (v := ?_) rfl (by kernel_rfl) (by kernel_rfl) (by kernel_rfl) (fun _ _ _ h => h) (Or.inl ⟨by rfl, ?_⟩) (by assumption) ?_
      rotate_left
      · intro w hSw; (try dsimp only at hSw); go_simp <;> (with_reducible rfl)
      (try simp only [Act.put, List.setIfInBounds_toArray, List.set_cons_zero, List.set_cons_succ])
      refine wpAnyH_take (i := 5) (oi := ⟨some 21, _, _, _, _, _⟩) (v := ?_) rfl (by kernel_rfl) (by kernel_rfl) (by kernel_rfl) (fun _ _ _ h => h) (Or.inl ⟨by rfl, ?_⟩) (by assumption) ?_
      rotate_left
      · intro w hSw; (try dsimp only at hSw); go_simp <;> (with_reducible rfl)
      (try simp only [Act.put, List.setIfInBounds_toArray, List.set_cons_zero, List.set_cons_succ])
      refine wpAnyH_ready (rs := [6, 10]) (by kernel_rfl) (by simp) ?_
      refine AllReadyH.cons (o := ⟨some 22, _, _, _, _, _⟩) rfl (fun K hK => ?_) (AllReadyH.cons (o := ⟨some 6, _, _, _, _, _⟩) rfl (fun K hK => ?_) (AllReadyH.nil))
      · skip
        go_simp
        (with_reducible refine (HS.out _ (show Below W.heap.size W _ by assumption)).mono ?_)
        rintro e2 u2 ⟨rfl, b2⟩
        have d2 : Below W.heap.size W u2 := next b2 (by assumption)
        first |have e2 : Below V.heap.size V u2 := next b2 (by assumption) |skip
        refine hK.out _ _ (HC.out _ d2) (fun hHeld2 => ?_)
        clear hK K
        (try simp only [Act.put, List.setIfInBounds_toArray, List.set_cons_zero, List.set_cons_succ])
        refine wpAnyH_take (i := 7) (oi := ⟨some 15, _, _, _, _, _⟩) (v := ?_) rfl (by kernel_rfl) (by kernel_rfl) (by kernel_rfl) (fun _ _ _ h => h) (Or.inl ⟨by rfl, ?_⟩) (by assumption) ?_
        rotate_left
        · intro w hSw; (try dsimp only at hSw); go_simp <;> (with_reducible rfl)
        (try simp only [Act.put, List.setIfInBounds_toArray, List.set_cons_zero, List.set_cons_succ])
        refine wpAnyH_take (i := 8) (oi := ⟨some 23, _, _, _, _, _⟩) (v := ?_) rfl (by kernel_rfl) (by kernel_rfl) (by kernel_rfl) (fun _ _ _ h => h) (Or.inl ⟨by rfl, ?_⟩) (by assumption) ?_
        rotate_left
        · intro w hSw; (try dsimp only at hSw); go_simp <;> (with_reducible rfl)
        (try simp only [Act.put, List.setIfInBounds_toArray, List.set_cons_zero, List.set_cons_succ])
        refine wpAnyH_take (i := 9) (oi := ⟨some 24, _, _, _, _, _⟩) (v := ?_) rfl (by kernel_rfl) (by kernel_rfl) (by kernel_rfl) (fun _ _ _ h => h) (Or.inl ⟨by rfl, ?_⟩) (by assumption) ?_
        rotate_left
        · intro w hSw; (try dsimp only at hSw); go_simp <;> (with_reducible rfl)
        (try simp only [Act.put, List.setIfInBounds_toArray, List.set_cons_zero, List.set_cons_succ])
        refine wpAnyH_ready (rs := [10]) (by kernel_rfl) (by simp) ?_
        refine AllReadyH.cons (o := ⟨some 6, _, _, _, _, _⟩) rfl (fun K hK => ?_) AllReadyH.nil
        go_simp
        generalize hV : World.alloc _ _ = V
        have hG := blk_new_of hV
        have dV := next_of hV (show Below W.heap.size W _ by assumption)
        have dV1 := dV.1
        have eV : Below V.heap.size V V := Below.refl _ _
        refine hK.out _ _ (HC.out _ dV.1) (fun hHeld2 => ?_)
        clear hK K
        (try simp only [Act.put, List.setIfInBounds_toArray, List.set_cons_zero, List.set_cons_succ])
        refine wpAnyH_ready (rs := [11]) (by kernel_rfl) (by simp) ?_
        refine AllReadyH.cons (o := ⟨none, _, _, _, _, _⟩) rfl (fun K hK => ?_) AllReadyH.nil
        first |have hG2 := keepG hG (show Below V.heap.size V u2 by assumption) |have hG2 := keepG hG eV
        obtain ⟨⟨z0, z1, z2, z3, z4, z5, z6⟩, y0, y1, y2, y3, y4, y5, y6⟩ := cells7 hG2
        have hst := store7 hG2 (show Below W.heap.size W _ by assumption) dV.2 (.int .i64 r0) (.int .i64 r1) (.int .i64 r2) (.int .i64 r3) (.int .i64 r4) (.int .i64 r5) (.int .i64 r6)
        go_simp
        refine hK.out _ _ (HC.out _ hst.2) (fun hHeld2 => ?_)
        clear hK K
        (try simp only [Act.put, List.setIfInBounds_toArray, List.set_cons_zero, List.set_cons_succ])
        refine wpAnyH_take (i := 12) (oi := ⟨some 7, _, _, _, _, _⟩) (v := ?_) rfl (by kernel_rfl) (by kernel_rfl) (by kernel_rfl) (fun _ _ _ h => h) (Or.inl ⟨by rfl, ?_⟩) (by assumption) ?_
        rotate_left
        · intro w hSw; (try dsimp only at hSw); go_simp <;> (with_reducible rfl)
        (try simp only [Act.put, List.setIfInBounds_toArray, List.set_cons_zero, List.set_cons_succ])
        refine wpAnyH_done (by kernel_rfl) ?_ _
        go_wp2
        go_meet
        exact ⟨_, rfl, rfl, hst.1, hst.2⟩
      · skip
        go_simp
        generalize hV : World.alloc _ _ = V
        have hG := blk_new_of hV
        have dV := next_of hV (show Below W.heap.size W _ by assumption)
        have dV1 := dV.1
        have eV : Below V.heap.size V V := Below.refl _ _
        refine hK.out _ _ (HC.out _ dV.1) (fun hHeld2 => ?_)
        clear hK K
        (try simp only [Act.put, List.setIfInBounds_toArray, List.set_cons_zero, List.set_cons_succ])
        refine wpAnyH_ready (rs := [6]) (by kernel_rfl) (by simp) ?_
        refine AllReadyH.cons (o := ⟨some 22, _, _, _, _, _⟩) rfl (fun K hK => ?_) AllReadyH.nil
        go_simp
        (with_reducible refine (HS.out _ (show Below W.heap.size W _ by assumption)).mono ?_)
        rintro e2 u2 ⟨rfl, b2⟩
        have d2 : Below W.heap.size W u2 := next b2 (by assumption)
        first |have e2 : Below V.heap.size V u2 := next b2 (by assumption) |skip
        refine hK.out _ _ (HC.out _ d2) (fun hHeld2 => ?_)
        clear hK K
        (try simp only [Act.put, List.setIfInBounds_toArray, List.set_cons_zero, List.set_cons_succ])
        refine wpAnyH_take (i := 7) (oi := ⟨some 15, _, _, _, _, _⟩) (v := ?_) rfl (by kernel_rfl) (by kernel_rfl) (by kernel_rfl) (fun _ _ _ h => h) (Or.inl ⟨by rfl, ?_⟩) (by assumption) ?_
        rotate_left
        · intro w hSw; (try dsimp only at hSw); go_simp <;> (with_reducible rfl)
        (try simp only [Act.put, List.setIfInBounds_toArray, List.set_cons_zero, List.set_cons_succ])
        refine wpAnyH_take (i := 8) (oi := ⟨some 23, _, _, _, _, _⟩) (v := ?_) rfl (by kernel_rfl) (by kernel_rfl) (by kernel_rfl) (fun _ _ _ h => h) (Or.inl ⟨by rfl, ?_⟩) (by assumption) ?_
        rotate_left
        · intro w hSw; (try dsimp only at hSw); go_simp <;> (with_reducible rfl)
        (try simp only [Act.put, List.setIfInBounds_toArray, List.set_cons_zero, List.set_cons_succ])
        refine wpAnyH_take (i := 9) (oi := ⟨some 24, _, _, _, _, _⟩) (v := ?_) rfl (by kernel_rfl) (by kernel_rfl) (by kernel_rfl) (fun _ _ _ h => h) (Or.inl ⟨by rfl, ?_⟩) (by assumption) ?_
        rotate_left
        · intro w hSw; (try dsimp only at hSw); go_simp <;> (with_reducible rfl)
        (try simp only [Act.put, List.setIfInBounds_toArray, List.set_cons_zero, List.set_cons_succ])
        refine wpAnyH_ready (rs := [11]) (by kernel_rfl) (by simp) ?_
        refine AllReadyH.cons (o := ⟨none, _, _, _, _, _⟩) rfl (fun K hK => ?_) AllReadyH.nil
        first |have hG2 := keepG hG (show Below V.heap.size V u2 by assumption) |have hG2 := keepG hG eV
        obtain ⟨⟨z0, z1, z2, z3, z4, z5, z6⟩, y0, y1, y2, y3, y4, y5, y6⟩ := cells7 hG2
        have hst := store7 hG2 (show Below W.heap.size W _ by assumption) dV.2 (.int .i64 r0) (.int .i64 r1) (.int .i64 r2) (.int .i64 r3) (.int .i64 r4) (.int .i64 r5) (.int .i64 r6)
        go_simp
        refine hK.out _ _ (HC.out _ hst.2) (fun hHeld2 => ?_)
        clear hK K
        (try simp only [Act.put, List.setIfInBounds_toArray, List.set_cons_zero, List.set_cons_succ])
        refine wpAnyH_take (i := 12) (oi := ⟨some 7, _, _, _, _, _⟩) (v := ?_) rfl (by kernel_rfl) (by kernel_rfl) (by kernel_rfl) (fun _ _ _ h => h) (Or.inl ⟨by rfl, ?_⟩) (by assumption) ?_
        rotate_left
        · intro w hSw; (try dsimp only at hSw); go_simp <;> (with_reducible rfl)
        (try simp only [Act.put, List.setIfInBounds_toArray, List.set_cons_zero, List.set_cons_succ])
        refine wpAnyH_done (by kernel_rfl) ?_ _
        go_wp2
        go_meet
        exact ⟨_, rfl, rfl, hst.1, hst.2⟩
    case rest =>
    obtain ⟨g0, rfl, rfl, HG0, d5⟩ := hcut
    have D5 := hB.trans (d5.mono hWs)
    obtain ⟨⟨c0, c1, c2, c3, c4, c5, c6⟩, -, -⟩ := HC.out _ d5
    obtain ⟨⟨z0, z1, z2, z3, z4, z5, z6⟩, -⟩ := cells7 HG0.out
    cases o
    · clear c0 c1 c2 c3 c4 c5 c6 z0 z1 z2 z3 z4 z5 z6
      go_wp2
      go_ret
      exact ⟨ret_b HR.out.symm, D5⟩
    · obtain ⟨rfl, rfl, rfl, rfl, rfl, rfl, hk⟩ := HRO.out rfl
      rw [Bool.true_and, ← hk] at HR
      clear hk HRO
      have e0 : (r0 == r0) = true := beq_self_eq_true _
      have e1 : (r1 == r1) = true := beq_self_eq_true _
      have e2 : (r2 == r2) = true := beq_self_eq_true _
      have e3 : (r3 == r3) = true := beq_self_eq_true _
      have e4 : (r4 == r4) = true := beq_self_eq_true _
      have e5 : (r5 == r5) = true := beq_self_eq_true _
      cases hm : r6 == m
      · rw [hm] at HR
        go_wp2
        go_ret
        exact ⟨ret_b HR.out.symm, D5⟩
      · rw [hm] at HR
        go_wp2
        go_ret
        exact ⟨ret_b HR.out.symm, D5⟩
set_option maxHeartbeats 8000000 in
set_option maxRecDepth 100000 in
theorem impl_isBelieved (w : World) (hi c : Nat) (a : Option Addr) (xs : List IssuerD) (k1 k2 k3 k4 k5 k6 m : Int) (h : RowIssuer w hi (.slice a xs.length c) xs) (hh : hi ≤ w.heap.size) (hwf : ∀ x ∈ xs, (Lit.int .i64 x.Id).wf = true ∧ (Lit.int .i64 x.Secret).wf = true) (hf : FactD.wf ⟨k1, k2, k3, k4, k5, k6⟩) (hK : NoKey w) :
    Calls Tryz.prog 9 #[.slice a xs.length c, .agg #[.int .i64 k1, .int .i64 k2, .int .i64 k3, .int .i64 k4, .int .i64 k5, .int .i64 k6, .int .i64 m]] w fun e w' => e = .returned (.bool (believedB xs ⟨k1, k2, k3, k4, k5, k6⟩ m)) ∧ Below w.heap.size w w' := by
  obtain ⟨_, h1, h2⟩ := h.fits
  unfold maxLen at h2
  obtain ⟨W, hW⟩ : ∃ W, W = w.alloc (.cells #[.int .i64 k1, .int .i64 k2, .int .i64 k3, .int .i64 k4, .int .i64 k5, .int .i64 k6, .int .i64 m] 32) := ⟨_, rfl⟩
  have hB : Below w.heap.size w W := by rw [hW]; go_grown
  have hz : w.heap.size < W.heap.size := by rw [hW]; simp
  have HBK := Lib.hid (show W.heap[w.heap.size]? = some (.cells #[.int .i64 k1, .int .i64 k2, .int .i64 k3, .int .i64 k4, .int .i64 k5, .int .i64 k6, .int .i64 m] 32) by rw [hW]; exact blk_new _ _ _)
  have hWs := hB.size
  have H := Lib.hid (h.below IssuerR.fine hB hh)
  have HWF := Lib.hid hwf
  have HN := Lib.hid (hK.kept hB)
  have HFW := Lib.hid hf
  have HFI := Lib.hid (impl_findIssuer W hi c a xs k4 (h.below IssuerR.fine hB hh) (fun x hx => (hwf x hx).1) hf.2.2.2.1)
  have HCS := Lib.hid (findI_cases xs k4)
  obtain ⟨⟨c0, c1, c2, c3, c4, c5, c6⟩, -⟩ := cells7 HBK.out
  clear h hwf hf hK
  go_enter Tryz.func9, Tryz.ntmps9
  go_upto_region 1 with fail
  rw [← hW]
  clear hW
  go_wp2_with fail
  refine HFI.out.mono ?_
  rintro e u1 ⟨rfl, b1⟩
  clear c0 c1 c2 c3 c4 c5 c6
  rcases HCS.out with hno | ⟨i, x, hx, hyes, hid⟩
  · have HR := Lib.hid (believed_no (f := ⟨k1, k2, k3, k4, k5, k6⟩) (m := m) hno)
    rw [hno]
    clear hno
    go_wp2
    go_ret
    exact ⟨ret_b HR.out.symm, hB.trans (b1.mono hWs)⟩
  · have HR := Lib.hid (believed_at (f := ⟨k1, k2, k3, k4, k5, k6⟩) (m := m) hx hyes)
    have hxw := HWF.out x (List.mem_of_getElem? hx)
    have hil : (i : Int) < (xs.length : Int) := by have := (List.getElem?_eq_some_iff.1 hx).1; omega
    have hi0 : (0 : Int) ≤ (i : Int) := by omega
    have hi1 : ((i : Int) == (-1 : Int)) = false := by rw [beq_eq_false_iff_ne]; omega
    rw [hyes]
    clear hyes
    obtain ⟨q0, ks, q2⟩ := x
    obtain rfl : q0 = k4 := hid
    dsimp only at HR hxw
    obtain ⟨r0, r1, r2, r3, r4, r5, r6, o, hV, ho, hro⟩ := stateV_parts q2 k1 k2 k3 q0 k5 k6 ks
    rw [ho] at HR
    obtain ⟨kv, b, off, hkr, rfl, g1, g2, HCY⟩ := RowIssuer.at H.out hx
    obtain ⟨A2, n2, rfl, -⟩ := id hkr.form
    have HC := Lib.hid (fun (u : World) (hb : Below W.heap.size W u) => (⟨(cells7 (blk_keep HBK.out hb hz)).1, HCY _ _ g2 hb, hb⟩ :
      (u.cell? ⟨w.heap.size, 0, none⟩ = some (.int .i64 k1) ∧ u.cell? ⟨w.heap.size, 1, none⟩ = some (.int .i64 k2) ∧ u.cell? ⟨w.heap.size, 2, none⟩ = some (.int .i64 k3) ∧ u.cell? ⟨w.heap.size, 3, none⟩ = some (.int .i64 q0) ∧ u.cell? ⟨w.heap.size, 4, none⟩ = some (.int .i64 k5) ∧ u.cell? ⟨w.heap.size, 5, none⟩ = some (.int .i64 k6) ∧ u.cell? ⟨w.heap.size, 6, none⟩ = some (.int .i64 m)) ∧
      (u.cell? ⟨b, off + i * 3, none⟩ = some (.int .i64 q0) ∧ u.cell? ⟨b, off + i * 3 + 1, none⟩ = some (.slice A2 ks.length n2) ∧ u.cell? ⟨b, off + i * 3 + 2, none⟩ = some (.int .i64 q2)) ∧ Below W.heap.size W u))
    have HS := Lib.hid (fun (U : World) (hb : Below W.heap.size W U) => show Calls Tryz.prog 7 #[.agg #[.int .i64 q0, .slice A2 ks.length n2, .int .i64 q2], .agg #[.int .i64 k1, .int .i64 k2, .int .i64 k3, .int .i64 q0, .int .i64 k5, .int .i64 k6]] U fun e w' => e = .returned (.tuple #[.agg #[.int .i64 r0, .int .i64 r1, .int .i64 r2, .int .i64 r3, .int .i64 r4, .int .i64 r5, .int .i64 r6], .bool o]) ∧ Below U.heap.size U w' from
      hV ▸ impl_stateFact U hi n2 A2 q0 q2 k1 k2 k3 q0 k5 k6 ks (hkr.below hb (Nat.le_trans hh hWs)) (Nat.le_trans (Nat.le_trans hh hWs) hb.size) (HN.out.kept hb) hxw.2 HFW.out)
    have HRO := Lib.hid hro
    have hD := b1.drew
    clear hV ho hro hkr HCY hx hxw
    go_upto_region 4 with fail
    go_cut [6, 7] (fun p y wx => ∃ g : Nat, p = .pointer (some ⟨g, 0, none⟩) ∧ y = .bool o ∧ Hid (wx.heap[g]? = some (.cells #[.int .i64 r0, .int .i64 r1, .int .i64 r2, .int .i64 r3, .int .i64 r4, .int .i64 r5, .int .i64 r6] 32)) ∧ Below W.heap.size W wx)
    case first =>
      refine wp_region_held_drew (S := fun u => (u.cell? ⟨w.heap.size, 0, none⟩ = some (.int .i64 k1) ∧ u.cell? ⟨w.heap.size, 1, none⟩ = some (.int .i64 k2) ∧ u.cell? ⟨w.heap.size, 2, none⟩ = some (.int .i64 k3) ∧ u.cell? ⟨w.heap.size, 3, none⟩ = some (.int .i64 q0) ∧ u.cell? ⟨w.heap.size, 4, none⟩ = some (.int .i64 k5) ∧ u.cell? ⟨w.heap.size, 5, none⟩ = some (.int .i64 k6) ∧ u.cell? ⟨w.heap.size, 6, none⟩ = some (.int .i64 m)) ∧ (u.cell? ⟨b, off + i * 3, none⟩ = some (.int .i64 q0) ∧ u.cell? ⟨b, off + i * 3 + 1, none⟩ = some (.slice A2 ks.length n2) ∧ u.cell? ⟨b, off + i * 3 + 2, none⟩ = some (.int .i64 q2)) ∧ Below W.heap.size W u) (by kernel_rfl) (HC.out _ hD) (fun hHeld => ?_)
      generalize hDD : u1.drew = UD at hD hHeld ⊢
      refine wpAnyH_take (i := 0) (oi := ⟨some 16, _, _, _, _, _⟩) (v := ?_) rfl (by kernel_rfl) (by kernel_rfl) (by kernel_rfl) (fun _ _ _ h => h) (Or.inl ⟨by rfl, ?_⟩) (by assumption) ?_
      rotate_left
      · intro w hSw; (try dsimp only at hSw); go_simp <;> (with_reducible rfl)
      (try simp only [Act.put, List.setIfInBounds_toArray, List.set_cons_zero, List.set_cons_succ])
      refine wpAnyH_take (i := 1) (oi := ⟨some 17, _, _, _, _, _⟩) (v := ?_) rfl (by kernel_rfl) (by kernel_rfl) (by kernel_rfl) (fun _ _ _ h => h) (Or.inl ⟨by rfl, ?_⟩) (by assumption) ?_
      rotate_left
      · intro w hSw; (try dsimp only at hSw); go_simp <;> (with_reducible rfl)
      (try simp only [Act.put, List.setIfInBounds_toArray, List.set_cons_zero, List.set_cons_succ])
      refine wpAnyH_take (i := 2) (oi := ⟨some 18, _, _, _, _, _⟩) (v := ?_) rfl (by kernel_rfl) (by kernel_rfl) (by kernel_rfl) (fun _ _ _ h => h) (Or.inl ⟨by rfl, ?_⟩) (by assumption) ?_
      rotate_left
      · intro w hSw; (try dsimp only at hSw); go_simp <;> (with_reducible rfl)
      (try simp only [Act.put, List.setIfInBounds_toArray, List.set_cons_zero, List.set_cons_succ])
      refine wpAnyH_take (i := 3) (oi := ⟨some 19, _, _, _, _, _⟩) (v := ?_) rfl (by kernel_rfl) (by kernel_rfl) (by kernel_rfl) (fun _ _ _ h => h) (Or.inl ⟨by rfl, ?_⟩) (by assumption) ?_
      rotate_left
      · intro w hSw; (try dsimp only at hSw); go_simp <;> (with_reducible rfl)
      (try simp only [Act.put, List.setIfInBounds_toArray, List.set_cons_zero, List.set_cons_succ])
      refine wpAnyH_take (i := 4) (oi := ⟨some 20, _, _, _, _, _⟩) (v := ?_) rfl (by kernel_rfl) (by kernel_rfl) (by kernel_rfl) (fun _ _ _ h => h) (Or.inl ⟨by rfl, ?_⟩) (by assumption) ?_
      rotate_left
      · intro w hSw; (try dsimp only at hSw); go_simp <;> (with_reducible rfl)
      (try simp only [Act.put, List.setIfInBounds_toArray, List.set_cons_zero, List.set_cons_succ])
      refine wpAnyH_take (i := 5) (oi := ⟨some 21, _, _, _, _, _⟩) (v := ?_) rfl (by kernel_rfl) (by kernel_rfl) (by kernel_rfl) (fun _ _ _ h => h) (Or.inl ⟨by rfl, ?_⟩) (by assumption) ?_
      rotate_left
      · intro w hSw; (try dsimp only at hSw); go_simp <;> (with_reducible rfl)
      (try simp only [Act.put, List.setIfInBounds_toArray, List.set_cons_zero, List.set_cons_succ])
      refine wpAnyH_ready (rs := [6, 10]) (by kernel_rfl) (by simp) ?_
      refine AllReadyH.cons (o := ⟨some 22, _, _, _, _, _⟩) rfl (fun K hK => ?_) (AllReadyH.cons (o := ⟨some 6, _, _, _, _, _⟩) rfl (fun K hK => ?_) (AllReadyH.nil))
      · skip
        go_simp
        (with_reducible refine (HS.out _ (show Below W.heap.size W _ by assumption)).mono ?_)
        rintro e2 u2 ⟨rfl, b2⟩
        have d2 : Below W.heap.size W u2 := next b2 (by assumption)
        first |have e2 : Below V.heap.size V u2 := next b2 (by assumption) |skip
        refine hK.out _ _ (HC.out _ d2) (fun hHeld2 => ?_)
        clear hK K
        (try simp only [Act.put, List.setIfInBounds_toArray, List.set_cons_zero, List.set_cons_succ])
        refine wpAnyH_take (i := 7) (oi := ⟨some 15, _, _, _, _, _⟩) (v := ?_) rfl (by kernel_rfl) (by kernel_rfl) (by kernel_rfl) (fun _ _ _ h => h) (Or.inl ⟨by rfl, ?_⟩) (by assumption) ?_
        rotate_left
        · intro w hSw; (try dsimp only at hSw); go_simp <;> (with_reducible rfl)
        (try simp only [Act.put, List.setIfInBounds_toArray, List.set_cons_zero, List.set_cons_succ])
        refine wpAnyH_take (i := 8) (oi := ⟨some 23, _, _, _, _, _⟩) (v := ?_) rfl (by kernel_rfl) (by kernel_rfl) (by kernel_rfl) (fun _ _ _ h => h) (Or.inl ⟨by rfl, ?_⟩) (by assumption) ?_
        rotate_left
        · intro w hSw; (try dsimp only at hSw); go_simp <;> (with_reducible rfl)
        (try simp only [Act.put, List.setIfInBounds_toArray, List.set_cons_zero, List.set_cons_succ])
        refine wpAnyH_take (i := 9) (oi := ⟨some 24, _, _, _, _, _⟩) (v := ?_) rfl (by kernel_rfl) (by kernel_rfl) (by kernel_rfl) (fun _ _ _ h => h) (Or.inl ⟨by rfl, ?_⟩) (by assumption) ?_
        rotate_left
        · intro w hSw; (try dsimp only at hSw); go_simp <;> (with_reducible rfl)
        (try simp only [Act.put, List.setIfInBounds_toArray, List.set_cons_zero, List.set_cons_succ])
        refine wpAnyH_ready (rs := [10]) (by kernel_rfl) (by simp) ?_
        refine AllReadyH.cons (o := ⟨some 6, _, _, _, _, _⟩) rfl (fun K hK => ?_) AllReadyH.nil
        go_simp
        generalize hV : World.alloc _ _ = V
        have hG := blk_new_of hV
        have dV := next_of hV (show Below W.heap.size W _ by assumption)
        have dV1 := dV.1
        have eV : Below V.heap.size V V := Below.refl _ _
        refine hK.out _ _ (HC.out _ dV.1) (fun hHeld2 => ?_)
        clear hK K
        (try simp only [Act.put, List.setIfInBounds_toArray, List.set_cons_zero, List.set_cons_succ])
        refine wpAnyH_ready (rs := [11]) (by kernel_rfl) (by simp) ?_
        refine AllReadyH.cons (o := ⟨none, _, _, _, _, _⟩) rfl (fun K hK => ?_) AllReadyH.nil
        first |have hG2 := keepG hG (show Below V.heap.size V u2 by assumption) |have hG2 := keepG hG eV
        obtain ⟨⟨z0, z1, z2, z3, z4, z5, z6⟩, y0, y1, y2, y3, y4, y5, y6⟩ := cells7 hG2
        have hst := store7 hG2 (show Below W.heap.size W _ by assumption) dV.2 (.int .i64 r0) (.int .i64 r1) (.int .i64 r2) (.int .i64 r3) (.int .i64 r4) (.int .i64 r5) (.int .i64 r6)
        go_simp
        refine hK.out _ _ (HC.out _ hst.2) (fun hHeld2 => ?_)
        clear hK K
        (try simp only [Act.put, List.setIfInBounds_toArray, List.set_cons_zero, List.set_cons_succ])
        refine wpAnyH_take (i := 12) (oi := ⟨some 7, _, _, _, _, _⟩) (v := ?_) rfl (by kernel_rfl) (by kernel_rfl) (by kernel_rfl) (fun _ _ _ h => h) (Or.inl ⟨by rfl, ?_⟩) (by assumption) ?_
        rotate_left
        · intro w hSw; (try dsimp only at hSw); go_simp <;> (with_reducible rfl)
        (try simp only [Act.put, List.setIfInBounds_toArray, List.set_cons_zero, List.set_cons_succ])
        refine wpAnyH_done (by kernel_rfl) ?_ _
        go_wp2
        go_meet
        exact ⟨_, rfl, rfl, hst.1, hst.2⟩
      · skip
        go_simp
        generalize hV : World.alloc _ _ = V
        have hG := blk_new_of hV
        have dV := next_of hV (show Below W.heap.size W _ by assumption)
        have dV1 := dV.1
        have eV : Below V.heap.size V V := Below.refl _ _
        refine hK.out _ _ (HC.out _ dV.1) (fun hHeld2 => ?_)
        clear hK K
        (try simp only [Act.put, List.setIfInBounds_toArray, List.set_cons_zero, List.set_cons_succ])
        refine wpAnyH_ready (rs := [6]) (by kernel_rfl) (by simp) ?_
        refine AllReadyH.cons (o := ⟨some 22, _, _, _, _, _⟩) rfl (fun K hK => ?_) AllReadyH.nil
        go_simp
        (with_reducible refine (HS.out _ (show Below W.heap.size W _ by assumption)).mono ?_)
        rintro e2 u2 ⟨rfl, b2⟩
        have d2 : Below W.heap.size W u2 := next b2 (by assumption)
        first |have e2 : Below V.heap.size V u2 := next b2 (by assumption) |skip
        refine hK.out _ _ (HC.out _ d2) (fun hHeld2 => ?_)
        clear hK K
        (try simp only [Act.put, List.setIfInBounds_toArray, List.set_cons_zero, List.set_cons_succ])
        refine wpAnyH_take (i := 7) (oi := ⟨some 15, _, _, _, _, _⟩) (v := ?_) rfl (by kernel_rfl) (by kernel_rfl) (by kernel_rfl) (fun _ _ _ h => h) (Or.inl ⟨by rfl, ?_⟩) (by assumption) ?_
        rotate_left
        · intro w hSw; (try dsimp only at hSw); go_simp <;> (with_reducible rfl)
        (try simp only [Act.put, List.setIfInBounds_toArray, List.set_cons_zero, List.set_cons_succ])
        refine wpAnyH_take (i := 8) (oi := ⟨some 23, _, _, _, _, _⟩) (v := ?_) rfl (by kernel_rfl) (by kernel_rfl) (by kernel_rfl) (fun _ _ _ h => h) (Or.inl ⟨by rfl, ?_⟩) (by assumption) ?_
        rotate_left
        · intro w hSw; (try dsimp only at hSw); go_simp <;> (with_reducible rfl)
        (try simp only [Act.put, List.setIfInBounds_toArray, List.set_cons_zero, List.set_cons_succ])
        refine wpAnyH_take (i := 9) (oi := ⟨some 24, _, _, _, _, _⟩) (v := ?_) rfl (by kernel_rfl) (by kernel_rfl) (by kernel_rfl) (fun _ _ _ h => h) (Or.inl ⟨by rfl, ?_⟩) (by assumption) ?_
        rotate_left
        · intro w hSw; (try dsimp only at hSw); go_simp <;> (with_reducible rfl)
        (try simp only [Act.put, List.setIfInBounds_toArray, List.set_cons_zero, List.set_cons_succ])
        refine wpAnyH_ready (rs := [11]) (by kernel_rfl) (by simp) ?_
        refine AllReadyH.cons (o := ⟨none, _, _, _, _, _⟩) rfl (fun K hK => ?_) AllReadyH.nil
        first |have hG2 := keepG hG (show Below V.heap.size V u2 by assumption) |have hG2 := keepG hG eV
        obtain ⟨⟨z0, z1, z2, z3, z4, z5, z6⟩, y0, y1, y2, y3, y4, y5, y6⟩ := cells7 hG2
        have hst := store7 hG2 (show Below W.heap.size W _ by assumption) dV.2 (.int .i64 r0) (.int .i64 r1) (.int .i64 r2) (.int .i64 r3) (.int .i64 r4) (.int .i64 r5) (.int .i64 r6)
        go_simp
        refine hK.out _ _ (HC.out _ hst.2) (fun hHeld2 => ?_)
        clear hK K
        (try simp only [Act.put, List.setIfInBounds_toArray, List.set_cons_zero, List.set_cons_succ])
        refine wpAnyH_take (i := 12) (oi := ⟨some 7, _, _, _, _, _⟩) (v := ?_) rfl (by kernel_rfl) (by kernel_rfl) (by kernel_rfl) (fun _ _ _ h => h) (Or.inl ⟨by rfl, ?_⟩) (by assumption) ?_
        rotate_left
        · intro w hSw; (try dsimp only at hSw); go_simp <;> (with_reducible rfl)
        (try simp only [Act.put, List.setIfInBounds_toArray, List.set_cons_zero, List.set_cons_succ])
        refine wpAnyH_done (by kernel_rfl) ?_ _
        go_wp2
        go_meet
        exact ⟨_, rfl, rfl, hst.1, hst.2⟩
    case rest =>
    obtain ⟨g0, rfl, rfl, HG0, d5⟩ := hcut
    have D5 := hB.trans (d5.mono hWs)
    obtain ⟨⟨c0, c1, c2, c3, c4, c5, c6⟩, -, -⟩ := HC.out _ d5
    obtain ⟨⟨z0, z1, z2, z3, z4, z5, z6⟩, -⟩ := cells7 HG0.out
    cases o
    · clear c0 c1 c2 c3 c4 c5 c6 z0 z1 z2 z3 z4 z5 z6
      go_wp2
      go_ret
      exact ⟨ret_b HR.out.symm, D5⟩
    · obtain ⟨rfl, rfl, rfl, rfl, rfl, rfl, hk⟩ := HRO.out rfl
      rw [Bool.true_and, ← hk] at HR
      clear hk HRO
      have e0 : (r0 == r0) = true := beq_self_eq_true _
      have e1 : (r1 == r1) = true := beq_self_eq_true _
      have e2 : (r2 == r2) = true := beq_self_eq_true _
      have e3 : (r3 == r3) = true := beq_self_eq_true _
      have e4 : (r4 == r4) = true := beq_self_eq_true _
      have e5 : (r5 == r5) = true := beq_self_eq_true _
      cases hm : r6 == m
      · rw [hm] at HR
        go_wp2
        go_ret
        exact ⟨ret_b HR.out.symm, D5⟩
      · rw [hm] at HR
        go_wp2
        go_ret
        exact ⟨ret_b HR.out.symm, D5⟩
end Go.Proofs.YtjfmmingkciapaaGreatDoor
