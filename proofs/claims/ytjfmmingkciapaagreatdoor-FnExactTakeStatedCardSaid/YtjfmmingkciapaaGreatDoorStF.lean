/- Issuers (chapter 8): what an issuer states: contracts of the model and of the landed functions. Condition of the landed one: the package variable errNoKey holds a pointer to an error (NoKey); else none but the bounds of what came in. -/
import Derived.Test.YtjfmmingkciapaaGreatDoorIssA
import Derived.Test.YtjfmmingkciapaaGreatDoorDirI
import Derived.Test.YtjfmmingkciapaaGreatDoorIssO
import Derived.Test.YtjfmmingkciapaaGreatDoorLitZ
import Derived.Deep.RegionWith
namespace Go.Proofs.YtjfmmingkciapaaGreatDoor
open Go.ChangeShapes Go.WideShapes Go.ChangeAt Go.RowKit
set_option linter.unusedVariables false

/-- A statement's parts, and whether there is one. -/
def okState (x : IssuerD) (f : FactD) : Bool := issuerB x && (factB ⟨f.Kind, f.Subject, f.Value, x.Id, f.At, f.Until⟩ && hasK x.Kinds f.Kind)
def stateV (x : IssuerD) (f : FactD) : Value := if okState x f then .tuple #[.agg #[.int .i64 f.Kind, .int .i64 f.Subject, .int .i64 f.Value, .int .i64 x.Id, .int .i64 f.At, .int .i64 f.Until, .int .i64 (keyed x.Secret [f.Kind, f.Subject, f.Value, x.Id, f.At, f.Until])], .bool true]
  else .tuple #[.agg #[.int .i64 0, .int .i64 0, .int .i64 0, .int .i64 0, .int .i64 0, .int .i64 0, .int .i64 0], .bool false]
/-- The three blocks that a call of StateFact lays. -/
structure Laid3 (W : World) (b : Nat) (xs fs zs : Array Value) : Prop where
  b0 : W.heap[b]? = some (.cells xs 26)
  b1 : W.heap[b + 1]? = some (.cells fs 28)
  b2 : W.heap[b + 1 + 1]? = some (.cells zs 32)
  hi : b + 1 + 1 < W.heap.size
theorem laid3 (w : World) (xs fs zs : Array Value) : Laid3 (((w.alloc (.cells xs 26)).alloc (.cells fs 28)).alloc (.cells zs 32)) w.heap.size xs fs zs :=
  ⟨blk_keep (C := w.heap.size + 1) (blk_new _ _ _) (by go_grown) (by omega), blk_keep (C := w.heap.size + 1 + 1) (blk_new_at (w := w.alloc (.cells xs 26)) _ _ (by simp)) (by go_grown) (by omega), blk_new_at _ _ (by simp), by simp⟩
theorem Laid3.kept {W u : World} {b : Nat} {xs fs zs : Array Value} (h : Laid3 W b xs fs zs) (hb : Below W.heap.size W u) : Laid3 u b xs fs zs :=
  ⟨blk_keep h.b0 hb (by have := h.hi; omega), blk_keep h.b1 hb (by have := h.hi; omega), blk_keep h.b2 hb (by have := h.hi; omega), Nat.lt_of_lt_of_le h.hi hb.size⟩
theorem Laid3.issuer {W : World} {b : Nat} {x0 x1 x2 : Value} {fs zs : Array Value} (h : Laid3 W b #[x0, x1, x2] fs zs) : W.cell? ⟨b, 0, none⟩ = some x0 ∧ W.cell? ⟨b, 1, none⟩ = some x1 ∧ W.cell? ⟨b, 2, none⟩ = some x2 :=
  ⟨blk_cell h.b0 0 rfl, blk_cell h.b0 1 rfl, blk_cell h.b0 2 rfl⟩
theorem Laid3.fact {W : World} {b : Nat} {xs zs : Array Value} {f0 f1 f2 f3 f4 f5 : Value} (h : Laid3 W b xs #[f0, f1, f2, f3, f4, f5] zs) : W.cell? ⟨b + 1, 0, none⟩ = some f0 ∧ W.cell? ⟨b + 1, 1, none⟩ = some f1 ∧ W.cell? ⟨b + 1, 2, none⟩ = some f2 ∧ W.cell? ⟨b + 1, 3, none⟩ = some f3 ∧ W.cell? ⟨b + 1, 4, none⟩ = some f4 ∧ W.cell? ⟨b + 1, 5, none⟩ = some f5 :=
  ⟨blk_cell h.b1 0 rfl, blk_cell h.b1 1 rfl, blk_cell h.b1 2 rfl, blk_cell h.b1 3 rfl, blk_cell h.b1 4 rfl, blk_cell h.b1 5 rfl⟩
theorem Laid3.res {W : World} {b : Nat} {xs fs : Array Value} {z0 z1 z2 z3 z4 z5 z6 : Value} (h : Laid3 W b xs fs #[z0, z1, z2, z3, z4, z5, z6]) : (W.cell? ⟨b + 1 + 1, 0, none⟩ = some z0 ∧ W.cell? ⟨b + 1 + 1, 1, none⟩ = some z1 ∧ W.cell? ⟨b + 1 + 1, 2, none⟩ = some z2 ∧ W.cell? ⟨b + 1 + 1, 3, none⟩ = some z3 ∧ W.cell? ⟨b + 1 + 1, 4, none⟩ = some z4 ∧ W.cell? ⟨b + 1 + 1, 5, none⟩ = some z5 ∧ W.cell? ⟨b + 1 + 1, 6, none⟩ = some z6) ∧
    (W.frozen? ⟨b + 1 + 1, 0, none⟩ = false ∧ W.frozen? ⟨b + 1 + 1, 1, none⟩ = false ∧ W.frozen? ⟨b + 1 + 1, 2, none⟩ = false ∧ W.frozen? ⟨b + 1 + 1, 3, none⟩ = false ∧ W.frozen? ⟨b + 1 + 1, 4, none⟩ = false ∧ W.frozen? ⟨b + 1 + 1, 5, none⟩ = false ∧ W.frozen? ⟨b + 1 + 1, 6, none⟩ = false) :=
  ⟨⟨blk_cell h.b2 0 rfl, blk_cell h.b2 1 rfl, blk_cell h.b2 2 rfl, blk_cell h.b2 3 rfl, blk_cell h.b2 4 rfl, blk_cell h.b2 5 rfl, blk_cell h.b2 6 rfl⟩, ⟨blk_frozen h.b2 0, blk_frozen h.b2 1, blk_frozen h.b2 2, blk_frozen h.b2 3, blk_frozen h.b2 4, blk_frozen h.b2 5, blk_frozen h.b2 6⟩⟩
theorem Laid3.low {W u : World} {b : Nat} {x0 x1 x2 f0 f1 f2 f3 f4 f5 : Value} {zs : Array Value} (h : Laid3 W b #[x0, x1, x2] #[f0, f1, f2, f3, f4, f5] zs) (hb : Below (b + 1 + 1) W u) :
    (u.cell? ⟨b, 0, none⟩ = some x0 ∧ u.cell? ⟨b, 1, none⟩ = some x1 ∧ u.cell? ⟨b, 2, none⟩ = some x2) ∧ (u.cell? ⟨b + 1, 0, none⟩ = some f0 ∧ u.cell? ⟨b + 1, 1, none⟩ = some f1 ∧ u.cell? ⟨b + 1, 2, none⟩ = some f2 ∧ u.cell? ⟨b + 1, 3, none⟩ = some f3 ∧ u.cell? ⟨b + 1, 4, none⟩ = some f4 ∧ u.cell? ⟨b + 1, 5, none⟩ = some f5) := by
  have h0 := blk_keep h.b0 hb (by omega)
  have h1 := blk_keep h.b1 hb (by omega)
  exact ⟨⟨blk_cell h0 0 rfl, blk_cell h0 1 rfl, blk_cell h0 2 rfl⟩, ⟨blk_cell h1 0 rfl, blk_cell h1 1 rfl, blk_cell h1 2 rfl, blk_cell h1 3 rfl, blk_cell h1 4 rfl, blk_cell h1 5 rfl⟩⟩
set_option maxHeartbeats 8000000 in
set_option maxRecDepth 100000 in
theorem impl_stateFact (w : World) (hi c : Nat) (A : Option Addr) (i s k1 k2 k3 k4 k5 k6 : Int) (ks : List Int) (h : Row .i64 w hi (.slice A ks.length c) ks) (hh : hi ≤ w.heap.size) (hK : NoKey w) (hs : (Lit.int .i64 s).wf = true) (hwf : FactD.wf ⟨k1, k2, k3, i, k5, k6⟩) :
    Calls Tryz.prog 7 #[.agg #[.int .i64 i, .slice A ks.length c, .int .i64 s], .agg #[.int .i64 k1, .int .i64 k2, .int .i64 k3, .int .i64 k4, .int .i64 k5, .int .i64 k6]] w fun e w' => e = .returned (stateV ⟨i, ks, s⟩ ⟨k1, k2, k3, k4, k5, k6⟩) ∧ Below w.heap.size w w' := by
  obtain ⟨W, hW⟩ : ∃ W, W = ((w.alloc (.cells #[.int .i64 i, .slice A ks.length c, .int .i64 s] 26)).alloc (.cells #[.int .i64 k1, .int .i64 k2, .int .i64 k3, .int .i64 i, .int .i64 k5, .int .i64 k6] 28)).alloc (.cells #[.int .i64 0, .int .i64 0, .int .i64 0, .int .i64 0, .int .i64 0, .int .i64 0, .int .i64 0] 32) := ⟨_, rfl⟩
  have hB : Below w.heap.size w W := by rw [hW]; go_grown
  have HL := Lib.hid (show Laid3 W w.heap.size _ _ _ from hW ▸ laid3 w _ _ _)
  have H := Lib.hid (h.below hB hh)
  have HN := Lib.hid (hK.kept hB)
  have hWs := hB.size
  obtain ⟨p, hp⟩ : ∃ p, issuerB ⟨i, ks, s⟩ = p := ⟨_, rfl⟩
  obtain ⟨q, hq⟩ : ∃ q, factB ⟨k1, k2, k3, i, k5, k6⟩ = q := ⟨_, rfl⟩
  obtain ⟨r, hr⟩ : ∃ r, hasK ks k1 = r := ⟨_, rfl⟩
  have HV := Lib.hid (show stateV ⟨i, ks, s⟩ ⟨k1, k2, k3, k4, k5, k6⟩ = if p && (q && r) then .tuple #[.agg #[.int .i64 k1, .int .i64 k2, .int .i64 k3, .int .i64 i, .int .i64 k5, .int .i64 k6, .int .i64 (keyed s [k1, k2, k3, i, k5, k6])], .bool true] else .tuple #[.agg #[.int .i64 0, .int .i64 0, .int .i64 0, .int .i64 0, .int .i64 0, .int .i64 0, .int .i64 0], .bool false] by
    rw [← hp, ← hq, ← hr]
    rfl)
  have HP := Lib.hid (show Calls Tryz.prog 34 #[.agg #[.int .i64 i, .slice A ks.length c, .int .i64 s]] W fun e w' => e = .returned (.bool p) ∧ Below W.heap.size W w' from hp ▸ impl_isIssuer W hi i s _ ks H.out (Nat.le_trans hh hWs) HN.out)
  have HQ := Lib.hid (fun U => show Calls Tryz.prog 11 #[.agg #[.int .i64 k1, .int .i64 k2, .int .i64 k3, .int .i64 i, .int .i64 k5, .int .i64 k6]] U fun e w' => e = .returned (.bool q) ∧ Below U.heap.size U w' from hq ▸ impl_isFact ⟨k1, k2, k3, i, k5, k6⟩ U)
  have HR := Lib.hid (fun (U : World) (hb : Below W.heap.size W U) => show Calls Tryz.prog 35 #[.slice A ks.length c, .int .i64 k1] U fun e w' => e = .returned (.bool r) ∧ w' = U from hr ▸ contains_ints U hi c A ks k1 (H.out.below hb (Nat.le_trans hh hWs)))
  have HF := Lib.hid (fun U => show Calls Tryz.prog 37 #[.agg #[.int .i64 k1, .int .i64 k2, .int .i64 k3, .int .i64 i, .int .i64 k5, .int .i64 k6]] U fun e w' => ∃ u, e = .returned u ∧ Own 3 .i64 w' U.heap.size w'.heap.size u [k1, k2, k3, i, k5, k6] ∧ Below U.heap.size U w' from impl_factInts U ⟨k1, k2, k3, i, k5, k6⟩ hwf)
  have HH := Lib.hid (fun (U : World) (lo hi : Nat) (v : Value) (o : Own 3 .i64 U lo hi v [k1, k2, k3, i, k5, k6]) (hh : hi ≤ U.heap.size) => impl_keyed U hi s v [k1, k2, k3, i, k5, k6] hs o.read hh (by show 6 ≤ _; decide))
  clear h hK hp hq hr hwf hs
  obtain ⟨x0, x1, x2⟩ := HL.out.issuer
  go_enter Tryz.func7, Tryz.ntmps7
  go_upto_region 2 with fail
  rw [← hW]
  clear hW
  go_wp2_with fail
  refine HP.out.mono ?_
  rintro e u1 ⟨rfl, b1⟩
  have HL1 := Lib.hid (HL.out.kept b1)
  clear x0 x1 x2
  have d1 := hB.trans (b1.mono hWs)
  cases p
  · skip
    obtain ⟨⟨z0, z1, z2, z3, z4, z5, z6⟩, y0, y1, y2, y3, y4, y5, y6⟩ := HL1.out.res
    go_wp2
    refine bodyPost_ret (v := .tuple #[.agg #[.int .i64 0, .int .i64 0, .int .i64 0, .int .i64 0, .int .i64 0, .int .i64 0, .int .i64 0], .bool false]) (by simp [results, Tryz.results7, go_sem, z0, z1, z2, z3, z4, z5, z6]) rfl ⟨by rw [HV.out]; rfl, ?_⟩
    go_grown
  · obtain ⟨f0, f1, f2, f3, f4, f5⟩ := HL1.out.fact
    go_wp2_with fail
    refine (HQ.out _).mono ?_
    rintro e u2 ⟨rfl, b2⟩
    have b12 := b1.trans (b2.mono b1.size)
    have d2 := hB.trans (b12.mono hWs)
    have HL2 := Lib.hid (HL.out.kept b12)
    clear f0 f1 f2 f3 f4 f5
    cases q
    · skip
      obtain ⟨⟨z0, z1, z2, z3, z4, z5, z6⟩, y0, y1, y2, y3, y4, y5, y6⟩ := HL2.out.res
      go_wp2
      refine bodyPost_ret (v := .tuple #[.agg #[.int .i64 0, .int .i64 0, .int .i64 0, .int .i64 0, .int .i64 0, .int .i64 0, .int .i64 0], .bool false]) (by simp [results, Tryz.results7, go_sem, z0, z1, z2, z3, z4, z5, z6]) rfl ⟨by rw [HV.out]; rfl, ?_⟩
      go_grown
    · obtain ⟨x0, x1, x2⟩ := HL2.out.issuer
      obtain ⟨f0, f1, f2, f3, f4, f5⟩ := HL2.out.fact
      go_wp2_with fail
      refine (HR.out _ b12).mono ?_
      rintro e u3 ⟨rfl, rfl⟩
      cases r
      · skip
        obtain ⟨⟨z0, z1, z2, z3, z4, z5, z6⟩, y0, y1, y2, y3, y4, y5, y6⟩ := HL2.out.res
        go_wp2
        refine bodyPost_ret (v := .tuple #[.agg #[.int .i64 0, .int .i64 0, .int .i64 0, .int .i64 0, .int .i64 0, .int .i64 0, .int .i64 0], .bool false]) (by simp [results, Tryz.results7, go_sem, z0, z1, z2, z3, z4, z5, z6]) rfl ⟨by rw [HV.out]; rfl, ?_⟩
        go_grown
      · have HS := Lib.hid (fun (U : World) (hb : Below (w.heap.size + 1 + 1) u3 U) => (⟨(HL2.out.low hb).1, (HL2.out.low hb).2, hb⟩ : (U.cell? ⟨w.heap.size, 0, none⟩ = some (.int .i64 i) ∧ U.cell? ⟨w.heap.size, 1, none⟩ = some (.slice A ks.length c) ∧ U.cell? ⟨w.heap.size, 2, none⟩ = some (.int .i64 s)) ∧ (U.cell? ⟨w.heap.size + 1, 0, none⟩ = some (.int .i64 k1) ∧ U.cell? ⟨w.heap.size + 1, 1, none⟩ = some (.int .i64 k2) ∧ U.cell? ⟨w.heap.size + 1, 2, none⟩ = some (.int .i64 k3) ∧ U.cell? ⟨w.heap.size + 1, 3, none⟩ = some (.int .i64 i) ∧ U.cell? ⟨w.heap.size + 1, 4, none⟩ = some (.int .i64 k5) ∧ U.cell? ⟨w.heap.size + 1, 5, none⟩ = some (.int .i64 k6)) ∧ Below (w.heap.size + 1 + 1) u3 U))
        have hbD : Below u3.heap.size u3 u3.drew := (Below.refl _ _).drew
        have hz3 : u3.heap.size ≤ u3.drew.heap.size := Nat.le_refl _
        have h3 := Nat.le_of_lt HL2.out.hi
        clear x0 x1 x2 f0 f1 f2 f3 f4 f5
        go_upto_region 4 with fail
        refine wp_region_held_drew (S := fun U => (U.cell? ⟨w.heap.size, 0, none⟩ = some (.int .i64 i) ∧ U.cell? ⟨w.heap.size, 1, none⟩ = some (.slice A ks.length c) ∧ U.cell? ⟨w.heap.size, 2, none⟩ = some (.int .i64 s)) ∧ (U.cell? ⟨w.heap.size + 1, 0, none⟩ = some (.int .i64 k1) ∧ U.cell? ⟨w.heap.size + 1, 1, none⟩ = some (.int .i64 k2) ∧ U.cell? ⟨w.heap.size + 1, 2, none⟩ = some (.int .i64 k3) ∧ U.cell? ⟨w.heap.size + 1, 3, none⟩ = some (.int .i64 i) ∧ U.cell? ⟨w.heap.size + 1, 4, none⟩ = some (.int .i64 k5) ∧ U.cell? ⟨w.heap.size + 1, 5, none⟩ = some (.int .i64 k6)) ∧ Below (w.heap.size + 1 + 1) u3 U) (by kernel_rfl) (HS.out _ (hbD.mono h3)) (fun hHeld => ?_)
        refine wpAnyH_take (i := 0) (oi := ⟨some 26, _, _, _, _, _⟩) (v := ?_) rfl (by kernel_rfl) (by kernel_rfl) (by kernel_rfl) (fun _ _ _ h => h) (Or.inl ⟨by rfl, ?_⟩) (by assumption) ?_
        rotate_left
        · intro w hSw; (try dsimp only at hSw); go_simp <;> (with_reducible rfl)
        (try simp only [Act.put, List.setIfInBounds_toArray, List.set_cons_zero, List.set_cons_succ])
        refine wpAnyH_take (i := 1) (oi := ⟨some 27, _, _, _, _, _⟩) (v := ?_) rfl (by kernel_rfl) (by kernel_rfl) (by kernel_rfl) (fun _ _ _ h => h) (Or.inl ⟨by rfl, ?_⟩) (by assumption) ?_
        rotate_left
        · intro w hSw; (try dsimp only at hSw); go_simp <;> (with_reducible rfl)
        (try simp only [Act.put, List.setIfInBounds_toArray, List.set_cons_zero, List.set_cons_succ])
        refine wpAnyH_take (i := 2) (oi := ⟨some 28, _, _, _, _, _⟩) (v := ?_) rfl (by kernel_rfl) (by kernel_rfl) (by kernel_rfl) (fun _ _ _ h => h) (Or.inl ⟨by rfl, ?_⟩) (by assumption) ?_
        rotate_left
        · intro w hSw; (try dsimp only at hSw); go_simp <;> (with_reducible rfl)
        (try simp only [Act.put, List.setIfInBounds_toArray, List.set_cons_zero, List.set_cons_succ])
        refine wpAnyH_take (i := 3) (oi := ⟨some 29, _, _, _, _, _⟩) (v := ?_) rfl (by kernel_rfl) (by kernel_rfl) (by kernel_rfl) (fun _ _ _ h => h) (Or.inl ⟨by rfl, ?_⟩) (by assumption) ?_
        rotate_left
        · intro w hSw; (try dsimp only at hSw); go_simp <;> (with_reducible rfl)
        (try simp only [Act.put, List.setIfInBounds_toArray, List.set_cons_zero, List.set_cons_succ])
        refine wpAnyH_ready (rs := [4]) (by kernel_rfl) (by simp) ?_
        refine AllReadyH.cons (o := ⟨some 30, _, _, _, _, _⟩) rfl (fun K hK => ?_) AllReadyH.nil
        go_simp
        (with_reducible refine (HF.out _).mono ?_)
        rintro e1 u4 ⟨fi, rfl, ofi, b4⟩
        have b34 := hbD.trans (b4.mono hz3)
        refine hK.out _ _ (HS.out _ (b34.mono h3)) (fun hHeld2 => ?_)
        clear hK K
        (try simp only [Act.put, List.setIfInBounds_toArray, List.set_cons_zero, List.set_cons_succ])
        refine wpAnyH_ready (rs := [5]) (by kernel_rfl) (by simp) ?_
        refine AllReadyH.cons (o := ⟨some 31, _, _, _, _, _⟩) rfl (fun K hK => ?_) AllReadyH.nil
        go_simp
        (with_reducible refine (HH.out _ _ _ _ ofi (Nat.le_refl _)).mono ?_)
        rintro e2 u5 ⟨rfl, b5⟩
        have b35 := b34.trans (b5.mono b34.size)
        refine hK.out _ _ (HS.out _ (b35.mono h3)) (fun hHeld2 => ?_)
        clear hK K
        (try simp only [Act.put, List.setIfInBounds_toArray, List.set_cons_zero, List.set_cons_succ])
        refine wpAnyH_take (i := 6) (oi := ⟨some 32, _, _, _, _, _⟩) (v := ?_) rfl (by kernel_rfl) (by kernel_rfl) (by kernel_rfl) (fun _ _ _ h => h) (Or.inl ⟨by rfl, ?_⟩) (by assumption) ?_
        rotate_left
        · intro w hSw; (try dsimp only at hSw); go_simp <;> (with_reducible rfl)
        (try simp only [Act.put, List.setIfInBounds_toArray, List.set_cons_zero, List.set_cons_succ])
        refine wpAnyH_ready (rs := [7]) (by kernel_rfl) (by simp) ?_
        refine AllReadyH.cons (o := ⟨none, _, _, _, _, _⟩) rfl (fun K hK => ?_) AllReadyH.nil
        obtain ⟨⟨z0, z1, z2, z3, z4, z5, z6⟩, y0, y1, y2, y3, y4, y5, y6⟩ := (HL2.out.kept b35).res
        go_simp
        refine hK.out _ _ (HS.out _ ((((((((b35.mono h3).setCell (Nat.le_refl _) _).setCell (Nat.le_refl _) _).setCell (Nat.le_refl _) _).setCell (Nat.le_refl _) _).setCell (Nat.le_refl _) _).setCell (Nat.le_refl _) _).setCell (Nat.le_refl _) _)) (fun hHeld2 => ?_)
        clear hK K
        (try simp only [Act.put, List.setIfInBounds_toArray, List.set_cons_zero, List.set_cons_succ])
        refine wpAnyH_take (i := 8) (oi := ⟨some 5, _, _, _, _, _⟩) (v := ?_) rfl (by kernel_rfl) (by kernel_rfl) (by kernel_rfl) (fun _ _ _ h => h) (Or.inl ⟨by rfl, ?_⟩) (by assumption) ?_
        rotate_left
        · intro w hSw; (try dsimp only at hSw); go_simp <;> (with_reducible rfl)
        (try simp only [Act.put, List.setIfInBounds_toArray, List.set_cons_zero, List.set_cons_succ])
        refine wpAnyH_done (by kernel_rfl) ?_ _
        have d5 := d2.trans (b35.mono d2.size)
        go_wp2
        refine bodyPost_ret (v := .tuple #[.agg #[.int .i64 k1, .int .i64 k2, .int .i64 k3, .int .i64 i, .int .i64 k5, .int .i64 k6, .int .i64 (keyed s [k1, k2, k3, i, k5, k6])], .bool true]) (by simp [results, Tryz.results7, go_sem, z0, z1, z2, z3, z4, z5, z6]) rfl ⟨by rw [HV.out]; rfl, ?_⟩
        go_grown
set_option maxHeartbeats 8000000 in
set_option maxRecDepth 100000 in
theorem spec_stateFact (w : World) (hi c : Nat) (A : Option Addr) (i s k1 k2 k3 k4 k5 k6 : Int) (ks : List Int) (h : Row .i64 w hi (.slice A ks.length c) ks) (hh : hi ≤ w.heap.size) (hs : (Lit.int .i64 s).wf = true) (hwf : FactD.wf ⟨k1, k2, k3, i, k5, k6⟩) :
    Calls Tryz.prog 41 #[.agg #[.int .i64 i, .slice A ks.length c, .int .i64 s], .agg #[.int .i64 k1, .int .i64 k2, .int .i64 k3, .int .i64 k4, .int .i64 k5, .int .i64 k6]] w fun e w' => e = .returned (stateV ⟨i, ks, s⟩ ⟨k1, k2, k3, k4, k5, k6⟩) ∧ Below w.heap.size w w' := by
  obtain ⟨W, hW⟩ : ∃ W, W = ((w.alloc (.cells #[.int .i64 i, .slice A ks.length c, .int .i64 s] 26)).alloc (.cells #[.int .i64 k1, .int .i64 k2, .int .i64 k3, .int .i64 i, .int .i64 k5, .int .i64 k6] 28)).alloc (.cells #[.int .i64 0, .int .i64 0, .int .i64 0, .int .i64 0, .int .i64 0, .int .i64 0, .int .i64 0] 32) := ⟨_, rfl⟩
  have hB : Below w.heap.size w W := by rw [hW]; go_grown
  have HL := Lib.hid (show Laid3 W w.heap.size _ _ _ from hW ▸ laid3 w _ _ _)
  have H := Lib.hid (h.below hB hh)
  have hWs := hB.size
  obtain ⟨p, hp⟩ : ∃ p, issuerB ⟨i, ks, s⟩ = p := ⟨_, rfl⟩
  obtain ⟨q, hq⟩ : ∃ q, factB ⟨k1, k2, k3, i, k5, k6⟩ = q := ⟨_, rfl⟩
  obtain ⟨r, hr⟩ : ∃ r, hasK ks k1 = r := ⟨_, rfl⟩
  have HV := Lib.hid (show stateV ⟨i, ks, s⟩ ⟨k1, k2, k3, k4, k5, k6⟩ = if p && (q && r) then .tuple #[.agg #[.int .i64 k1, .int .i64 k2, .int .i64 k3, .int .i64 i, .int .i64 k5, .int .i64 k6, .int .i64 (keyed s [k1, k2, k3, i, k5, k6])], .bool true] else .tuple #[.agg #[.int .i64 0, .int .i64 0, .int .i64 0, .int .i64 0, .int .i64 0, .int .i64 0, .int .i64 0], .bool false] by
    rw [← hp, ← hq, ← hr]
    rfl)
  have HP := Lib.hid (fun (U : World) (hb : Below W.heap.size W U) => show Calls Tryz.prog 74 #[.agg #[.int .i64 i, .slice A ks.length c, .int .i64 s]] U fun e w' => e = .returned (.bool p) ∧ Below U.heap.size U w' from hp ▸ spec_isIssuer U hi i s _ ks (H.out.below hb (Nat.le_trans hh hWs)) (Nat.le_trans (Nat.le_trans hh hWs) hb.size))
  have HQ := Lib.hid (fun U => show Calls Tryz.prog 75 #[.agg #[.int .i64 k1, .int .i64 k2, .int .i64 k3, .int .i64 i, .int .i64 k5, .int .i64 k6]] U fun e w' => e = .returned (.bool q) ∧ Below U.heap.size U w' from hq ▸ spec_isFact ⟨k1, k2, k3, i, k5, k6⟩ U)
  have HR := Lib.hid hr
  have HF := Lib.hid (fun U => show Calls Tryz.prog 77 #[.agg #[.int .i64 k1, .int .i64 k2, .int .i64 k3, .int .i64 i, .int .i64 k5, .int .i64 k6]] U fun e w' => ∃ u, e = .returned u ∧ Own 3 .i64 w' U.heap.size w'.heap.size u [k1, k2, k3, i, k5, k6] ∧ Below U.heap.size U w' from spec_factInts U ⟨k1, k2, k3, i, k5, k6⟩ hwf)
  have HH := Lib.hid (fun (U : World) (lo hi : Nat) (v : Value) (o : Own 3 .i64 U lo hi v [k1, k2, k3, i, k5, k6]) (hh : hi ≤ U.heap.size) => spec_keyed U hi s v [k1, k2, k3, i, k5, k6] hs o.read hh (by show 6 ≤ _; decide))
  clear h hp hq hr hwf hs
  obtain ⟨A', c', e0, m1, m2, -⟩ := id H.out.form
  injection e0 with e0 e1 e2
  subst e0 e2
  unfold maxLen at m2
  go_enter Tryz.func41, Tryz.ntmps41
  go_upto_region 2 with fail
  rw [← hW]
  clear hW
  go_wp2
  go_loopw [6, 7] (fun m i wr => ∃ (k : Nat) (b : Bool), k ≤ ks.length ∧ i = .int .i64 (k : Int) ∧ m = .bool b ∧ Hid (hasK (ks.take k) k1 = b) ∧ Below W.heap.size W wr) (fun _ i _ => ks.length - (intOf i).toNat)
  case atStart => exact ⟨0, false, Nat.zero_le _, rfl, rfl, Lib.hid (by simp [hasK]), Below.refl _ _⟩
  case round =>
    obtain ⟨k, m, hk, rfl, rfl, HM, hb⟩ := hrel
    have HLr := Lib.hid (HL.out.kept hb)
    obtain ⟨x0, x1, x2⟩ := HLr.out.issuer
    obtain ⟨f0, f1, f2, f3, f4, f5⟩ := HLr.out.fact
    by_cases hlt : k < ks.length
    · obtain ⟨y, hy⟩ : ∃ y, ks[k]? = some y := ⟨_, List.getElem?_eq_getElem hlt⟩
      obtain ⟨b, off, rfl, g1, g2, c0⟩ := Row.cellAt (H.out.below hb (Nat.le_trans hh hWs)) hy
      have HT := Lib.hid (hasK_take hy k1)
      have HB := Lib.hid hb
      clear hy
      cases m
      · by_cases hq : y = k1
        · subst hq
          have HN := Lib.hid (show hasK (ks.take (k + 1)) y = true by rw [HT.out]; simp)
          go_wp2_with fail
          go_quiet (fail)
          go_wp2
          exact ⟨⟨k + 1, true, by omega, by go_num, rfl, HN.out, bDrew HB.out _⟩, by simp only [intOf]; omega⟩
        · have hd : (y == k1) = false := by rw [beq_eq_false_iff_ne]; exact hq
          have HN := Lib.hid (show hasK (ks.take (k + 1)) k1 = false by rw [HT.out, HM.out]; simp [hq])
          clear hq
          go_wp2_with fail
          go_quiet (fail)
          go_wp2
          exact ⟨⟨k + 1, false, by omega, by go_num, rfl, HN.out, bDrew HB.out _⟩, by simp only [intOf]; omega⟩
      · have HN := Lib.hid (show hasK (ks.take (k + 1)) k1 = true by rw [HT.out, HM.out]; rfl)
        go_wp2_with fail
        go_quiet (fail)
        go_wp2
        exact ⟨⟨k + 1, true, by omega, by go_num, rfl, HN.out, bDrew HB.out _⟩, by simp only [intOf]; omega⟩
    · obtain rfl : m = r := by
        have h7 := HM.out
        rw [List.take_of_length_le (by omega)] at h7
        rw [← h7, HR.out]
      have d0 := hB.trans (hb.mono hWs)
      go_wp2_with fail
      refine (HP.out _ hb).mono ?_
      rintro e u1 ⟨rfl, b1⟩
      have b01 := hb.trans (b1.mono hb.size)
      have d1 := hB.trans (b01.mono hWs)
      have HL1 := Lib.hid (HL.out.kept b01)
      clear x0 x1 x2 f0 f1 f2 f3 f4 f5
      cases p
      · skip
        obtain ⟨⟨z0, z1, z2, z3, z4, z5, z6⟩, y0, y1, y2, y3, y4, y5, y6⟩ := HL1.out.res
        go_wp2
        refine bodyPost_ret (v := .tuple #[.agg #[.int .i64 0, .int .i64 0, .int .i64 0, .int .i64 0, .int .i64 0, .int .i64 0, .int .i64 0], .bool false]) (by simp [results, Tryz.results41, go_sem, z0, z1, z2, z3, z4, z5, z6]) rfl ⟨by rw [HV.out]; rfl, ?_⟩
        go_grown
      · obtain ⟨f0, f1, f2, f3, f4, f5⟩ := HL1.out.fact
        go_wp2_with fail
        refine (HQ.out _).mono ?_
        rintro e u3 ⟨rfl, b2⟩
        have b12 := b01.trans (b2.mono b01.size)
        have d2 := hB.trans (b12.mono hWs)
        have HL2 := Lib.hid (HL.out.kept b12)
        clear f0 f1 f2 f3 f4 f5
        cases q
        · skip
          obtain ⟨⟨z0, z1, z2, z3, z4, z5, z6⟩, y0, y1, y2, y3, y4, y5, y6⟩ := HL2.out.res
          go_wp2
          refine bodyPost_ret (v := .tuple #[.agg #[.int .i64 0, .int .i64 0, .int .i64 0, .int .i64 0, .int .i64 0, .int .i64 0, .int .i64 0], .bool false]) (by simp [results, Tryz.results41, go_sem, z0, z1, z2, z3, z4, z5, z6]) rfl ⟨by rw [HV.out]; rfl, ?_⟩
          go_grown
        · cases m
          · skip
            obtain ⟨⟨z0, z1, z2, z3, z4, z5, z6⟩, y0, y1, y2, y3, y4, y5, y6⟩ := HL2.out.res
            go_wp2
            refine bodyPost_ret (v := .tuple #[.agg #[.int .i64 0, .int .i64 0, .int .i64 0, .int .i64 0, .int .i64 0, .int .i64 0, .int .i64 0], .bool false]) (by simp [results, Tryz.results41, go_sem, z0, z1, z2, z3, z4, z5, z6]) rfl ⟨by rw [HV.out]; rfl, ?_⟩
            go_grown
          · have HS := Lib.hid (fun (U : World) (hb : Below (w.heap.size + 1 + 1) u3 U) => (⟨(HL2.out.low hb).1, (HL2.out.low hb).2, hb⟩ : (U.cell? ⟨w.heap.size, 0, none⟩ = some (.int .i64 i) ∧ U.cell? ⟨w.heap.size, 1, none⟩ = some (.slice A ks.length c) ∧ U.cell? ⟨w.heap.size, 2, none⟩ = some (.int .i64 s)) ∧ (U.cell? ⟨w.heap.size + 1, 0, none⟩ = some (.int .i64 k1) ∧ U.cell? ⟨w.heap.size + 1, 1, none⟩ = some (.int .i64 k2) ∧ U.cell? ⟨w.heap.size + 1, 2, none⟩ = some (.int .i64 k3) ∧ U.cell? ⟨w.heap.size + 1, 3, none⟩ = some (.int .i64 i) ∧ U.cell? ⟨w.heap.size + 1, 4, none⟩ = some (.int .i64 k5) ∧ U.cell? ⟨w.heap.size + 1, 5, none⟩ = some (.int .i64 k6)) ∧ Below (w.heap.size + 1 + 1) u3 U))
            have hbD : Below u3.heap.size u3 u3.drew := (Below.refl _ _).drew
            have hz3 : u3.heap.size ≤ u3.drew.heap.size := Nat.le_refl _
            have h3 := Nat.le_of_lt HL2.out.hi
            go_upto_region 9 with fail
            refine wp_region_held_drew (S := fun U => (U.cell? ⟨w.heap.size, 0, none⟩ = some (.int .i64 i) ∧ U.cell? ⟨w.heap.size, 1, none⟩ = some (.slice A ks.length c) ∧ U.cell? ⟨w.heap.size, 2, none⟩ = some (.int .i64 s)) ∧ (U.cell? ⟨w.heap.size + 1, 0, none⟩ = some (.int .i64 k1) ∧ U.cell? ⟨w.heap.size + 1, 1, none⟩ = some (.int .i64 k2) ∧ U.cell? ⟨w.heap.size + 1, 2, none⟩ = some (.int .i64 k3) ∧ U.cell? ⟨w.heap.size + 1, 3, none⟩ = some (.int .i64 i) ∧ U.cell? ⟨w.heap.size + 1, 4, none⟩ = some (.int .i64 k5) ∧ U.cell? ⟨w.heap.size + 1, 5, none⟩ = some (.int .i64 k6)) ∧ Below (w.heap.size + 1 + 1) u3 U) (by kernel_rfl) (HS.out _ (hbD.mono h3)) (fun hHeld => ?_)
            refine wpAnyH_take (i := 0) (oi := ⟨some 42, _, _, _, _, _⟩) (v := ?_) rfl (by kernel_rfl) (by kernel_rfl) (by kernel_rfl) (fun _ _ _ h => h) (Or.inl ⟨by rfl, ?_⟩) (by assumption) ?_
            rotate_left
            · intro w hSw; (try dsimp only at hSw); go_simp <;> (with_reducible rfl)
            (try simp only [Act.put, List.setIfInBounds_toArray, List.set_cons_zero, List.set_cons_succ])
            refine wpAnyH_take (i := 1) (oi := ⟨some 43, _, _, _, _, _⟩) (v := ?_) rfl (by kernel_rfl) (by kernel_rfl) (by kernel_rfl) (fun _ _ _ h => h) (Or.inl ⟨by rfl, ?_⟩) (by assumption) ?_
            rotate_left
            · intro w hSw; (try dsimp only at hSw); go_simp <;> (with_reducible rfl)
            (try simp only [Act.put, List.setIfInBounds_toArray, List.set_cons_zero, List.set_cons_succ])
            refine wpAnyH_take (i := 2) (oi := ⟨some 44, _, _, _, _, _⟩) (v := ?_) rfl (by kernel_rfl) (by kernel_rfl) (by kernel_rfl) (fun _ _ _ h => h) (Or.inl ⟨by rfl, ?_⟩) (by assumption) ?_
            rotate_left
            · intro w hSw; (try dsimp only at hSw); go_simp <;> (with_reducible rfl)
            (try simp only [Act.put, List.setIfInBounds_toArray, List.set_cons_zero, List.set_cons_succ])
            refine wpAnyH_take (i := 3) (oi := ⟨some 45, _, _, _, _, _⟩) (v := ?_) rfl (by kernel_rfl) (by kernel_rfl) (by kernel_rfl) (fun _ _ _ h => h) (Or.inl ⟨by rfl, ?_⟩) (by assumption) ?_
            rotate_left
            · intro w hSw; (try dsimp only at hSw); go_simp <;> (with_reducible rfl)
            (try simp only [Act.put, List.setIfInBounds_toArray, List.set_cons_zero, List.set_cons_succ])
            refine wpAnyH_ready (rs := [4]) (by kernel_rfl) (by simp) ?_
            refine AllReadyH.cons (o := ⟨some 46, _, _, _, _, _⟩) rfl (fun K hK => ?_) AllReadyH.nil
            go_simp
            (with_reducible refine (HF.out _).mono ?_)
            rintro e1 u4 ⟨fi, rfl, ofi, b4⟩
            have b34 := hbD.trans (b4.mono hz3)
            refine hK.out _ _ (HS.out _ (b34.mono h3)) (fun hHeld2 => ?_)
            clear hK K
            (try simp only [Act.put, List.setIfInBounds_toArray, List.set_cons_zero, List.set_cons_succ])
            refine wpAnyH_ready (rs := [5]) (by kernel_rfl) (by simp) ?_
            refine AllReadyH.cons (o := ⟨some 47, _, _, _, _, _⟩) rfl (fun K hK => ?_) AllReadyH.nil
            go_simp
            (with_reducible refine (HH.out _ _ _ _ ofi (Nat.le_refl _)).mono ?_)
            rintro e2 u5 ⟨rfl, b5⟩
            have b35 := b34.trans (b5.mono b34.size)
            refine hK.out _ _ (HS.out _ (b35.mono h3)) (fun hHeld2 => ?_)
            clear hK K
            (try simp only [Act.put, List.setIfInBounds_toArray, List.set_cons_zero, List.set_cons_succ])
            refine wpAnyH_take (i := 6) (oi := ⟨some 48, _, _, _, _, _⟩) (v := ?_) rfl (by kernel_rfl) (by kernel_rfl) (by kernel_rfl) (fun _ _ _ h => h) (Or.inl ⟨by rfl, ?_⟩) (by assumption) ?_
            rotate_left
            · intro w hSw; (try dsimp only at hSw); go_simp <;> (with_reducible rfl)
            (try simp only [Act.put, List.setIfInBounds_toArray, List.set_cons_zero, List.set_cons_succ])
            refine wpAnyH_ready (rs := [7]) (by kernel_rfl) (by simp) ?_
            refine AllReadyH.cons (o := ⟨none, _, _, _, _, _⟩) rfl (fun K hK => ?_) AllReadyH.nil
            obtain ⟨⟨z0, z1, z2, z3, z4, z5, z6⟩, y0, y1, y2, y3, y4, y5, y6⟩ := (HL2.out.kept b35).res
            go_simp
            refine hK.out _ _ (HS.out _ ((((((((b35.mono h3).setCell (Nat.le_refl _) _).setCell (Nat.le_refl _) _).setCell (Nat.le_refl _) _).setCell (Nat.le_refl _) _).setCell (Nat.le_refl _) _).setCell (Nat.le_refl _) _).setCell (Nat.le_refl _) _)) (fun hHeld2 => ?_)
            clear hK K
            (try simp only [Act.put, List.setIfInBounds_toArray, List.set_cons_zero, List.set_cons_succ])
            refine wpAnyH_take (i := 8) (oi := ⟨some 5, _, _, _, _, _⟩) (v := ?_) rfl (by kernel_rfl) (by kernel_rfl) (by kernel_rfl) (fun _ _ _ h => h) (Or.inl ⟨by rfl, ?_⟩) (by assumption) ?_
            rotate_left
            · intro w hSw; (try dsimp only at hSw); go_simp <;> (with_reducible rfl)
            (try simp only [Act.put, List.setIfInBounds_toArray, List.set_cons_zero, List.set_cons_succ])
            refine wpAnyH_done (by kernel_rfl) ?_ _
            have d5 := d2.trans (b35.mono d2.size)
            go_wp2
            refine bodyPost_ret (v := .tuple #[.agg #[.int .i64 k1, .int .i64 k2, .int .i64 k3, .int .i64 i, .int .i64 k5, .int .i64 k6, .int .i64 (keyed s [k1, k2, k3, i, k5, k6])], .bool true]) (by simp [results, Tryz.results41, go_sem, z0, z1, z2, z3, z4, z5, z6]) rfl ⟨by rw [HV.out]; rfl, ?_⟩
            go_grown
end Go.Proofs.YtjfmmingkciapaaGreatDoor
