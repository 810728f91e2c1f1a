/- Roles (chapter 14): contracts of the landed functions: ArePairs. No condition but the bounds of what came in. -/
import Derived.Test.YthldppmdhkifbaaRoleK
import Derived.Deep.QuietTactic
namespace Go.Proofs.Ythldppmdhkifbaa
open Go.ChangeShapes Go.WideShapes Go.ChangeAt Go.RowKit
set_option linter.unusedVariables false

set_option maxHeartbeats 4000000 in
set_option maxRecDepth 100000 in
theorem impl_arePairs (w : World) (hi c : Nat) (a : Option Addr) (xs : List IncludesD) (h : RowIncludes w hi (.slice a xs.length c) xs) (hh : hi ≤ w.heap.size) :
    Calls Try.prog 18 #[.slice a xs.length c] w fun e w' => e = .returned (.bool (Role.pairsB (Role.prs xs))) ∧ Below w.heap.size w w' := by
  obtain ⟨f1, f2⟩ := h.fits
  unfold maxLen at f2
  have H := Lib.hid h
  have CRF := Lib.hid (fun (U : World) (hU : Below w.heap.size w U) (p : Int) => show Calls Try.prog 46 #[.slice a xs.length c, .slice (some ⟨U.heap.size, 0, none⟩) 1 1] (U.alloc (.cells #[.int .i64 p] 3)) fun e w' => (∃ n : Role.Marks, n = Role.closedM (Role.prs xs) [p] ∧ e = .returned (.agg #[.bool (n 0), .bool (n 1), .bool (n 2), .bool (n 3), .bool (n 4), .bool (n 5)])) ∧ Below (U.alloc (.cells #[.int .i64 p] 3)).heap.size (U.alloc (.cells #[.int .i64 p] 3)) w' from
    impl_reachedFrom (U.alloc (.cells #[.int .i64 p] 3)) hi (U.heap.size + 1) c 1 a (some ⟨U.heap.size, 0, none⟩) xs [p] (h.below (hU.alloc hU.size _) hh) (Nat.le_trans hh (hU.alloc hU.size _).size) (rowI_one 3 U p) (by simp))
  clear h
  obtain ⟨R, hR⟩ : ∃ R, Role.pairsB (Role.prs xs) = R := ⟨_, rfl⟩
  rw [hR]
  by_cases hlen : xs.length ≤ 10
  · have HR := Lib.hid (show R = Role.pairsFrom xs 0 by rw [← hR]; exact Role.pairsFrom_zero xs)
    clear hR
    go_enter Try.func18, Try.ntmps18
    go_wp2
    go_loopw [10] (fun i wr => ∃ k : Nat, k ≤ xs.length ∧ i = .int .i64 (k : Int) ∧ Hid (R = Role.pairsFrom xs k) ∧ Below w.heap.size w wr) (fun i _ => xs.length - (intOf i).toNat)
    case atStart => exact ⟨0, Nat.zero_le _, rfl, HR, Below.refl _ _⟩
    case round =>
      clear HR
      obtain ⟨k, hk, rfl, HI, hb⟩ := hrel
      by_cases hlt : k < xs.length
      · obtain ⟨x, hx⟩ : ∃ x, xs[k]? = some x := ⟨_, List.getElem?_eq_getElem hlt⟩
        have HS := Lib.hid (Role.pairsFrom_at hx)
        obtain ⟨p0, p1⟩ := x
        obtain ⟨b, off, rfl, g1, g2, HC⟩ := H.out.at hx
        obtain ⟨c0, c1⟩ := HC _ _ g2 hb
        clear HC hx
        dsimp only at HS
        obtain ⟨V, hV⟩ : ∃ V, V = wr.alloc (.cells #[.int .i64 p0, .int .i64 p1] 74) := ⟨_, rfl⟩
        have hbV : Below w.heap.size w V := by rw [hV]; exact hb.alloc hb.size _
        have HBK := Lib.hid (show V.heap[wr.heap.size]? = some (.cells #[.int .i64 p0, .int .i64 p1] 74) by rw [hV]; exact blk_new _ _ _)
        have hR := Below.refl V.heap.size V
        have HO := Lib.hid (fun W => impl_isOfRoles p0 p1 W)
        have HP := Lib.hid (show Role.okP (p0, p1) = true → R = (!(Role.inR p0 && Role.closedM (Role.prs xs) [p1] p0) && Role.pairsFrom xs (k + 1)) by
          intro ho
          rw [HI.out, HS.out]
          unfold Role.pairOne
          unfold Role.okP at ho
          rw [Bool.and_eq_true] at ho
          rw [Role.under_has ho.2 ho.1, show Role.okP (p0, p1) = true by unfold Role.okP; rw [ho.1, ho.2]; rfl, ho.1]
          rfl)
        have HQ := Lib.hid (show Role.okP (p0, p1) = false → R = false by
          intro ho
          rw [HI.out, HS.out]
          unfold Role.pairOne
          rw [ho]
          rfl)
        have CRF2 := Lib.hid (fun (U : World) (hU : Below V.heap.size V U) => CRF.out U (hbV.trans (hU.mono hbV.size)) p1)
        generalize Role.closedM (Role.prs xs) [p1] = M at HP CRF2
        obtain ⟨v1, hv1⟩ : ∃ v1, Role.okP (p0, p1) = v1 := ⟨_, rfl⟩
        rw [hv1] at HO HP HQ
        clear hv1 HS
        cases v1
        · have HF := Lib.hid (HQ.out rfl)
          clear HP HQ
          go_upto_region 6 with fail
          rw [← hV]
          clear hV c0 c1
          have HC6 := Lib.hid (fun (uu : World) (hb : Below V.heap.size V uu) => (⟨blk_cell (blk_keep HBK.out hb (blk_lt HBK.out)) 0 rfl, blk_cell (blk_keep HBK.out hb (blk_lt HBK.out)) 1 rfl, hb⟩ : uu.cell? ⟨wr.heap.size, 0, none⟩ = some (.int .i64 p0) ∧ uu.cell? ⟨wr.heap.size, 1, none⟩ = some (.int .i64 p1) ∧ Below V.heap.size V uu))
          have hD6 := (hR).drew
          refine wp_region_held_drew (S := fun uu => uu.cell? ⟨wr.heap.size, 0, none⟩ = some (.int .i64 p0) ∧ uu.cell? ⟨wr.heap.size, 1, none⟩ = some (.int .i64 p1) ∧ Below V.heap.size V uu) (by kernel_rfl) (HC6.out _ hD6) (fun hHeld => ?_)
          refine wpAnyH_take (i := 0) (oi := ⟨some 14, _, _, _, _, _⟩) (v := ?_) rfl (by kernel_rfl) (by kernel_rfl) (by kernel_rfl) (fun _ _ _ h => h) (Or.inl ⟨by rfl, ?_⟩) (by assumption) ?_
          rotate_left
          · intro w hSw; (try dsimp only at hSw); go_simp <;> (with_reducible rfl)
          (try simp only [Act.put, List.setIfInBounds_toArray, List.set_cons_zero, List.set_cons_succ])
          refine wpAnyH_ready (rs := [1]) (by kernel_rfl) (by simp) ?_
          refine AllReadyH.cons (o := ⟨some 15, _, _, _, _, _⟩) rfl (fun K hK => ?_) AllReadyH.nil
          go_simp
          (with_reducible refine (HO.out _).mono ?_)
          rintro e15 u15 ⟨rfl, b15⟩
          have d15 : Below V.heap.size V u15 := hD6.trans (b15.mono hD6.size)
          refine hK.out _ _ (HC6.out _ d15) (fun hHeld2 => ?_)
          clear hK K
          (try simp only [Act.put, List.setIfInBounds_toArray, List.set_cons_zero, List.set_cons_succ])
          refine wpAnyH_take (i := 2) (oi := ⟨some 16, _, _, _, _, _⟩) (v := ?_) rfl (by kernel_rfl) (by kernel_rfl) (by kernel_rfl) (fun _ _ _ h => h) (Or.inl ⟨by rfl, ?_⟩) (by assumption) ?_
          rotate_left
          · intro w hSw; (try dsimp only at hSw); go_simp <;> (with_reducible rfl)
          (try simp only [Act.put, List.setIfInBounds_toArray, List.set_cons_zero, List.set_cons_succ])
          refine wpAnyH_take (i := 3) (oi := ⟨some 17, _, _, _, _, _⟩) (v := ?_) rfl (by kernel_rfl) (by kernel_rfl) (by kernel_rfl) (fun _ _ _ h => h) (Or.inl ⟨by rfl, ?_⟩) (by assumption) ?_
          rotate_left
          · intro w hSw; (try dsimp only at hSw); go_simp <;> (with_reducible rfl)
          (try simp only [Act.put, List.setIfInBounds_toArray, List.set_cons_zero, List.set_cons_succ])
          refine wpAnyH_take (i := 4) (oi := ⟨some 18, _, _, _, _, _⟩) (v := undef) rfl (by kernel_rfl) (by kernel_rfl) (by kernel_rfl) (fun _ _ _ h => h) (.inr ⟨by rfl, rfl⟩) (by assumption) ?_
          (try simp only [Act.put, List.setIfInBounds_toArray, List.set_cons_zero, List.set_cons_succ])
          refine wpAnyH_take (i := 5) (oi := ⟨some 19, _, _, _, _, _⟩) (v := undef) rfl (by kernel_rfl) (by kernel_rfl) (by kernel_rfl) (fun _ _ _ h => h) (.inr ⟨by rfl, rfl⟩) (by assumption) ?_
          (try simp only [Act.put, List.setIfInBounds_toArray, List.set_cons_zero, List.set_cons_succ])
          refine wpAnyH_take (i := 6) (oi := ⟨some 20, _, _, _, _, _⟩) (v := undef) rfl (by kernel_rfl) (by kernel_rfl) (by kernel_rfl) (fun _ _ _ h => h) (.inr ⟨by rfl, rfl⟩) (by assumption) ?_
          (try simp only [Act.put, List.setIfInBounds_toArray, List.set_cons_zero, List.set_cons_succ])
          refine wpAnyH_take (i := 7) (oi := ⟨some 21, _, _, _, _, _⟩) (v := undef) rfl (by kernel_rfl) (by kernel_rfl) (by kernel_rfl) (fun _ _ _ h => h) (.inr ⟨by rfl, rfl⟩) (by assumption) ?_
          (try simp only [Act.put, List.setIfInBounds_toArray, List.set_cons_zero, List.set_cons_succ])
          refine wpAnyH_take (i := 8) (oi := ⟨some 22, _, _, _, _, _⟩) (v := undef) rfl (by kernel_rfl) (by kernel_rfl) (by kernel_rfl) (fun _ _ _ h => h) (.inr ⟨by rfl, rfl⟩) (by assumption) ?_
          (try simp only [Act.put, List.setIfInBounds_toArray, List.set_cons_zero, List.set_cons_succ])
          refine wpAnyH_take (i := 9) (oi := ⟨some 23, _, _, _, _, _⟩) (v := undef) rfl (by kernel_rfl) (by kernel_rfl) (by kernel_rfl) (fun _ _ _ h => h) (.inr ⟨by rfl, rfl⟩) (by assumption) ?_
          (try simp only [Act.put, List.setIfInBounds_toArray, List.set_cons_zero, List.set_cons_succ])
          refine wpAnyH_take (i := 10) (oi := ⟨some 24, _, _, _, _, _⟩) (v := undef) rfl (by kernel_rfl) (by kernel_rfl) (by kernel_rfl) (fun _ _ _ h => h) (.inr ⟨by rfl, rfl⟩) (by assumption) ?_
          (try simp only [Act.put, List.setIfInBounds_toArray, List.set_cons_zero, List.set_cons_succ])
          refine wpAnyH_take (i := 11) (oi := ⟨some 25, _, _, _, _, _⟩) (v := undef) rfl (by kernel_rfl) (by kernel_rfl) (by kernel_rfl) (fun _ _ _ h => h) (.inr ⟨by rfl, rfl⟩) (by assumption) ?_
          (try simp only [Act.put, List.setIfInBounds_toArray, List.set_cons_zero, List.set_cons_succ])
          refine wpAnyH_take (i := 12) (oi := ⟨some 26, _, _, _, _, _⟩) (v := ?_) rfl (by kernel_rfl) (by kernel_rfl) (by kernel_rfl) (fun _ _ _ h => h) (Or.inl ⟨by rfl, ?_⟩) (by assumption) ?_
          rotate_left
          · intro w hSw; (try dsimp only at hSw); go_simp <;> (with_reducible rfl)
          (try simp only [Act.put, List.setIfInBounds_toArray, List.set_cons_zero, List.set_cons_succ])
          refine wpAnyH_done (by kernel_rfl) ?_ _
          go_wp2
          go_ret
          exact ⟨ret_b HF.out.symm, hbV.trans (d15.mono hbV.size)⟩
        · have HF := Lib.hid (HP.out rfl)
          clear HP HQ
          obtain ⟨v, hv⟩ : ∃ v, (Role.inR p0 && M p0) = v := ⟨_, rfl⟩
          rw [hv] at HF
          have HH := Lib.hid (fun (n : Role.Marks) (hn : n = M) W => show Calls Try.prog 47 #[.agg #[.bool (n 0), .bool (n 1), .bool (n 2), .bool (n 3), .bool (n 4), .bool (n 5)], .int .i64 p0] W fun e w' => e = .returned (.bool v) ∧ Below W.heap.size W w' by
            have h := impl_has n p0 W
            rw [hn, hv] at h
            rw [hn]
            exact h)
          clear hv
          go_upto_region 6 with fail
          rw [← hV]
          clear hV c0 c1
          have HC6 := Lib.hid (fun (uu : World) (hb : Below V.heap.size V uu) => (⟨blk_cell (blk_keep HBK.out hb (blk_lt HBK.out)) 0 rfl, blk_cell (blk_keep HBK.out hb (blk_lt HBK.out)) 1 rfl, hb⟩ : uu.cell? ⟨wr.heap.size, 0, none⟩ = some (.int .i64 p0) ∧ uu.cell? ⟨wr.heap.size, 1, none⟩ = some (.int .i64 p1) ∧ Below V.heap.size V uu))
          have hD6 := hR.drew
          cases v
          all_goals
            refine wp_region_held_drew (S := fun uu => uu.cell? ⟨wr.heap.size, 0, none⟩ = some (.int .i64 p0) ∧ uu.cell? ⟨wr.heap.size, 1, none⟩ = some (.int .i64 p1) ∧ Below V.heap.size V uu) (by kernel_rfl) (HC6.out _ hD6) (fun hHeld => ?_)
            refine wpAnyH_take (i := 0) (oi := ⟨some 14, _, _, _, _, _⟩) (v := ?_) rfl (by kernel_rfl) (by kernel_rfl) (by kernel_rfl) (fun _ _ _ h => h) (Or.inl ⟨by rfl, ?_⟩) (by assumption) ?_
            rotate_left
            · intro w hSw; (try dsimp only at hSw); go_simp <;> (with_reducible rfl)
            (try simp only [Act.put, List.setIfInBounds_toArray, List.set_cons_zero, List.set_cons_succ])
            refine wpAnyH_ready (rs := [1]) (by kernel_rfl) (by simp) ?_
            refine AllReadyH.cons (o := ⟨some 15, _, _, _, _, _⟩) rfl (fun K hK => ?_) AllReadyH.nil
            go_simp
            (with_reducible refine (HO.out _).mono ?_)
            rintro e15 u15 ⟨rfl, b15⟩
            have d15 : Below V.heap.size V u15 := hD6.trans (b15.mono hD6.size)
            refine hK.out _ _ (HC6.out _ d15) (fun hHeld2 => ?_)
            clear hK K
            (try simp only [Act.put, List.setIfInBounds_toArray, List.set_cons_zero, List.set_cons_succ])
            refine wpAnyH_take (i := 2) (oi := ⟨some 16, _, _, _, _, _⟩) (v := ?_) rfl (by kernel_rfl) (by kernel_rfl) (by kernel_rfl) (fun _ _ _ h => h) (Or.inl ⟨by rfl, ?_⟩) (by assumption) ?_
            rotate_left
            · intro w hSw; (try dsimp only at hSw); go_simp <;> (with_reducible rfl)
            (try simp only [Act.put, List.setIfInBounds_toArray, List.set_cons_zero, List.set_cons_succ])
            refine wpAnyH_take (i := 3) (oi := ⟨some 17, _, _, _, _, _⟩) (v := ?_) rfl (by kernel_rfl) (by kernel_rfl) (by kernel_rfl) (fun _ _ _ h => h) (Or.inl ⟨by rfl, ?_⟩) (by assumption) ?_
            rotate_left
            · intro w hSw; (try dsimp only at hSw); go_simp <;> (with_reducible rfl)
            (try simp only [Act.put, List.setIfInBounds_toArray, List.set_cons_zero, List.set_cons_succ])
            refine wpAnyH_take (i := 4) (oi := ⟨some 18, _, _, _, _, _⟩) (v := ?_) rfl (by kernel_rfl) (by kernel_rfl) (by kernel_rfl) (fun _ _ _ h => h) (Or.inl ⟨by rfl, ?_⟩) (by assumption) ?_
            rotate_left
            · intro w hSw; (try dsimp only at hSw); go_simp <;> (with_reducible rfl)
            (try simp only [Act.put, List.setIfInBounds_toArray, List.set_cons_zero, List.set_cons_succ])
            refine wpAnyH_take (i := 5) (oi := ⟨some 19, _, _, _, _, _⟩) (v := ?_) rfl (by kernel_rfl) (by kernel_rfl) (by kernel_rfl) (fun _ _ _ h => h) (Or.inl ⟨by rfl, ?_⟩) (by assumption) ?_
            rotate_left
            · intro w hSw; (try dsimp only at hSw); go_simp <;> (with_reducible rfl)
            (try simp only [Act.put, List.setIfInBounds_toArray, List.set_cons_zero, List.set_cons_succ])
            refine wpAnyH_take (i := 6) (oi := ⟨some 20, _, _, _, _, _⟩) (v := ?_) rfl (by kernel_rfl) (by kernel_rfl) (by kernel_rfl) (fun _ _ _ h => h) (Or.inl ⟨by rfl, ?_⟩) (by assumption) ?_
            rotate_left
            · intro w hSw; (try dsimp only at hSw); go_simp <;> (with_reducible rfl)
            (try simp only [Act.put, List.setIfInBounds_toArray, List.set_cons_zero, List.set_cons_succ])
            refine wpAnyH_take (i := 9) (oi := ⟨some 23, _, _, _, _, _⟩) (v := ?_) rfl (by kernel_rfl) (by kernel_rfl) (by kernel_rfl) (fun _ _ _ h => h) (Or.inl ⟨by rfl, ?_⟩) (by assumption) ?_
            rotate_left
            · intro w hSw; (try dsimp only at hSw); go_simp <;> (with_reducible rfl)
            (try simp only [Act.put, List.setIfInBounds_toArray, List.set_cons_zero, List.set_cons_succ])
            refine wpAnyH_take (i := 10) (oi := ⟨some 24, _, _, _, _, _⟩) (v := ?_) rfl (by kernel_rfl) (by kernel_rfl) (by kernel_rfl) (fun _ _ _ h => h) (Or.inl ⟨by rfl, ?_⟩) (by assumption) ?_
            rotate_left
            · intro w hSw; (try dsimp only at hSw); go_simp <;> (with_reducible rfl)
            (try simp only [Act.put, List.setIfInBounds_toArray, List.set_cons_zero, List.set_cons_succ])
            refine wpAnyH_ready (rs := [7]) (by kernel_rfl) (by simp) ?_
            refine AllReadyH.cons (o := ⟨some 21, _, _, _, _, _⟩) rfl (fun K hK => ?_) AllReadyH.nil
            have d21 := d15.alloc d15.size (.cells #[.int .i64 p1] 3)
            go_simp
            refine hK.out _ _ (HC6.out _ d21) (fun hHeld2 => ?_)
            clear hK K
            (try simp only [Act.put, List.setIfInBounds_toArray, List.set_cons_zero, List.set_cons_succ])
            refine wpAnyH_ready (rs := [8]) (by kernel_rfl) (by simp) ?_
            refine AllReadyH.cons (o := ⟨some 22, _, _, _, _, _⟩) rfl (fun K hK => ?_) AllReadyH.nil
            go_simp
            (with_reducible refine (CRF2.out _ d15).mono ?_)
            rintro e22 u22 ⟨⟨n, hn, rfl⟩, b22⟩
            have d22 : Below V.heap.size V u22 := d21.trans (b22.mono d21.size)
            refine hK.out _ _ (HC6.out _ d22) (fun hHeld2 => ?_)
            clear hK K
            (try simp only [Act.put, List.setIfInBounds_toArray, List.set_cons_zero, List.set_cons_succ])
            refine wpAnyH_ready (rs := [11]) (by kernel_rfl) (by simp) ?_
            refine AllReadyH.cons (o := ⟨some 25, _, _, _, _, _⟩) rfl (fun K hK => ?_) AllReadyH.nil
            go_simp
            (with_reducible refine (HH.out M rfl _).mono ?_)
            rintro e25 u25 ⟨rfl, b25⟩
            have d25 : Below V.heap.size V u25 := d22.trans (b25.mono d22.size)
            refine hK.out _ _ (HC6.out _ d25) (fun hHeld2 => ?_)
            clear hK K
            (try simp only [Act.put, List.setIfInBounds_toArray, List.set_cons_zero, List.set_cons_succ])
            refine wpAnyH_take (i := 12) (oi := ⟨some 26, _, _, _, _, _⟩) (v := ?_) rfl (by kernel_rfl) (by kernel_rfl) (by kernel_rfl) (fun _ _ _ h => h) (Or.inl ⟨by rfl, ?_⟩) (by assumption) ?_
            rotate_left
            · intro w hSw; (try dsimp only at hSw); go_simp <;> (with_reducible rfl)
            (try simp only [Act.put, List.setIfInBounds_toArray, List.set_cons_zero, List.set_cons_succ])
            refine wpAnyH_done (by kernel_rfl) ?_ _
            go_wp2
          · exact ⟨⟨k + 1, by omega, by go_num, HF.out, hbV.trans (d25.mono hbV.size)⟩, by simp only [intOf]; omega⟩
          · go_ret
            exact ⟨ret_b HF.out.symm, hbV.trans (d25.mono hbV.size)⟩
      · obtain hk6 : k = xs.length := by omega
        have HF := Lib.hid (show R = true by rw [HI.out, hk6, Role.pairsFrom_end]; exact decide_eq_true hlen)
        clear hk6
        go_wp2
        go_ret
        exact ⟨ret_b HF.out.symm, hb⟩
  · have HF := Lib.hid (show R = false by
      rw [← hR, Role.pairsFrom_zero]
      unfold Role.pairsFrom
      rw [decide_eq_false hlen, Bool.and_false])
    clear hR
    have hlen2 : 10 < xs.length := by omega
    go_enter Try.func18, Try.ntmps18
    go_wp2
    go_ret
    exact ⟨ret_b HF.out.symm, Below.refl _ _⟩
end Go.Proofs.Ythldppmdhkifbaa
