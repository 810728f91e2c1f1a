/- Revocations (chapter 11): contracts of the model: a revocation is added, lists are merged. No condition but the bounds of what came in. -/
import Derived.Test.YtjfmmingkciapaaRev
namespace Go.Proofs.Ytjfmmingkciapaa
open Go.ChangeShapes Go.WideShapes Go.ChangeAt Go.RowKit
set_option linter.unusedVariables false

theorem addGo_at {xs : List RevokedD} {k : Nat} {x : RevokedD} (h : xs[k]? = some x) (s t : Int) (d : Bool) : addGo s t d (xs.drop k) = (if !d && decide (s < x.Serial) then [⟨s, t⟩] else []) ++ earlier s t x :: addGo s t (d || decide (s < x.Serial) || decide (x.Serial = s)) (xs.drop (k + 1)) := by
  rw [drop_at h]
  rfl
set_option maxHeartbeats 8000000 in
set_option maxRecDepth 100000 in
theorem spec_addRevoked (w : World) (hi c : Nat) (a : Option Addr) (xs : List RevokedD) (s t : Int) (h : RowRevoked w hi (.slice a xs.length c) xs) (hh : hi ≤ w.heap.size) (hn : xs.length ≤ 1048576) :
    Calls Try.prog 38 #[.slice a xs.length c, .int .i64 s, .int .i64 t] w fun e w' => ∃ u, e = .returned (.tuple #[u, .bool (addF xs s t).2]) ∧ OwnRevoked w' w.heap.size w'.heap.size u (addF xs s t).1 ∧ Below w.heap.size w w' := by
  obtain ⟨i0, hi0, hz0, hz1, hz2⟩ := info_parts infoRevoked
  obtain ⟨h1, h2⟩ := h.fits
  unfold maxLen at h2
  have H := Lib.hid h
  clear h
  have hE := OwnC.empty 99 2 w
  have hb0 : Below w.heap.size w (w.alloc (.cells #[] 99)) := (Below.refl _ _).alloc (Nat.le_refl _) _
  have HG := Lib.hid (addGo_length s t false xs).1
  obtain ⟨G, hG⟩ : ∃ G, addGo s t false xs = G := ⟨_, rfl⟩
  rw [hG] at HG
  have HGG := Lib.hid hG
  obtain ⟨av, hav⟩ : ∃ av, revB xs = av := ⟨_, rfl⟩
  obtain ⟨bv, hbv⟩ : ∃ bv, revB G = bv := ⟨_, rfl⟩
  obtain ⟨tv, htv⟩ : ∃ tv, decide (isT t) = tv := ⟨_, rfl⟩
  have HV := Lib.hid (show addF xs s t = if av && bv && tv then (G, true) else (xs, false) by unfold addF; rw [hG, hav, hbv, htv])
  generalize addF xs s t = V at HV ⊢
  have CA := Lib.hid (fun (W : World) (hW : Below w.heap.size w W) => show Calls Try.prog 88 #[.slice a xs.length c] W fun e w' => e = .returned (.bool av) ∧ Below W.heap.size W w' from hav ▸ spec_areRevoked W hi c a xs (H.out.below hW hh))
  have CB := Lib.hid (fun (W : World) (hi' c' : Nat) (a' : Option Addr) (h' : RowRevoked W hi' (.slice a' G.length c') G) => show Calls Try.prog 88 #[.slice a' G.length c'] W fun e w' => e = .returned (.bool bv) ∧ Below W.heap.size W w' from hbv ▸ spec_areRevoked W hi' c' a' G h')
  have CT := Lib.hid (fun W => show Calls Try.prog 89 #[.int .i64 t] W fun e w' => e = .returned (.bool tv) ∧ W = w' from htv ▸ spec_isTime t W)
  clear hG hav hbv htv
  go_enter Try.func38, Try.ntmps38
  go_wp2
  go_loopw [8, 9, 10] (fun v d i wr => ∃ (k : Nat) (dd : Bool) (P : List RevokedD), k ≤ xs.length ∧ i = .int .i64 (k : Int) ∧ d = .bool dd ∧ OwnRevoked wr w.heap.size wr.heap.size v P ∧ Hid (G = P ++ addGo s t dd (xs.drop k)) ∧ P.length ≤ k + 1 ∧ (dd = false → P.length ≤ k) ∧ Below w.heap.size w wr) (fun _ _ i _ => xs.length - (intOf i).toNat)
  case atStart => exact ⟨0, false, [], Nat.zero_le _, rfl, rfl, by show OwnC _ 2 _ _ _ _ 0 []; simpa using hE, Lib.hid HGG.out.symm, by simp, by simp, hb0⟩
  case round =>
    obtain ⟨k, dd, P, hk, rfl, rfl, hown, HP, hP1, hP2, hb⟩ := hrel
    have HO := Lib.hid hown
    clear hown
    by_cases hlt : k < xs.length
    · obtain ⟨x, hx⟩ : ∃ x, xs[k]? = some x := ⟨_, List.getElem?_eq_getElem hlt⟩
      have HA := Lib.hid (addGo_at hx s t dd)
      obtain ⟨p0, p1⟩ := x
      dsimp only [earlier] at HA
      obtain ⟨b, off, rfl, g1, g2, HCY⟩ := H.out.at hx
      obtain ⟨c0, c1⟩ := HCY _ _ g2 hb
      clear HCY hx
      obtain ⟨W1, hW1⟩ : ∃ W1, wr.alloc (.cells #[.int .i64 p0, .int .i64 p1] 99) = W1 := ⟨_, rfl⟩
      have hbk : W1.heap[wr.heap.size]? = some (.cells #[.int .i64 p0, .int .i64 p1] 99) := by rw [← hW1]; exact blk_new _ _ _
      have hs1 : W1.heap.size = wr.heap.size + 1 := by rw [← hW1]; exact size_alloc _ _
      have b1 : Below wr.heap.size wr W1 := by rw [← hW1]; exact (Below.refl _ _).alloc (Nat.le_refl _) _
      have d1 := hb.trans (b1.mono hb.size)
      have HO1 := Lib.hid (HO.out.below b1 (Nat.le_refl _))
      have x0 := blk_cell hbk 0 rfl
      have x1 := blk_cell hbk 1 rfl
      have HBK := Lib.hid hbk
      clear hbk
      have hsw := hb.size
      by_cases hi1 : dd = false ∧ s < p0
      · obtain ⟨rfl, hlt2⟩ := hi1
        have hP2 := hP2 rfl
        have hne : ¬ p0 = s := by omega
        have HF := Lib.hid (show G = (P ++ [⟨s, t⟩]) ++ [⟨p0, p1⟩] ++ addGo s t true (xs.drop (k + 1)) by
          rw [HP.out, HA.out, if_neg hne, decide_eq_true hlt2]
          simp)
        have hne2 : (p0 == s) = false := by simpa using hne
        have hA2 : Below W1.heap.size W1 (W1.alloc (.cells #[.int .i64 s, .int .i64 t] 99)) := (Below.refl _ _).alloc (Nat.le_refl _) _
        have hr2 := rowC_one 2 99 W1 [.int .i64 s, .int .i64 t] rfl
        rw [hs1] at hr2
        have HO2 := HO1.out.below hA2 (by omega)
        have hs2 : (W1.alloc (.cells #[.int .i64 s, .int .i64 t] 99)).heap.size = W1.heap.size + 1 := size_alloc _ _
        go_upto_region 10 with (at_builtin; refine wpList_append_OwnK rfl _ _ _ rfl i0 (.agg zerosRevoked.toArray) 16 Try.underlying37 hi0 hz0 hz1 hz2 rfl (by decide) rfl HO2 (by omega) _ _ _ _ rfl hr2 (RevokedD.one ⟨s, t⟩) (by omega) (by decide) (by omega) ?_; intro v3 w3 o3 b3 k3)
        have hb3 : w3.heap[wr.heap.size]? = some (.cells #[.int .i64 p0, .int .i64 p1] 99) := (k3 wr.heap.size (Nat.le_refl _) (by omega)).trans (blk_keep HBK.out hA2 (by omega))
        have d2 := d1.trans (hA2.mono d1.size)
        have d3 := d2.trans b3
        have hs3 := d3.size
        have O3 := OwnC.joined (f := RevokedD.cells) (ys := [⟨s, t⟩]) o3
        have y0 := blk_cell hb3 0 rfl
        have y1 := blk_cell hb3 1 rfl
        have hA4 : Below w3.heap.size w3 (w3.alloc (.cells #[.int .i64 p0, .int .i64 p1] 99)) := (Below.refl _ _).alloc (Nat.le_refl _) _
        have hr4 := rowC_one 2 99 w3 [.int .i64 p0, .int .i64 p1] rfl
        have HO4 := O3.below hA4 (Nat.le_refl _)
        have hs4 : (w3.alloc (.cells #[.int .i64 p0, .int .i64 p1] 99)).heap.size = w3.heap.size + 1 := size_alloc _ _
        clear hb3 k3 o3 O3 hA2 hr2 HO2 x0 x1 c0 c1
        go_wp2_with (at_builtin; refine wpList_append_OwnC rfl _ _ _ rfl i0 (.agg zerosRevoked.toArray) 16 Try.underlying37 hi0 hz0 hz1 hz2 rfl (by decide) rfl HO4 _ _ _ _ rfl hr4 (RevokedD.one ⟨p0, p1⟩) (by (try simp only [List.length_append, List.length_cons, List.length_nil]); omega) (by decide) (by omega) ?_; intro v5 w5 o5 b5)
        refine ⟨⟨k + 1, true, P ++ [⟨s, t⟩] ++ [⟨p0, p1⟩], by omega, by go_num, rfl, OwnC.joined (f := RevokedD.cells) (ys := [⟨p0, p1⟩]) o5, HF, by simp; omega, by simp, (d3.trans (hA4.mono hs3)).trans b5⟩, by simp only [intOf]; omega⟩
      · have hi2 : dd = false → ¬ s < p0 := fun e h => hi1 ⟨e, h⟩
        by_cases he : p0 = s
        · have HF := Lib.hid (show G = (P ++ [⟨p0, mn p1 t⟩]) ++ addGo s t true (xs.drop (k + 1)) by
            rw [HP.out, HA.out, if_pos he, decide_eq_true he, Bool.or_true]
            have : (!dd && decide (s < p0)) = false := by
              cases dd
              · simp; omega
              · rfl
            rw [this]
            simp)
          have CM := Lib.hid (fun W => spec_min p1 t W)
          generalize mn p1 t = q at HF CM
          obtain ⟨W2, hW2⟩ : ∃ W2, W1.setCell ⟨wr.heap.size, 1, none⟩ (.int .i64 q) = W2 := ⟨_, rfl⟩
          have hbs := blk_set HBK.out (i := 1) (.int .i64 q)
          rw [hW2] at hbs
          have hbs' : W2.heap[wr.heap.size]? = some (.cells #[.int .i64 p0, .int .i64 q] 99) := hbs
          have hs2 : W2.heap.size = W1.heap.size := by rw [← hW2]; simp
          have b2 : Below wr.heap.size W1 W2 := by rw [← hW2]; exact (Below.refl _ _).setCell (p := ⟨wr.heap.size, 1, none⟩) (Nat.le_refl _) _
          have d2 := d1.trans (b2.mono hb.size)
          have HO2 := Lib.hid (HO1.out.below b2 (Nat.le_refl _))
          have y0 := blk_cell hbs' 0 rfl
          have y1 := blk_cell hbs' 1 rfl
          have f1 := blk_frozen HBK.out 1
          have hA4 : Below W2.heap.size W2 (W2.alloc (.cells #[.int .i64 p0, .int .i64 q] 99)) := (Below.refl _ _).alloc (Nat.le_refl _) _
          have hr4 := rowC_one 2 99 W2 [.int .i64 p0, .int .i64 q] rfl
          have HO4 := HO2.out.below hA4 (by omega)
          have hs4 : (W2.alloc (.cells #[.int .i64 p0, .int .i64 q] 99)).heap.size = W2.heap.size + 1 := size_alloc _ _
          rw [hs2, hs1] at hr4
          clear hbs hbs'
          subst he
          cases dd
          all_goals
            go_wp2_with (first | (go_at_call 87; refine (CM.out _).mono ?_; rintro e u ⟨rfl, rfl⟩) | (at_builtin; refine wpList_append_OwnC rfl _ _ _ rfl i0 (.agg zerosRevoked.toArray) 16 Try.underlying37 hi0 hz0 hz1 hz2 rfl (by decide) rfl HO4 _ _ _ _ rfl hr4 (RevokedD.one ⟨p0, q⟩) (by (try simp only [List.length_append, List.length_cons, List.length_nil]); omega) (by decide) (by omega) ?_; intro v5 w5 o5 b5))
            refine ⟨⟨k + 1, true, P ++ [⟨p0, q⟩], by omega, by go_num, rfl, OwnC.joined (f := RevokedD.cells) (ys := [⟨p0, q⟩]) o5, HF, by simp; omega, by simp, (d2.trans (hA4.mono d2.size)).trans b5⟩, by simp only [intOf]; omega⟩
        · have hne2 : (p0 == s) = false := by simpa using he
          have HF := Lib.hid (show G = (P ++ [⟨p0, p1⟩]) ++ addGo s t dd (xs.drop (k + 1)) by
            rw [HP.out, HA.out, if_neg he, decide_eq_false he, Bool.or_false]
            cases dd
            · rw [decide_eq_false (hi2 rfl)]
              simp
            · simp)
          have hA4 : Below W1.heap.size W1 (W1.alloc (.cells #[.int .i64 p0, .int .i64 p1] 99)) := (Below.refl _ _).alloc (Nat.le_refl _) _
          have hr4 := rowC_one 2 99 W1 [.int .i64 p0, .int .i64 p1] rfl
          have HO4 := HO1.out.below hA4 (by omega)
          have hs4 : (W1.alloc (.cells #[.int .i64 p0, .int .i64 p1] 99)).heap.size = W1.heap.size + 1 := size_alloc _ _
          rw [hs1] at hr4
          cases dd
          all_goals
            try have hlt3 : decide (s < p0) = false := decide_eq_false (hi2 rfl)
            try have hlt4 : ¬ s < p0 := hi2 rfl
            clear hi1 hi2
            go_wp2_with (at_builtin; refine wpList_append_OwnC rfl _ _ _ rfl i0 (.agg zerosRevoked.toArray) 16 Try.underlying37 hi0 hz0 hz1 hz2 rfl (by decide) rfl HO4 _ _ _ _ rfl hr4 (RevokedD.one ⟨p0, p1⟩) (by (try simp only [List.length_append, List.length_cons, List.length_nil]); omega) (by decide) (by omega) ?_; intro v5 w5 o5 b5)
            refine ⟨⟨k + 1, _, P ++ [⟨p0, p1⟩], by omega, by go_num, rfl, OwnC.joined (f := RevokedD.cells) (ys := [⟨p0, p1⟩]) o5, HF, by simp; omega, by simp; try exact hP2 rfl, (d1.trans (hA4.mono d1.size)).trans b5⟩, by simp only [intOf]; omega⟩
    · obtain rfl : k = xs.length := by omega
      have HP := Lib.hid (show G = P ++ (if dd then [] else [⟨s, t⟩]) by rw [HP.out, List.drop_of_length_le (Nat.le_refl _)]; rfl)
      cases dd
      · have HP2 := hP2 rfl
        have HPG := Lib.hid (show P ++ [⟨s, t⟩] = G from HP.out.symm)
        have HPL := Lib.hid (show G.length ≤ xs.length + 1 from HG.out)
        have hA4 : Below wr.heap.size wr (wr.alloc (.cells #[.int .i64 s, .int .i64 t] 99)) := (Below.refl _ _).alloc (Nat.le_refl _) _
        have hr4 := rowC_one 2 99 wr [.int .i64 s, .int .i64 t] rfl
        have HO4 := HO.out.below hA4 (Nat.le_refl _)
        have hsw := hb.size
        have hs4 : (wr.alloc (.cells #[.int .i64 s, .int .i64 t] 99)).heap.size = wr.heap.size + 1 := size_alloc _ _
        go_upto_region 16 with (at_builtin; refine wpList_append_OwnC rfl _ _ _ rfl i0 (.agg zerosRevoked.toArray) 16 Try.underlying37 hi0 hz0 hz1 hz2 rfl (by decide) rfl HO4 _ _ _ _ rfl hr4 (RevokedD.one ⟨s, t⟩) (by (try simp only [List.length_append, List.length_cons, List.length_nil]); omega) (by decide) (by omega) ?_; intro v9 V9 o9 b9)
        have d9 := (hb.trans (hA4.mono hb.size)).trans b9
        have O9 := OwnC.joined (f := RevokedD.cells) (ys := [⟨s, t⟩]) o9
        rw [HPG.out] at O9
        clear hr4 HO4 hA4
        have HO9 := Lib.hid O9
        clear O9
        have HRD := Lib.hid HO9.out.read
        obtain ⟨_, A9, c9, hv9, -⟩ := id HRD.out
        subst hv9
        have CB9 := Lib.hid (fun (W : World) (hW : Below V9.heap.size V9 W) => CB.out W _ c9 A9 (HRD.out.below hW (Nat.le_refl _)))
        have hE5 := fun W : World => OwnC.empty 99 2 W
        go_wp2_with fail
        refine (CA.out _ d9).mono ?_
        rintro e u1 ⟨rfl, b1⟩
        have d10 := d9.trans (b1.mono d9.size)
        cases av
        · have hr := H.out.below (d10.alloc d10.size (.cells #[] 99)) hh
          have hbA : Below u1.heap.size u1 (u1.alloc (.cells #[] 99)) := (Below.refl _ _).alloc (Nat.le_refl _) _
          go_wp2_with (at_builtin; refine wpList_append_OwnC rfl _ _ _ rfl i0 (.agg zerosRevoked.toArray) 16 Try.underlying37 hi0 hz0 hz1 hz2 rfl (by decide) rfl (hE5 u1) _ _ _ _ rfl hr (flat_one RevokedD.one xs) (by omega) (by decide) hbA.size ?_; intro v7 w7 o7 b7)
          go_ret2
          have e := HV.out
          subst e
          rw [Nat.zero_add, List.nil_append] at o7
          exact ⟨_, rfl, o7.wide d10.size (Nat.le_refl _), (d10.trans (hbA.mono d10.size)).trans (b7.mono d10.size)⟩
        · go_wp2_with fail
          refine (CB9.out _ b1).mono ?_
          rintro e u2 ⟨rfl, b2⟩
          have d11 := d10.trans (b2.mono d10.size)
          cases bv
          · have hr := H.out.below (d11.alloc d11.size (.cells #[] 99)) hh
            have hbA : Below u2.heap.size u2 (u2.alloc (.cells #[] 99)) := (Below.refl _ _).alloc (Nat.le_refl _) _
            go_wp2_with (at_builtin; refine wpList_append_OwnC rfl _ _ _ rfl i0 (.agg zerosRevoked.toArray) 16 Try.underlying37 hi0 hz0 hz1 hz2 rfl (by decide) rfl (hE5 u2) _ _ _ _ rfl hr (flat_one RevokedD.one xs) (by omega) (by decide) hbA.size ?_; intro v7 w7 o7 b7)
            go_ret2
            have e := HV.out
            subst e
            rw [Nat.zero_add, List.nil_append] at o7
            exact ⟨_, rfl, o7.wide d11.size (Nat.le_refl _), (d11.trans (hbA.mono d11.size)).trans (b7.mono d11.size)⟩
          · go_wp2_with fail
            refine (CT.out _).mono ?_
            rintro e u3 ⟨rfl, rfl⟩
            cases tv
            · have hr := H.out.below (d11.alloc d11.size (.cells #[] 99)) hh
              have hbA : Below u2.heap.size u2 (u2.alloc (.cells #[] 99)) := (Below.refl _ _).alloc (Nat.le_refl _) _
              go_wp2_with (at_builtin; refine wpList_append_OwnC rfl _ _ _ rfl i0 (.agg zerosRevoked.toArray) 16 Try.underlying37 hi0 hz0 hz1 hz2 rfl (by decide) rfl (hE5 u2) _ _ _ _ rfl hr (flat_one RevokedD.one xs) (by omega) (by decide) hbA.size ?_; intro v7 w7 o7 b7)
              go_ret2
              have e := HV.out
              subst e
              rw [Nat.zero_add, List.nil_append] at o7
              exact ⟨_, rfl, o7.wide d11.size (Nat.le_refl _), (d11.trans (hbA.mono d11.size)).trans (b7.mono d11.size)⟩
            · go_wp2
              go_ret2
              have e := HV.out
              subst e
              have O10 := HO9.out.below (b1.trans (b2.mono b1.size)) (Nat.le_refl _)
              exact ⟨_, rfl, O10.wide (Nat.le_refl _) (Nat.le_trans b1.size b2.size), d11⟩
      · obtain rfl : G = P := by rw [HP.out]; simp
        obtain ⟨V9, hV9⟩ : ∃ V9, V9 = wr := ⟨_, rfl⟩
        subst hV9
        have d9 := hb
        have O9 := HO.out
        go_upto_region 16 with fail
        have HO9 := Lib.hid O9
        clear O9
        have HRD := Lib.hid HO9.out.read
        obtain ⟨_, A9, c9, hv9, -⟩ := id HRD.out
        subst hv9
        have CB9 := Lib.hid (fun (W : World) (hW : Below V9.heap.size V9 W) => CB.out W _ c9 A9 (HRD.out.below hW (Nat.le_refl _)))
        have hE5 := fun W : World => OwnC.empty 99 2 W
        go_wp2_with fail
        refine (CA.out _ d9).mono ?_
        rintro e u1 ⟨rfl, b1⟩
        have d10 := d9.trans (b1.mono d9.size)
        cases av
        · have hr := H.out.below (d10.alloc d10.size (.cells #[] 99)) hh
          have hbA : Below u1.heap.size u1 (u1.alloc (.cells #[] 99)) := (Below.refl _ _).alloc (Nat.le_refl _) _
          go_wp2_with (at_builtin; refine wpList_append_OwnC rfl _ _ _ rfl i0 (.agg zerosRevoked.toArray) 16 Try.underlying37 hi0 hz0 hz1 hz2 rfl (by decide) rfl (hE5 u1) _ _ _ _ rfl hr (flat_one RevokedD.one xs) (by omega) (by decide) hbA.size ?_; intro v7 w7 o7 b7)
          go_ret2
          have e := HV.out
          subst e
          rw [Nat.zero_add, List.nil_append] at o7
          exact ⟨_, rfl, o7.wide d10.size (Nat.le_refl _), (d10.trans (hbA.mono d10.size)).trans (b7.mono d10.size)⟩
        · go_wp2_with fail
          refine (CB9.out _ b1).mono ?_
          rintro e u2 ⟨rfl, b2⟩
          have d11 := d10.trans (b2.mono d10.size)
          cases bv
          · have hr := H.out.below (d11.alloc d11.size (.cells #[] 99)) hh
            have hbA : Below u2.heap.size u2 (u2.alloc (.cells #[] 99)) := (Below.refl _ _).alloc (Nat.le_refl _) _
            go_wp2_with (at_builtin; refine wpList_append_OwnC rfl _ _ _ rfl i0 (.agg zerosRevoked.toArray) 16 Try.underlying37 hi0 hz0 hz1 hz2 rfl (by decide) rfl (hE5 u2) _ _ _ _ rfl hr (flat_one RevokedD.one xs) (by omega) (by decide) hbA.size ?_; intro v7 w7 o7 b7)
            go_ret2
            have e := HV.out
            subst e
            rw [Nat.zero_add, List.nil_append] at o7
            exact ⟨_, rfl, o7.wide d11.size (Nat.le_refl _), (d11.trans (hbA.mono d11.size)).trans (b7.mono d11.size)⟩
          · go_wp2_with fail
            refine (CT.out _).mono ?_
            rintro e u3 ⟨rfl, rfl⟩
            cases tv
            · have hr := H.out.below (d11.alloc d11.size (.cells #[] 99)) hh
              have hbA : Below u2.heap.size u2 (u2.alloc (.cells #[] 99)) := (Below.refl _ _).alloc (Nat.le_refl _) _
              go_wp2_with (at_builtin; refine wpList_append_OwnC rfl _ _ _ rfl i0 (.agg zerosRevoked.toArray) 16 Try.underlying37 hi0 hz0 hz1 hz2 rfl (by decide) rfl (hE5 u2) _ _ _ _ rfl hr (flat_one RevokedD.one xs) (by omega) (by decide) hbA.size ?_; intro v7 w7 o7 b7)
              go_ret2
              have e := HV.out
              subst e
              rw [Nat.zero_add, List.nil_append] at o7
              exact ⟨_, rfl, o7.wide d11.size (Nat.le_refl _), (d11.trans (hbA.mono d11.size)).trans (b7.mono d11.size)⟩
            · go_wp2
              go_ret2
              have e := HV.out
              subst e
              have O10 := HO9.out.below (b1.trans (b2.mono b1.size)) (Nat.le_refl _)
              exact ⟨_, rfl, O10.wide (Nat.le_refl _) (Nat.le_trans b1.size b2.size), d11⟩
end Go.Proofs.Ytjfmmingkciapaa
