/- Text of conditions (chapter 16): contracts of the model: a bracket at the head of a condition's text. No condition but a text's size. -/
import Derived.Test.YtmdmkdjeaffhaaaDoorText4
namespace Go.Proofs.YtmdmkdjeaffhaaaDoor
open Go.Lib Go.ChangeShapes Go.WideShapes Go.ChangeAt Go.RowKit
set_option linter.unusedVariables false

theorem prs_open (n : Nat) (r : List UInt8) : prs (n + 1) (40 :: r) = (⟨if wordL (prs n r).2 = nameL 9 then 9 else 8, 0, 0, [(prs n r).1, (prs n (restL (prs n r).2)).1]⟩, skip1 32 (skip1 41 (prs n (restL (prs n r).2)).2)) := by
  rw [prs, if_pos rfl]
theorem skip_at (s : ByteArray) (c : UInt8) (k : Nat) (hk : k ≤ s.size) : (∃ h : k < s.size, ((s[k].toNat : Int) == (c.toNat : Int)) = true ∧ s.data.toList.drop (k + 1) = skip1 c (s.data.toList.drop k)) ∨ (k = s.size ∧ s.data.toList.drop k = skip1 c (s.data.toList.drop k)) ∨ (∃ h : k < s.size, ((s[k].toNat : Int) == (c.toNat : Int)) = false ∧ s.data.toList.drop k = skip1 c (s.data.toList.drop k)) := by
  by_cases h : k < s.size
  · have hl : k < s.data.toList.length := by rw [Array.length_toList]; exact h
    by_cases hc : s[k] = c
    · refine .inl ⟨h, by rw [hc]; exact beq_self_eq_true _, ?_⟩
      rw [List.drop_eq_getElem_cons hl]
      have : s.data.toList[k] = c := hc
      rw [this]
      show _ = if c == c then _ else _
      rw [if_pos (beq_self_eq_true c)]
    · refine .inr (.inr ⟨h, beq_eq_false_iff_ne.2 fun e => hc (UInt8.toNat_inj.1 (by omega)), ?_⟩)
      rw [List.drop_eq_getElem_cons hl]
      have : s.data.toList[k] ≠ c := hc
      show _ = if s.data.toList[k] == c then _ else _
      rw [if_neg (by simpa using this)]
  · have : k = s.size := by omega
    refine .inr (.inl ⟨this, ?_⟩)
    rw [List.drop_of_length_le (by rw [Array.length_toList]; exact Nat.le_of_eq this.symm)]
    rfl
theorem box_d {w W : World} {cs : Array Value} {T : TypeId} {v : Value} (hb : Below (w.alloc (.cells cs T)).heap.size (w.alloc (.cells cs T)) W) (k : Nat) (hk : cs[k]? = some v) : W.cell? ⟨w.heap.size, k, none⟩ = some v := blk_cell ((hb.block _ (by simp)).trans (blk_new w T cs)) k hk
/-- A slice literal of two conditions that are the call's own. -/
theorem two_own {w : World} {g : Nat} {T : TypeId} {y z : CondD} {us vs : List Value} {f f2 : List Nat} (hg : w.heap[g]? = some (.cells (us ++ vs).toArray T)) (h : owE w (CondD.c y) us f) (h2 : owE w (CondD.c z) vs f2) : owC w (rowF CondD.c [y, z]) (.slice (some ⟨g, 0, none⟩) 2 2) (g :: (f ++ f2)) := by
  have ho := h.append h2
  unfold rowF owC
  have hl := owE.length ho
  refine .inr ⟨g, 2, (us ++ vs).toArray, T, f ++ f2, rfl, Nat.le_refl _, by decide, hg, rfl, fun e => absurd e (by simp), ?_⟩
  have e : [y, z].flatMap CondD.c = CondD.c y ++ CondD.c z := by simp
  rw [e, List.take_of_length_le (Nat.le_of_eq hl)]
  exact ho
set_option maxHeartbeats 4000000 in
set_option maxRecDepth 100000 in
theorem reads_open (n : Nat) (s : ByteArray) (hs : s.size ≤ 400) (ih : Reads16 n s) (i d : Nat) (w : World) (hd : n + 1 + d = 16) (hlt : i < s.size) (hc : s[i] = 40) :
    Calls Tryd.prog 21 #[.string s, .int .i64 (i : Int), .int .i64 (d : Int)] w fun e w' => ∃ (v : Value) (nx : Nat), e = .returned (.tuple #[v, .int .i64 (nx : Int)]) ∧ Got16 s w (prs (n + 1) (s.data.toList.drop i)).1 (prs (n + 1) (s.data.toList.drop i)).2 v nx w' := by
  have hb40 : ((s[i].toNat : Int) == 40) = true := by rw [hc]; rfl
  have hdd : (d : Int) ≤ 15 := by omega
  obtain ⟨X, hX⟩ : ∃ X, prs (n + 1) (s.data.toList.drop i) = X := ⟨_, rfl⟩
  rw [hX]
  have hl : i < s.data.toList.length := by rw [Array.length_toList]; exact hlt
  have hp := hX
  rw [List.drop_eq_getElem_cons hl, show s.data.toList[i] = 40 from hc, prs_open] at hp
  obtain ⟨W, hW⟩ : ∃ W, W = w.alloc (.cells #[.int .i64 0, .int .i64 0, .int .i64 0, .slice none 0 0] 29) := ⟨_, rfl⟩
  have hB : Below w.heap.size w W := by rw [hW]; exact (Below.refl _ _).alloc (Nat.le_refl _) _
  have hA : W.heap[w.heap.size]? = some (.cells #[.int .i64 0, .int .i64 0, .int .i64 0, .slice none 0 0] 29) := by rw [hW]; exact blk_new _ _ _
  have HA := Lib.hid hA
  have HZ := Lib.hid (show W.heap.size = w.heap.size + 1 by rw [hW]; simp)
  have C1 := Lib.hid (show Calls Tryd.prog 21 #[.string s, .int .i64 ((i : Int) + 1), .int .i64 ((d : Int) + 1)] W _ from ih (i + 1) (d + 1) W hlt (by omega))
  have C2 := Lib.hid (show ∀ (m : Nat) (U : World), m ≤ s.size → Calls Tryd.prog 21 #[.string s, .int .i64 (m : Int), .int .i64 ((d : Int) + 1)] U _ from fun m U hm => ih m (d + 1) U hm (by omega))
  generalize prs n (s.data.toList.drop (i + 1)) = Y1 at hp C1
  have HP := Lib.hid hp
  clear hX hp hA hl hc
  go_enter Tryd.func21, Tryd.ntmps21
  go_upto_region 1 with fail
  rw [← hW]
  clear hW
  go_wp2_with fail
  refine C1.out.mono ?_
  rintro e u1 ⟨v1, n1, rfl, us1, fp1, rfl, how1, hnd1, hrg1, hn1, b1⟩
  obtain ⟨⟨o1, a1, b1', e1⟩, T1⟩ := Y1
  obtain ⟨k1, f1, rfl, rfl, z0, z1, z2, ho1⟩ := CondD.ow how1
  obtain ⟨av, cv, rfl, -, -⟩ := ho1.form
  have HOW1 := Lib.hid how1
  have HRG1 := Lib.hid hrg1
  have HND1 := Lib.hid hnd1
  have HN1 := Lib.hid hn1
  have HB1 := Lib.hid b1
  have hn1' := hn1.1
  have HWD := Lib.hid (fun U => spec_word s n1 U (by omega) hn1')
  clear how1 hrg1 hnd1 hn1 b1 ho1 z0 z1 z2
  go_wp2_with fail
  refine (HWD.out _).mono ?_
  rintro e w1 ⟨wd, m1, rfl, hwd, rfl⟩
  have HW2 := Lib.hid hwd
  have hm1 := hwd.2.1
  have C3 := Lib.hid (fun U => C2.out m1 U hm1)
  clear hwd HWD C2
  generalize hY : prs n (s.data.toList.drop m1) = Y2 at C3
  have HY2 := Lib.hid hY
  clear hY
  go_wp2_with fail
  refine (C3.out _).mono ?_
  rintro e u2 ⟨v2, n2, rfl, us2, fp2, rfl, how2, hnd2, hrg2, hn2, b2⟩
  obtain ⟨⟨o2, a2, b2', e2⟩, T2⟩ := Y2
  obtain ⟨k2, f2, rfl, rfl, y0, y1, y2, ho2⟩ := CondD.ow how2
  obtain ⟨av2, cv2, rfl, -, -⟩ := ho2.form
  have q0 := box_d b2 0 rfl
  have q1 := box_d b2 1 rfl
  have q2 := box_d b2 2 rfl
  have q3 := box_d b2 3 rfl
  have hlt1 : u1.heap.size < u2.heap.size := by have := b2.size; simp only [World.size_alloc] at this; omega
  have HOW2 := Lib.hid how2
  have HRG2 := Lib.hid hrg2
  have HND2 := Lib.hid hnd2
  have HN2 := Lib.hid hn2
  have HB2 := Lib.hid b2
  have hn2' := hn2.1
  clear how2 hrg2 hnd2 hn2 b2 ho2 y0 y1 y2 C3
  go_upto_region 8 with fail
  clear q0 q1 q2 q3
  obtain ⟨U3, hU3⟩ : ∃ U3, U3 = ((u2.alloc (.cells #[.int .i64 o2, .int .i64 a2, .int .i64 b2', .slice av2 e2.length cv2] 29)).alloc (.cells #[.int .i64 o1, .int .i64 a1, .int .i64 b1', .slice av e1.length cv, .int .i64 o2, .int .i64 a2, .int .i64 b2', .slice av2 e2.length cv2] 29)).alloc (.cells #[.int .i64 8, .int .i64 0, .int .i64 0, .slice (some ⟨u2.heap.size + 1, 0, none⟩) 2 2] 29) := ⟨_, rfl⟩
  rw [← hU3]
  have bU3 : Below u2.heap.size u2 U3 := by rw [hU3]; go_grown
  have zU3 : U3.heap.size = u2.heap.size + 3 := by rw [hU3]; simp
  have hg3 : U3.heap[u2.heap.size + 1]? = some (.cells #[.int .i64 o1, .int .i64 a1, .int .i64 b1', .slice av e1.length cv, .int .i64 o2, .int .i64 a2, .int .i64 b2', .slice av2 e2.length cv2] 29) := by rw [hU3]; exact blk_keep (C := u2.heap.size + 1 + 1) (blk_new_at (w := u2.alloc _) _ _ (by simp)) (by go_grown) (by omega)
  have h14 : U3.heap[u2.heap.size + 1 + 1]? = some (.cells #[.int .i64 8, .int .i64 0, .int .i64 0, .slice (some ⟨u2.heap.size + 1, 0, none⟩) 2 2] 29) := by rw [hU3]; exact blk_new_at _ _ (by simp)
  have HG3 := Lib.hid hg3
  have H14 := Lib.hid h14
  have HU3 := Lib.hid bU3
  have HZ3 := Lib.hid zU3
  clear hU3 bU3 zU3 hg3 h14
  have hT1 : s.data.toList.drop m1 = restL T1 := by rw [HW2.out.2.2.1, HN1.out.2]
  have hw1 : wd.data.toList = wordL T1 := by rw [HW2.out.1, HN1.out.2]
  have HPP := Lib.hid (show (⟨if wd.data.toList = nameL 9 then 9 else 8, 0, 0, [⟨o1, a1, b1', e1⟩, ⟨o2, a2, b2', e2⟩]⟩, skip1 32 (skip1 41 T2)) = X from by
    have h := HP.out
    try dsimp only at h
    rw [← hT1, HY2.out] at h
    try dsimp only at h
    rw [hw1]
    exact h)
  have hT2 := HN2.out.2
  clear hT1 hw1
  rcases skip_at s 41 n2 hn2' with ⟨h1, c1, t1⟩ | ⟨h1, t1⟩ | ⟨h1, c1, t1⟩
  · rcases skip_at s 32 (n2 + 1) (by omega) with ⟨h2, c2, t2⟩ | ⟨h2, t2⟩ | ⟨h2, c2, t2⟩
    · have HEND := Lib.hid (show n2 + 1 + 1 ≤ s.size ∧ s.data.toList.drop (n2 + 1 + 1) = skip1 32 (skip1 41 T2) from ⟨by omega, by rw [t2, t1, hT2]⟩)
      have c1' : ((s[n2].toNat : Int) == 41) = true := c1
      have c2' : ((s[n2 + 1].toNat : Int) == 32) = true := c2
      have i1 : (n2 : Int) < (s.size : Int) := by omega
      clear c1
      have i2 : (n2 : Int) + 1 < (s.size : Int) := by omega
      clear c2
      clear t1 t2 hT2
      by_cases h9 : wd.data.toList = nameL 9
      · have heq : (wd.toList == [111, 114]) = true := by
          rw [ByteArray.toList_eq]
          exact beq_iff_eq.2 h9
        have HPX := Lib.hid (show (⟨9, 0, 0, [⟨o1, a1, b1', e1⟩, ⟨o2, a2, b2', e2⟩]⟩, skip1 32 (skip1 41 T2)) = X from by rw [← HPP.out, if_pos h9])
        clear h9
        obtain ⟨⟨p0, p1, p2, p3⟩, g0, g1, g2, g3⟩ := cls_4 H14.out
        go_upto_region 14 with fail
        have H15 := Lib.hid (show (U3.setCell ⟨u2.heap.size + 1 + 1, 0, none⟩ (.int .i64 9)).heap[u2.heap.size + 1 + 1]? = some (.cells #[.int .i64 9, .int .i64 0, .int .i64 0, .slice (some ⟨u2.heap.size + 1, 0, none⟩) 2 2] 29) from blk_set H14.out _)
        have HK := Lib.hid (show ∀ k, k ≠ u2.heap.size + 1 + 1 → (U3.setCell ⟨u2.heap.size + 1 + 1, 0, none⟩ (.int .i64 9)).heap[k]? = U3.heap[k]? from fun k hk => Below.heap_setCell U3 ⟨u2.heap.size + 1 + 1, 0, none⟩ _ k hk)
        have HU4 := Lib.hid (show Below u2.heap.size u2 (U3.setCell ⟨u2.heap.size + 1 + 1, 0, none⟩ (.int .i64 9)) from HU3.out.setCell (p := ⟨u2.heap.size + 1 + 1, 0, none⟩) (Nat.le_add_right _ 2) _)
        have HZ4 := Lib.hid (show (U3.setCell ⟨u2.heap.size + 1 + 1, 0, none⟩ (.int .i64 9)).heap.size = u2.heap.size + 3 by rw [← HZ3.out]; simp [World.setCell])
        have HG4 := Lib.hid ((HK.out (u2.heap.size + 1) (by omega)).trans HG3.out)
        clear p0 p1 p2 p3 g0 g1 g2 g3 HK
        generalize U3.setCell ⟨u2.heap.size + 1 + 1, 0, none⟩ (.int .i64 9) = U4 at H15 HU4 HZ4 HG4 ⊢
        obtain ⟨⟨p0, p1, p2, p3⟩, -⟩ := cls_4 H15.out
        have hb1 := HB1.out
        have hb2 := HB2.out
        have hz := HZ.out
        have hs2 := hb2.size
        simp only [World.size_alloc] at hs2
        have d2 : Below u1.heap.size u1 u2 := ((Below.refl _ u1).alloc (Nat.le_refl _) _).trans (hb2.mono (by simp))
        have dW : Below W.heap.size W u2 := hb1.trans (d2.mono hb1.size)
        have d4 : Below W.heap.size W U4 := dW.trans (HU4.out.mono dW.size)
        have hA4 := blk_keep HA.out d4 (by omega)
        have HD4 := Lib.hid (hB.trans (d4.mono hB.size))
        have HT := Lib.hid (stt_4 hA4 (.int .i64 9) (.int .i64 0) (.int .i64 0) (.slice (some ⟨u2.heap.size + 1, 0, none⟩) 2 2))
        obtain ⟨⟨r0, r1, r2, r3⟩, m0, m1', m2, m3⟩ := cls_4 hA4
        have HX1 := Lib.hid (show owE U4 (CondD.c ⟨o1, a1, b1', e1⟩) [.int .i64 o1, .int .i64 a1, .int .i64 b1', .slice av e1.length cv] fp1 from HOW1.out.keep fun k hk => by have := owE.lt HOW1.out k hk; exact (HU4.out.block k (by omega)).trans (d2.block k this))
        have HX2 := Lib.hid (show owE U4 (CondD.c ⟨o2, a2, b2', e2⟩) [.int .i64 o2, .int .i64 a2, .int .i64 b2', .slice av2 e2.length cv2] fp2 from HOW2.out.keep fun k hk => HU4.out.block k (owE.lt HOW2.out k hk))
        have HF := Lib.hid (two_own (us := [.int .i64 o1, .int .i64 a1, .int .i64 b1', .slice av e1.length cv]) (vs := [.int .i64 o2, .int .i64 a2, .int .i64 b2', .slice av2 e2.length cv2]) HG4.out HX1.out HX2.out)
        have HM1 := Lib.hid (show ∀ k ∈ fp1, W.heap.size ≤ k ∧ k < u1.heap.size from fun k hk => ⟨(HRG1.out k hk).1, owE.lt HOW1.out k hk⟩)
        have HM2 := Lib.hid (show ∀ k ∈ fp2, u1.heap.size + 1 ≤ k ∧ k < u2.heap.size from fun k hk => ⟨by have := (HRG2.out k hk).1; simpa using this, owE.lt HOW2.out k hk⟩)
        have HS1 := Lib.hid hb1.size
        clear hA4 d2 dW d4 hb1 hb2 hs2 hz
        go_wp2_with fail
        have HT2 := HT.out
        generalize ((((U4.setCell ⟨w.heap.size, 0, none⟩ (.int .i64 9)).setCell ⟨w.heap.size, 1, none⟩ (.int .i64 0)).setCell ⟨w.heap.size, 2, none⟩ (.int .i64 0)).setCell ⟨w.heap.size, 3, none⟩ (.slice (some ⟨u2.heap.size + 1, 0, none⟩) 2 2)) = WF at HT2 ⊢
        obtain ⟨⟨q0, q1, q2, q3⟩, -⟩ := cls_4 HT2.1
        have hz := HZ.out
        have hz4 := HZ4.out
        have hs1 := HS1.out
        have hmem : ∀ k ∈ (u2.heap.size + 1) :: (fp1 ++ fp2), W.heap.size ≤ k ∧ k < u2.heap.size + 3 := fun k hk => by
          rcases List.mem_cons.1 hk with rfl | hk
          · omega
          rcases List.mem_append.1 hk with hk | hk
          · have := HM1.out k hk; omega
          · have := HM2.out k hk; omega
        have hnd : ((u2.heap.size + 1) :: (fp1 ++ fp2)).Nodup := List.nodup_cons.2 ⟨fun h => by
          rcases List.mem_append.1 h with h | h
          · have := HM1.out _ h; omega
          · have := HM2.out _ h; omega, List.nodup_append.2 ⟨HND1.out, HND2.out, fun x hx y hy e => by have := HM1.out x hx; have := HM2.out y hy; omega⟩⟩
        have how := HF.out.touch HT2.2 (fun k hk hk2 => by
          have h9 := List.mem_singleton.1 hk2
          have := (hmem k hk).1
          omega)
        have HGOT : Got16 s w X.1 X.2 (.agg #[.int .i64 9, .int .i64 0, .int .i64 0, .slice (some ⟨u2.heap.size + 1, 0, none⟩) 2 2]) (n2 + 1 + 1) WF := by
          rw [← HPX.out]
          exact ⟨[.int .i64 9, .int .i64 0, .int .i64 0, .slice (some ⟨u2.heap.size + 1, 0, none⟩) 2 2], (u2.heap.size + 1) :: (fp1 ++ fp2), rfl, CondD.ow_mk rfl rfl rfl how, hnd, fun k hk => ⟨by have := (hmem k hk).1; omega, Nat.lt_of_lt_of_le (by have := (hmem k hk).2; omega) HT2.2.size⟩, HEND.out, HD4.out.trans (HT2.2.below (fun k hk => by have := List.mem_singleton.1 hk; omega) HD4.out.size)⟩
        exact bodyPost_ret (v := .tuple #[.agg #[.int .i64 9, .int .i64 0, .int .i64 0, .slice (some ⟨u2.heap.size + 1, 0, none⟩) 2 2], .int .i64 ((n2 : Int) + 1 + 1)]) (by simp [results, Tryd.results21, go_sem, q0, q1, q2, q3]) rfl ⟨_, n2 + 1 + 1, rfl, HGOT⟩
      · have heq : (wd.toList == [111, 114]) = false := by
          rw [ByteArray.toList_eq]
          exact beq_eq_false_iff_ne.2 h9
        have HPX := Lib.hid (show (⟨8, 0, 0, [⟨o1, a1, b1', e1⟩, ⟨o2, a2, b2', e2⟩]⟩, skip1 32 (skip1 41 T2)) = X from by rw [← HPP.out, if_neg h9])
        clear h9
        go_upto_region 14 with fail
        have H15 := H14
        have HU4 := HU3
        have HZ4 := HZ3
        have HG4 := HG3
        clear H14 HU3 HZ3 HG3
        obtain ⟨U4, hU4⟩ : ∃ U4, U4 = U3 := ⟨_, rfl⟩
        subst hU4
        obtain ⟨⟨p0, p1, p2, p3⟩, -⟩ := cls_4 H15.out
        have hb1 := HB1.out
        have hb2 := HB2.out
        have hz := HZ.out
        have hs2 := hb2.size
        simp only [World.size_alloc] at hs2
        have d2 : Below u1.heap.size u1 u2 := ((Below.refl _ u1).alloc (Nat.le_refl _) _).trans (hb2.mono (by simp))
        have dW : Below W.heap.size W u2 := hb1.trans (d2.mono hb1.size)
        have d4 : Below W.heap.size W U4 := dW.trans (HU4.out.mono dW.size)
        have hA4 := blk_keep HA.out d4 (by omega)
        have HD4 := Lib.hid (hB.trans (d4.mono hB.size))
        have HT := Lib.hid (stt_4 hA4 (.int .i64 8) (.int .i64 0) (.int .i64 0) (.slice (some ⟨u2.heap.size + 1, 0, none⟩) 2 2))
        obtain ⟨⟨r0, r1, r2, r3⟩, m0, m1', m2, m3⟩ := cls_4 hA4
        have HX1 := Lib.hid (show owE U4 (CondD.c ⟨o1, a1, b1', e1⟩) [.int .i64 o1, .int .i64 a1, .int .i64 b1', .slice av e1.length cv] fp1 from HOW1.out.keep fun k hk => by have := owE.lt HOW1.out k hk; exact (HU4.out.block k (by omega)).trans (d2.block k this))
        have HX2 := Lib.hid (show owE U4 (CondD.c ⟨o2, a2, b2', e2⟩) [.int .i64 o2, .int .i64 a2, .int .i64 b2', .slice av2 e2.length cv2] fp2 from HOW2.out.keep fun k hk => HU4.out.block k (owE.lt HOW2.out k hk))
        have HF := Lib.hid (two_own (us := [.int .i64 o1, .int .i64 a1, .int .i64 b1', .slice av e1.length cv]) (vs := [.int .i64 o2, .int .i64 a2, .int .i64 b2', .slice av2 e2.length cv2]) HG4.out HX1.out HX2.out)
        have HM1 := Lib.hid (show ∀ k ∈ fp1, W.heap.size ≤ k ∧ k < u1.heap.size from fun k hk => ⟨(HRG1.out k hk).1, owE.lt HOW1.out k hk⟩)
        have HM2 := Lib.hid (show ∀ k ∈ fp2, u1.heap.size + 1 ≤ k ∧ k < u2.heap.size from fun k hk => ⟨by have := (HRG2.out k hk).1; simpa using this, owE.lt HOW2.out k hk⟩)
        have HS1 := Lib.hid hb1.size
        clear hA4 d2 dW d4 hb1 hb2 hs2 hz
        go_wp2_with fail
        have HT2 := HT.out
        generalize ((((U4.setCell ⟨w.heap.size, 0, none⟩ (.int .i64 8)).setCell ⟨w.heap.size, 1, none⟩ (.int .i64 0)).setCell ⟨w.heap.size, 2, none⟩ (.int .i64 0)).setCell ⟨w.heap.size, 3, none⟩ (.slice (some ⟨u2.heap.size + 1, 0, none⟩) 2 2)) = WF at HT2 ⊢
        obtain ⟨⟨q0, q1, q2, q3⟩, -⟩ := cls_4 HT2.1
        have hz := HZ.out
        have hz4 := HZ4.out
        have hs1 := HS1.out
        have hmem : ∀ k ∈ (u2.heap.size + 1) :: (fp1 ++ fp2), W.heap.size ≤ k ∧ k < u2.heap.size + 3 := fun k hk => by
          rcases List.mem_cons.1 hk with rfl | hk
          · omega
          rcases List.mem_append.1 hk with hk | hk
          · have := HM1.out k hk; omega
          · have := HM2.out k hk; omega
        have hnd : ((u2.heap.size + 1) :: (fp1 ++ fp2)).Nodup := List.nodup_cons.2 ⟨fun h => by
          rcases List.mem_append.1 h with h | h
          · have := HM1.out _ h; omega
          · have := HM2.out _ h; omega, List.nodup_append.2 ⟨HND1.out, HND2.out, fun x hx y hy e => by have := HM1.out x hx; have := HM2.out y hy; omega⟩⟩
        have how := HF.out.touch HT2.2 (fun k hk hk2 => by
          have h9 := List.mem_singleton.1 hk2
          have := (hmem k hk).1
          omega)
        have HGOT : Got16 s w X.1 X.2 (.agg #[.int .i64 8, .int .i64 0, .int .i64 0, .slice (some ⟨u2.heap.size + 1, 0, none⟩) 2 2]) (n2 + 1 + 1) WF := by
          rw [← HPX.out]
          exact ⟨[.int .i64 8, .int .i64 0, .int .i64 0, .slice (some ⟨u2.heap.size + 1, 0, none⟩) 2 2], (u2.heap.size + 1) :: (fp1 ++ fp2), rfl, CondD.ow_mk rfl rfl rfl how, hnd, fun k hk => ⟨by have := (hmem k hk).1; omega, Nat.lt_of_lt_of_le (by have := (hmem k hk).2; omega) HT2.2.size⟩, HEND.out, HD4.out.trans (HT2.2.below (fun k hk => by have := List.mem_singleton.1 hk; omega) HD4.out.size)⟩
        exact bodyPost_ret (v := .tuple #[.agg #[.int .i64 8, .int .i64 0, .int .i64 0, .slice (some ⟨u2.heap.size + 1, 0, none⟩) 2 2], .int .i64 ((n2 : Int) + 1 + 1)]) (by simp [results, Tryd.results21, go_sem, q0, q1, q2, q3]) rfl ⟨_, n2 + 1 + 1, rfl, HGOT⟩
    · have HEND := Lib.hid (show n2 + 1 ≤ s.size ∧ s.data.toList.drop (n2 + 1) = skip1 32 (skip1 41 T2) from ⟨by omega, by rw [t2, t1, hT2]⟩)
      have l2 : decide ((n2 : Int) + 1 < (s.size : Int)) = false := decide_eq_false (by omega)
      have l2' : (s.size : Int) ≤ (n2 : Int) + 1 := by omega
      have c1' : ((s[n2].toNat : Int) == 41) = true := c1
      have i1 : (n2 : Int) < (s.size : Int) := by omega
      clear c1
      clear t1 t2 hT2
      by_cases h9 : wd.data.toList = nameL 9
      · have heq : (wd.toList == [111, 114]) = true := by
          rw [ByteArray.toList_eq]
          exact beq_iff_eq.2 h9
        have HPX := Lib.hid (show (⟨9, 0, 0, [⟨o1, a1, b1', e1⟩, ⟨o2, a2, b2', e2⟩]⟩, skip1 32 (skip1 41 T2)) = X from by rw [← HPP.out, if_pos h9])
        clear h9
        obtain ⟨⟨p0, p1, p2, p3⟩, g0, g1, g2, g3⟩ := cls_4 H14.out
        go_upto_region 14 with fail
        have H15 := Lib.hid (show (U3.setCell ⟨u2.heap.size + 1 + 1, 0, none⟩ (.int .i64 9)).heap[u2.heap.size + 1 + 1]? = some (.cells #[.int .i64 9, .int .i64 0, .int .i64 0, .slice (some ⟨u2.heap.size + 1, 0, none⟩) 2 2] 29) from blk_set H14.out _)
        have HK := Lib.hid (show ∀ k, k ≠ u2.heap.size + 1 + 1 → (U3.setCell ⟨u2.heap.size + 1 + 1, 0, none⟩ (.int .i64 9)).heap[k]? = U3.heap[k]? from fun k hk => Below.heap_setCell U3 ⟨u2.heap.size + 1 + 1, 0, none⟩ _ k hk)
        have HU4 := Lib.hid (show Below u2.heap.size u2 (U3.setCell ⟨u2.heap.size + 1 + 1, 0, none⟩ (.int .i64 9)) from HU3.out.setCell (p := ⟨u2.heap.size + 1 + 1, 0, none⟩) (Nat.le_add_right _ 2) _)
        have HZ4 := Lib.hid (show (U3.setCell ⟨u2.heap.size + 1 + 1, 0, none⟩ (.int .i64 9)).heap.size = u2.heap.size + 3 by rw [← HZ3.out]; simp [World.setCell])
        have HG4 := Lib.hid ((HK.out (u2.heap.size + 1) (by omega)).trans HG3.out)
        clear p0 p1 p2 p3 g0 g1 g2 g3 HK
        generalize U3.setCell ⟨u2.heap.size + 1 + 1, 0, none⟩ (.int .i64 9) = U4 at H15 HU4 HZ4 HG4 ⊢
        obtain ⟨⟨p0, p1, p2, p3⟩, -⟩ := cls_4 H15.out
        have hb1 := HB1.out
        have hb2 := HB2.out
        have hz := HZ.out
        have hs2 := hb2.size
        simp only [World.size_alloc] at hs2
        have d2 : Below u1.heap.size u1 u2 := ((Below.refl _ u1).alloc (Nat.le_refl _) _).trans (hb2.mono (by simp))
        have dW : Below W.heap.size W u2 := hb1.trans (d2.mono hb1.size)
        have d4 : Below W.heap.size W U4 := dW.trans (HU4.out.mono dW.size)
        have hA4 := blk_keep HA.out d4 (by omega)
        have HD4 := Lib.hid (hB.trans (d4.mono hB.size))
        have HT := Lib.hid (stt_4 hA4 (.int .i64 9) (.int .i64 0) (.int .i64 0) (.slice (some ⟨u2.heap.size + 1, 0, none⟩) 2 2))
        obtain ⟨⟨r0, r1, r2, r3⟩, m0, m1', m2, m3⟩ := cls_4 hA4
        have HX1 := Lib.hid (show owE U4 (CondD.c ⟨o1, a1, b1', e1⟩) [.int .i64 o1, .int .i64 a1, .int .i64 b1', .slice av e1.length cv] fp1 from HOW1.out.keep fun k hk => by have := owE.lt HOW1.out k hk; exact (HU4.out.block k (by omega)).trans (d2.block k this))
        have HX2 := Lib.hid (show owE U4 (CondD.c ⟨o2, a2, b2', e2⟩) [.int .i64 o2, .int .i64 a2, .int .i64 b2', .slice av2 e2.length cv2] fp2 from HOW2.out.keep fun k hk => HU4.out.block k (owE.lt HOW2.out k hk))
        have HF := Lib.hid (two_own (us := [.int .i64 o1, .int .i64 a1, .int .i64 b1', .slice av e1.length cv]) (vs := [.int .i64 o2, .int .i64 a2, .int .i64 b2', .slice av2 e2.length cv2]) HG4.out HX1.out HX2.out)
        have HM1 := Lib.hid (show ∀ k ∈ fp1, W.heap.size ≤ k ∧ k < u1.heap.size from fun k hk => ⟨(HRG1.out k hk).1, owE.lt HOW1.out k hk⟩)
        have HM2 := Lib.hid (show ∀ k ∈ fp2, u1.heap.size + 1 ≤ k ∧ k < u2.heap.size from fun k hk => ⟨by have := (HRG2.out k hk).1; simpa using this, owE.lt HOW2.out k hk⟩)
        have HS1 := Lib.hid hb1.size
        clear hA4 d2 dW d4 hb1 hb2 hs2 hz
        go_wp2_with fail
        have HT2 := HT.out
        generalize ((((U4.setCell ⟨w.heap.size, 0, none⟩ (.int .i64 9)).setCell ⟨w.heap.size, 1, none⟩ (.int .i64 0)).setCell ⟨w.heap.size, 2, none⟩ (.int .i64 0)).setCell ⟨w.heap.size, 3, none⟩ (.slice (some ⟨u2.heap.size + 1, 0, none⟩) 2 2)) = WF at HT2 ⊢
        obtain ⟨⟨q0, q1, q2, q3⟩, -⟩ := cls_4 HT2.1
        have hz := HZ.out
        have hz4 := HZ4.out
        have hs1 := HS1.out
        have hmem : ∀ k ∈ (u2.heap.size + 1) :: (fp1 ++ fp2), W.heap.size ≤ k ∧ k < u2.heap.size + 3 := fun k hk => by
          rcases List.mem_cons.1 hk with rfl | hk
          · omega
          rcases List.mem_append.1 hk with hk | hk
          · have := HM1.out k hk; omega
          · have := HM2.out k hk; omega
        have hnd : ((u2.heap.size + 1) :: (fp1 ++ fp2)).Nodup := List.nodup_cons.2 ⟨fun h => by
          rcases List.mem_append.1 h with h | h
          · have := HM1.out _ h; omega
          · have := HM2.out _ h; omega, List.nodup_append.2 ⟨HND1.out, HND2.out, fun x hx y hy e => by have := HM1.out x hx; have := HM2.out y hy; omega⟩⟩
        have how := HF.out.touch HT2.2 (fun k hk hk2 => by
          have h9 := List.mem_singleton.1 hk2
          have := (hmem k hk).1
          omega)
        have HGOT : Got16 s w X.1 X.2 (.agg #[.int .i64 9, .int .i64 0, .int .i64 0, .slice (some ⟨u2.heap.size + 1, 0, none⟩) 2 2]) (n2 + 1) WF := by
          rw [← HPX.out]
          exact ⟨[.int .i64 9, .int .i64 0, .int .i64 0, .slice (some ⟨u2.heap.size + 1, 0, none⟩) 2 2], (u2.heap.size + 1) :: (fp1 ++ fp2), rfl, CondD.ow_mk rfl rfl rfl how, hnd, fun k hk => ⟨by have := (hmem k hk).1; omega, Nat.lt_of_lt_of_le (by have := (hmem k hk).2; omega) HT2.2.size⟩, HEND.out, HD4.out.trans (HT2.2.below (fun k hk => by have := List.mem_singleton.1 hk; omega) HD4.out.size)⟩
        exact bodyPost_ret (v := .tuple #[.agg #[.int .i64 9, .int .i64 0, .int .i64 0, .slice (some ⟨u2.heap.size + 1, 0, none⟩) 2 2], .int .i64 ((n2 : Int) + 1)]) (by simp [results, Tryd.results21, go_sem, q0, q1, q2, q3]) rfl ⟨_, n2 + 1, rfl, HGOT⟩
      · have heq : (wd.toList == [111, 114]) = false := by
          rw [ByteArray.toList_eq]
          exact beq_eq_false_iff_ne.2 h9
        have HPX := Lib.hid (show (⟨8, 0, 0, [⟨o1, a1, b1', e1⟩, ⟨o2, a2, b2', e2⟩]⟩, skip1 32 (skip1 41 T2)) = X from by rw [← HPP.out, if_neg h9])
        clear h9
        go_upto_region 14 with fail
        have H15 := H14
        have HU4 := HU3
        have HZ4 := HZ3
        have HG4 := HG3
        clear H14 HU3 HZ3 HG3
        obtain ⟨U4, hU4⟩ : ∃ U4, U4 = U3 := ⟨_, rfl⟩
        subst hU4
        obtain ⟨⟨p0, p1, p2, p3⟩, -⟩ := cls_4 H15.out
        have hb1 := HB1.out
        have hb2 := HB2.out
        have hz := HZ.out
        have hs2 := hb2.size
        simp only [World.size_alloc] at hs2
        have d2 : Below u1.heap.size u1 u2 := ((Below.refl _ u1).alloc (Nat.le_refl _) _).trans (hb2.mono (by simp))
        have dW : Below W.heap.size W u2 := hb1.trans (d2.mono hb1.size)
        have d4 : Below W.heap.size W U4 := dW.trans (HU4.out.mono dW.size)
        have hA4 := blk_keep HA.out d4 (by omega)
        have HD4 := Lib.hid (hB.trans (d4.mono hB.size))
        have HT := Lib.hid (stt_4 hA4 (.int .i64 8) (.int .i64 0) (.int .i64 0) (.slice (some ⟨u2.heap.size + 1, 0, none⟩) 2 2))
        obtain ⟨⟨r0, r1, r2, r3⟩, m0, m1', m2, m3⟩ := cls_4 hA4
        have HX1 := Lib.hid (show owE U4 (CondD.c ⟨o1, a1, b1', e1⟩) [.int .i64 o1, .int .i64 a1, .int .i64 b1', .slice av e1.length cv] fp1 from HOW1.out.keep fun k hk => by have := owE.lt HOW1.out k hk; exact (HU4.out.block k (by omega)).trans (d2.block k this))
        have HX2 := Lib.hid (show owE U4 (CondD.c ⟨o2, a2, b2', e2⟩) [.int .i64 o2, .int .i64 a2, .int .i64 b2', .slice av2 e2.length cv2] fp2 from HOW2.out.keep fun k hk => HU4.out.block k (owE.lt HOW2.out k hk))
        have HF := Lib.hid (two_own (us := [.int .i64 o1, .int .i64 a1, .int .i64 b1', .slice av e1.length cv]) (vs := [.int .i64 o2, .int .i64 a2, .int .i64 b2', .slice av2 e2.length cv2]) HG4.out HX1.out HX2.out)
        have HM1 := Lib.hid (show ∀ k ∈ fp1, W.heap.size ≤ k ∧ k < u1.heap.size from fun k hk => ⟨(HRG1.out k hk).1, owE.lt HOW1.out k hk⟩)
        have HM2 := Lib.hid (show ∀ k ∈ fp2, u1.heap.size + 1 ≤ k ∧ k < u2.heap.size from fun k hk => ⟨by have := (HRG2.out k hk).1; simpa using this, owE.lt HOW2.out k hk⟩)
        have HS1 := Lib.hid hb1.size
        clear hA4 d2 dW d4 hb1 hb2 hs2 hz
        go_wp2_with fail
        have HT2 := HT.out
        generalize ((((U4.setCell ⟨w.heap.size, 0, none⟩ (.int .i64 8)).setCell ⟨w.heap.size, 1, none⟩ (.int .i64 0)).setCell ⟨w.heap.size, 2, none⟩ (.int .i64 0)).setCell ⟨w.heap.size, 3, none⟩ (.slice (some ⟨u2.heap.size + 1, 0, none⟩) 2 2)) = WF at HT2 ⊢
        obtain ⟨⟨q0, q1, q2, q3⟩, -⟩ := cls_4 HT2.1
        have hz := HZ.out
        have hz4 := HZ4.out
        have hs1 := HS1.out
        have hmem : ∀ k ∈ (u2.heap.size + 1) :: (fp1 ++ fp2), W.heap.size ≤ k ∧ k < u2.heap.size + 3 := fun k hk => by
          rcases List.mem_cons.1 hk with rfl | hk
          · omega
          rcases List.mem_append.1 hk with hk | hk
          · have := HM1.out k hk; omega
          · have := HM2.out k hk; omega
        have hnd : ((u2.heap.size + 1) :: (fp1 ++ fp2)).Nodup := List.nodup_cons.2 ⟨fun h => by
          rcases List.mem_append.1 h with h | h
          · have := HM1.out _ h; omega
          · have := HM2.out _ h; omega, List.nodup_append.2 ⟨HND1.out, HND2.out, fun x hx y hy e => by have := HM1.out x hx; have := HM2.out y hy; omega⟩⟩
        have how := HF.out.touch HT2.2 (fun k hk hk2 => by
          have h9 := List.mem_singleton.1 hk2
          have := (hmem k hk).1
          omega)
        have HGOT : Got16 s w X.1 X.2 (.agg #[.int .i64 8, .int .i64 0, .int .i64 0, .slice (some ⟨u2.heap.size + 1, 0, none⟩) 2 2]) (n2 + 1) WF := by
          rw [← HPX.out]
          exact ⟨[.int .i64 8, .int .i64 0, .int .i64 0, .slice (some ⟨u2.heap.size + 1, 0, none⟩) 2 2], (u2.heap.size + 1) :: (fp1 ++ fp2), rfl, CondD.ow_mk rfl rfl rfl how, hnd, fun k hk => ⟨by have := (hmem k hk).1; omega, Nat.lt_of_lt_of_le (by have := (hmem k hk).2; omega) HT2.2.size⟩, HEND.out, HD4.out.trans (HT2.2.below (fun k hk => by have := List.mem_singleton.1 hk; omega) HD4.out.size)⟩
        exact bodyPost_ret (v := .tuple #[.agg #[.int .i64 8, .int .i64 0, .int .i64 0, .slice (some ⟨u2.heap.size + 1, 0, none⟩) 2 2], .int .i64 ((n2 : Int) + 1)]) (by simp [results, Tryd.results21, go_sem, q0, q1, q2, q3]) rfl ⟨_, n2 + 1, rfl, HGOT⟩
    · have HEND := Lib.hid (show n2 + 1 ≤ s.size ∧ s.data.toList.drop (n2 + 1) = skip1 32 (skip1 41 T2) from ⟨by omega, by rw [t2, t1, hT2]⟩)
      have c1' : ((s[n2].toNat : Int) == 41) = true := c1
      have c2' : ((s[n2 + 1].toNat : Int) == 32) = false := c2
      have i1 : (n2 : Int) < (s.size : Int) := by omega
      clear c1
      have i2 : (n2 : Int) + 1 < (s.size : Int) := by omega
      clear c2
      clear t1 t2 hT2
      by_cases h9 : wd.data.toList = nameL 9
      · have heq : (wd.toList == [111, 114]) = true := by
          rw [ByteArray.toList_eq]
          exact beq_iff_eq.2 h9
        have HPX := Lib.hid (show (⟨9, 0, 0, [⟨o1, a1, b1', e1⟩, ⟨o2, a2, b2', e2⟩]⟩, skip1 32 (skip1 41 T2)) = X from by rw [← HPP.out, if_pos h9])
        clear h9
        obtain ⟨⟨p0, p1, p2, p3⟩, g0, g1, g2, g3⟩ := cls_4 H14.out
        go_upto_region 14 with fail
        have H15 := Lib.hid (show (U3.setCell ⟨u2.heap.size + 1 + 1, 0, none⟩ (.int .i64 9)).heap[u2.heap.size + 1 + 1]? = some (.cells #[.int .i64 9, .int .i64 0, .int .i64 0, .slice (some ⟨u2.heap.size + 1, 0, none⟩) 2 2] 29) from blk_set H14.out _)
        have HK := Lib.hid (show ∀ k, k ≠ u2.heap.size + 1 + 1 → (U3.setCell ⟨u2.heap.size + 1 + 1, 0, none⟩ (.int .i64 9)).heap[k]? = U3.heap[k]? from fun k hk => Below.heap_setCell U3 ⟨u2.heap.size + 1 + 1, 0, none⟩ _ k hk)
        have HU4 := Lib.hid (show Below u2.heap.size u2 (U3.setCell ⟨u2.heap.size + 1 + 1, 0, none⟩ (.int .i64 9)) from HU3.out.setCell (p := ⟨u2.heap.size + 1 + 1, 0, none⟩) (Nat.le_add_right _ 2) _)
        have HZ4 := Lib.hid (show (U3.setCell ⟨u2.heap.size + 1 + 1, 0, none⟩ (.int .i64 9)).heap.size = u2.heap.size + 3 by rw [← HZ3.out]; simp [World.setCell])
        have HG4 := Lib.hid ((HK.out (u2.heap.size + 1) (by omega)).trans HG3.out)
        clear p0 p1 p2 p3 g0 g1 g2 g3 HK
        generalize U3.setCell ⟨u2.heap.size + 1 + 1, 0, none⟩ (.int .i64 9) = U4 at H15 HU4 HZ4 HG4 ⊢
        obtain ⟨⟨p0, p1, p2, p3⟩, -⟩ := cls_4 H15.out
        have hb1 := HB1.out
        have hb2 := HB2.out
        have hz := HZ.out
        have hs2 := hb2.size
        simp only [World.size_alloc] at hs2
        have d2 : Below u1.heap.size u1 u2 := ((Below.refl _ u1).alloc (Nat.le_refl _) _).trans (hb2.mono (by simp))
        have dW : Below W.heap.size W u2 := hb1.trans (d2.mono hb1.size)
        have d4 : Below W.heap.size W U4 := dW.trans (HU4.out.mono dW.size)
        have hA4 := blk_keep HA.out d4 (by omega)
        have HD4 := Lib.hid (hB.trans (d4.mono hB.size))
        have HT := Lib.hid (stt_4 hA4 (.int .i64 9) (.int .i64 0) (.int .i64 0) (.slice (some ⟨u2.heap.size + 1, 0, none⟩) 2 2))
        obtain ⟨⟨r0, r1, r2, r3⟩, m0, m1', m2, m3⟩ := cls_4 hA4
        have HX1 := Lib.hid (show owE U4 (CondD.c ⟨o1, a1, b1', e1⟩) [.int .i64 o1, .int .i64 a1, .int .i64 b1', .slice av e1.length cv] fp1 from HOW1.out.keep fun k hk => by have := owE.lt HOW1.out k hk; exact (HU4.out.block k (by omega)).trans (d2.block k this))
        have HX2 := Lib.hid (show owE U4 (CondD.c ⟨o2, a2, b2', e2⟩) [.int .i64 o2, .int .i64 a2, .int .i64 b2', .slice av2 e2.length cv2] fp2 from HOW2.out.keep fun k hk => HU4.out.block k (owE.lt HOW2.out k hk))
        have HF := Lib.hid (two_own (us := [.int .i64 o1, .int .i64 a1, .int .i64 b1', .slice av e1.length cv]) (vs := [.int .i64 o2, .int .i64 a2, .int .i64 b2', .slice av2 e2.length cv2]) HG4.out HX1.out HX2.out)
        have HM1 := Lib.hid (show ∀ k ∈ fp1, W.heap.size ≤ k ∧ k < u1.heap.size from fun k hk => ⟨(HRG1.out k hk).1, owE.lt HOW1.out k hk⟩)
        have HM2 := Lib.hid (show ∀ k ∈ fp2, u1.heap.size + 1 ≤ k ∧ k < u2.heap.size from fun k hk => ⟨by have := (HRG2.out k hk).1; simpa using this, owE.lt HOW2.out k hk⟩)
        have HS1 := Lib.hid hb1.size
        clear hA4 d2 dW d4 hb1 hb2 hs2 hz
        go_wp2_with fail
        have HT2 := HT.out
        generalize ((((U4.setCell ⟨w.heap.size, 0, none⟩ (.int .i64 9)).setCell ⟨w.heap.size, 1, none⟩ (.int .i64 0)).setCell ⟨w.heap.size, 2, none⟩ (.int .i64 0)).setCell ⟨w.heap.size, 3, none⟩ (.slice (some ⟨u2.heap.size + 1, 0, none⟩) 2 2)) = WF at HT2 ⊢
        obtain ⟨⟨q0, q1, q2, q3⟩, -⟩ := cls_4 HT2.1
        have hz := HZ.out
        have hz4 := HZ4.out
        have hs1 := HS1.out
        have hmem : ∀ k ∈ (u2.heap.size + 1) :: (fp1 ++ fp2), W.heap.size ≤ k ∧ k < u2.heap.size + 3 := fun k hk => by
          rcases List.mem_cons.1 hk with rfl | hk
          · omega
          rcases List.mem_append.1 hk with hk | hk
          · have := HM1.out k hk; omega
          · have := HM2.out k hk; omega
        have hnd : ((u2.heap.size + 1) :: (fp1 ++ fp2)).Nodup := List.nodup_cons.2 ⟨fun h => by
          rcases List.mem_append.1 h with h | h
          · have := HM1.out _ h; omega
          · have := HM2.out _ h; omega, List.nodup_append.2 ⟨HND1.out, HND2.out, fun x hx y hy e => by have := HM1.out x hx; have := HM2.out y hy; omega⟩⟩
        have how := HF.out.touch HT2.2 (fun k hk hk2 => by
          have h9 := List.mem_singleton.1 hk2
          have := (hmem k hk).1
          omega)
        have HGOT : Got16 s w X.1 X.2 (.agg #[.int .i64 9, .int .i64 0, .int .i64 0, .slice (some ⟨u2.heap.size + 1, 0, none⟩) 2 2]) (n2 + 1) WF := by
          rw [← HPX.out]
          exact ⟨[.int .i64 9, .int .i64 0, .int .i64 0, .slice (some ⟨u2.heap.size + 1, 0, none⟩) 2 2], (u2.heap.size + 1) :: (fp1 ++ fp2), rfl, CondD.ow_mk rfl rfl rfl how, hnd, fun k hk => ⟨by have := (hmem k hk).1; omega, Nat.lt_of_lt_of_le (by have := (hmem k hk).2; omega) HT2.2.size⟩, HEND.out, HD4.out.trans (HT2.2.below (fun k hk => by have := List.mem_singleton.1 hk; omega) HD4.out.size)⟩
        exact bodyPost_ret (v := .tuple #[.agg #[.int .i64 9, .int .i64 0, .int .i64 0, .slice (some ⟨u2.heap.size + 1, 0, none⟩) 2 2], .int .i64 ((n2 : Int) + 1)]) (by simp [results, Tryd.results21, go_sem, q0, q1, q2, q3]) rfl ⟨_, n2 + 1, rfl, HGOT⟩
      · have heq : (wd.toList == [111, 114]) = false := by
          rw [ByteArray.toList_eq]
          exact beq_eq_false_iff_ne.2 h9
        have HPX := Lib.hid (show (⟨8, 0, 0, [⟨o1, a1, b1', e1⟩, ⟨o2, a2, b2', e2⟩]⟩, skip1 32 (skip1 41 T2)) = X from by rw [← HPP.out, if_neg h9])
        clear h9
        go_upto_region 14 with fail
        have H15 := H14
        have HU4 := HU3
        have HZ4 := HZ3
        have HG4 := HG3
        clear H14 HU3 HZ3 HG3
        obtain ⟨U4, hU4⟩ : ∃ U4, U4 = U3 := ⟨_, rfl⟩
        subst hU4
        obtain ⟨⟨p0, p1, p2, p3⟩, -⟩ := cls_4 H15.out
        have hb1 := HB1.out
        have hb2 := HB2.out
        have hz := HZ.out
        have hs2 := hb2.size
        simp only [World.size_alloc] at hs2
        have d2 : Below u1.heap.size u1 u2 := ((Below.refl _ u1).alloc (Nat.le_refl _) _).trans (hb2.mono (by simp))
        have dW : Below W.heap.size W u2 := hb1.trans (d2.mono hb1.size)
        have d4 : Below W.heap.size W U4 := dW.trans (HU4.out.mono dW.size)
        have hA4 := blk_keep HA.out d4 (by omega)
        have HD4 := Lib.hid (hB.trans (d4.mono hB.size))
        have HT := Lib.hid (stt_4 hA4 (.int .i64 8) (.int .i64 0) (.int .i64 0) (.slice (some ⟨u2.heap.size + 1, 0, none⟩) 2 2))
        obtain ⟨⟨r0, r1, r2, r3⟩, m0, m1', m2, m3⟩ := cls_4 hA4
        have HX1 := Lib.hid (show owE U4 (CondD.c ⟨o1, a1, b1', e1⟩) [.int .i64 o1, .int .i64 a1, .int .i64 b1', .slice av e1.length cv] fp1 from HOW1.out.keep fun k hk => by have := owE.lt HOW1.out k hk; exact (HU4.out.block k (by omega)).trans (d2.block k this))
        have HX2 := Lib.hid (show owE U4 (CondD.c ⟨o2, a2, b2', e2⟩) [.int .i64 o2, .int .i64 a2, .int .i64 b2', .slice av2 e2.length cv2] fp2 from HOW2.out.keep fun k hk => HU4.out.block k (owE.lt HOW2.out k hk))
        have HF := Lib.hid (two_own (us := [.int .i64 o1, .int .i64 a1, .int .i64 b1', .slice av e1.length cv]) (vs := [.int .i64 o2, .int .i64 a2, .int .i64 b2', .slice av2 e2.length cv2]) HG4.out HX1.out HX2.out)
        have HM1 := Lib.hid (show ∀ k ∈ fp1, W.heap.size ≤ k ∧ k < u1.heap.size from fun k hk => ⟨(HRG1.out k hk).1, owE.lt HOW1.out k hk⟩)
        have HM2 := Lib.hid (show ∀ k ∈ fp2, u1.heap.size + 1 ≤ k ∧ k < u2.heap.size from fun k hk => ⟨by have := (HRG2.out k hk).1; simpa using this, owE.lt HOW2.out k hk⟩)
        have HS1 := Lib.hid hb1.size
        clear hA4 d2 dW d4 hb1 hb2 hs2 hz
        go_wp2_with fail
        have HT2 := HT.out
        generalize ((((U4.setCell ⟨w.heap.size, 0, none⟩ (.int .i64 8)).setCell ⟨w.heap.size, 1, none⟩ (.int .i64 0)).setCell ⟨w.heap.size, 2, none⟩ (.int .i64 0)).setCell ⟨w.heap.size, 3, none⟩ (.slice (some ⟨u2.heap.size + 1, 0, none⟩) 2 2)) = WF at HT2 ⊢
        obtain ⟨⟨q0, q1, q2, q3⟩, -⟩ := cls_4 HT2.1
        have hz := HZ.out
        have hz4 := HZ4.out
        have hs1 := HS1.out
        have hmem : ∀ k ∈ (u2.heap.size + 1) :: (fp1 ++ fp2), W.heap.size ≤ k ∧ k < u2.heap.size + 3 := fun k hk => by
          rcases List.mem_cons.1 hk with rfl | hk
          · omega
          rcases List.mem_append.1 hk with hk | hk
          · have := HM1.out k hk; omega
          · have := HM2.out k hk; omega
        have hnd : ((u2.heap.size + 1) :: (fp1 ++ fp2)).Nodup := List.nodup_cons.2 ⟨fun h => by
          rcases List.mem_append.1 h with h | h
          · have := HM1.out _ h; omega
          · have := HM2.out _ h; omega, List.nodup_append.2 ⟨HND1.out, HND2.out, fun x hx y hy e => by have := HM1.out x hx; have := HM2.out y hy; omega⟩⟩
        have how := HF.out.touch HT2.2 (fun k hk hk2 => by
          have h9 := List.mem_singleton.1 hk2
          have := (hmem k hk).1
          omega)
        have HGOT : Got16 s w X.1 X.2 (.agg #[.int .i64 8, .int .i64 0, .int .i64 0, .slice (some ⟨u2.heap.size + 1, 0, none⟩) 2 2]) (n2 + 1) WF := by
          rw [← HPX.out]
          exact ⟨[.int .i64 8, .int .i64 0, .int .i64 0, .slice (some ⟨u2.heap.size + 1, 0, none⟩) 2 2], (u2.heap.size + 1) :: (fp1 ++ fp2), rfl, CondD.ow_mk rfl rfl rfl how, hnd, fun k hk => ⟨by have := (hmem k hk).1; omega, Nat.lt_of_lt_of_le (by have := (hmem k hk).2; omega) HT2.2.size⟩, HEND.out, HD4.out.trans (HT2.2.below (fun k hk => by have := List.mem_singleton.1 hk; omega) HD4.out.size)⟩
        exact bodyPost_ret (v := .tuple #[.agg #[.int .i64 8, .int .i64 0, .int .i64 0, .slice (some ⟨u2.heap.size + 1, 0, none⟩) 2 2], .int .i64 ((n2 : Int) + 1)]) (by simp [results, Tryd.results21, go_sem, q0, q1, q2, q3]) rfl ⟨_, n2 + 1, rfl, HGOT⟩
  · rcases skip_at s 32 (n2) (by omega) with ⟨h2, c2, t2⟩ | ⟨h2, t2⟩ | ⟨h2, c2, t2⟩
    · exact absurd h2 (by omega)
    · have HEND := Lib.hid (show n2 ≤ s.size ∧ s.data.toList.drop (n2) = skip1 32 (skip1 41 T2) from ⟨by omega, by rw [t2, t1, hT2]⟩)
      have l1 : decide ((n2 : Int) < (s.size : Int)) = false := decide_eq_false (by omega)
      have l1' : (s.size : Int) ≤ (n2 : Int) := by omega
      clear t1 t2 hT2
      by_cases h9 : wd.data.toList = nameL 9
      · have heq : (wd.toList == [111, 114]) = true := by
          rw [ByteArray.toList_eq]
          exact beq_iff_eq.2 h9
        have HPX := Lib.hid (show (⟨9, 0, 0, [⟨o1, a1, b1', e1⟩, ⟨o2, a2, b2', e2⟩]⟩, skip1 32 (skip1 41 T2)) = X from by rw [← HPP.out, if_pos h9])
        clear h9
        obtain ⟨⟨p0, p1, p2, p3⟩, g0, g1, g2, g3⟩ := cls_4 H14.out
        go_upto_region 14 with fail
        have H15 := Lib.hid (show (U3.setCell ⟨u2.heap.size + 1 + 1, 0, none⟩ (.int .i64 9)).heap[u2.heap.size + 1 + 1]? = some (.cells #[.int .i64 9, .int .i64 0, .int .i64 0, .slice (some ⟨u2.heap.size + 1, 0, none⟩) 2 2] 29) from blk_set H14.out _)
        have HK := Lib.hid (show ∀ k, k ≠ u2.heap.size + 1 + 1 → (U3.setCell ⟨u2.heap.size + 1 + 1, 0, none⟩ (.int .i64 9)).heap[k]? = U3.heap[k]? from fun k hk => Below.heap_setCell U3 ⟨u2.heap.size + 1 + 1, 0, none⟩ _ k hk)
        have HU4 := Lib.hid (show Below u2.heap.size u2 (U3.setCell ⟨u2.heap.size + 1 + 1, 0, none⟩ (.int .i64 9)) from HU3.out.setCell (p := ⟨u2.heap.size + 1 + 1, 0, none⟩) (Nat.le_add_right _ 2) _)
        have HZ4 := Lib.hid (show (U3.setCell ⟨u2.heap.size + 1 + 1, 0, none⟩ (.int .i64 9)).heap.size = u2.heap.size + 3 by rw [← HZ3.out]; simp [World.setCell])
        have HG4 := Lib.hid ((HK.out (u2.heap.size + 1) (by omega)).trans HG3.out)
        clear p0 p1 p2 p3 g0 g1 g2 g3 HK
        generalize U3.setCell ⟨u2.heap.size + 1 + 1, 0, none⟩ (.int .i64 9) = U4 at H15 HU4 HZ4 HG4 ⊢
        obtain ⟨⟨p0, p1, p2, p3⟩, -⟩ := cls_4 H15.out
        have hb1 := HB1.out
        have hb2 := HB2.out
        have hz := HZ.out
        have hs2 := hb2.size
        simp only [World.size_alloc] at hs2
        have d2 : Below u1.heap.size u1 u2 := ((Below.refl _ u1).alloc (Nat.le_refl _) _).trans (hb2.mono (by simp))
        have dW : Below W.heap.size W u2 := hb1.trans (d2.mono hb1.size)
        have d4 : Below W.heap.size W U4 := dW.trans (HU4.out.mono dW.size)
        have hA4 := blk_keep HA.out d4 (by omega)
        have HD4 := Lib.hid (hB.trans (d4.mono hB.size))
        have HT := Lib.hid (stt_4 hA4 (.int .i64 9) (.int .i64 0) (.int .i64 0) (.slice (some ⟨u2.heap.size + 1, 0, none⟩) 2 2))
        obtain ⟨⟨r0, r1, r2, r3⟩, m0, m1', m2, m3⟩ := cls_4 hA4
        have HX1 := Lib.hid (show owE U4 (CondD.c ⟨o1, a1, b1', e1⟩) [.int .i64 o1, .int .i64 a1, .int .i64 b1', .slice av e1.length cv] fp1 from HOW1.out.keep fun k hk => by have := owE.lt HOW1.out k hk; exact (HU4.out.block k (by omega)).trans (d2.block k this))
        have HX2 := Lib.hid (show owE U4 (CondD.c ⟨o2, a2, b2', e2⟩) [.int .i64 o2, .int .i64 a2, .int .i64 b2', .slice av2 e2.length cv2] fp2 from HOW2.out.keep fun k hk => HU4.out.block k (owE.lt HOW2.out k hk))
        have HF := Lib.hid (two_own (us := [.int .i64 o1, .int .i64 a1, .int .i64 b1', .slice av e1.length cv]) (vs := [.int .i64 o2, .int .i64 a2, .int .i64 b2', .slice av2 e2.length cv2]) HG4.out HX1.out HX2.out)
        have HM1 := Lib.hid (show ∀ k ∈ fp1, W.heap.size ≤ k ∧ k < u1.heap.size from fun k hk => ⟨(HRG1.out k hk).1, owE.lt HOW1.out k hk⟩)
        have HM2 := Lib.hid (show ∀ k ∈ fp2, u1.heap.size + 1 ≤ k ∧ k < u2.heap.size from fun k hk => ⟨by have := (HRG2.out k hk).1; simpa using this, owE.lt HOW2.out k hk⟩)
        have HS1 := Lib.hid hb1.size
        clear hA4 d2 dW d4 hb1 hb2 hs2 hz
        go_wp2_with fail
        have HT2 := HT.out
        generalize ((((U4.setCell ⟨w.heap.size, 0, none⟩ (.int .i64 9)).setCell ⟨w.heap.size, 1, none⟩ (.int .i64 0)).setCell ⟨w.heap.size, 2, none⟩ (.int .i64 0)).setCell ⟨w.heap.size, 3, none⟩ (.slice (some ⟨u2.heap.size + 1, 0, none⟩) 2 2)) = WF at HT2 ⊢
        obtain ⟨⟨q0, q1, q2, q3⟩, -⟩ := cls_4 HT2.1
        have hz := HZ.out
        have hz4 := HZ4.out
        have hs1 := HS1.out
        have hmem : ∀ k ∈ (u2.heap.size + 1) :: (fp1 ++ fp2), W.heap.size ≤ k ∧ k < u2.heap.size + 3 := fun k hk => by
          rcases List.mem_cons.1 hk with rfl | hk
          · omega
          rcases List.mem_append.1 hk with hk | hk
          · have := HM1.out k hk; omega
          · have := HM2.out k hk; omega
        have hnd : ((u2.heap.size + 1) :: (fp1 ++ fp2)).Nodup := List.nodup_cons.2 ⟨fun h => by
          rcases List.mem_append.1 h with h | h
          · have := HM1.out _ h; omega
          · have := HM2.out _ h; omega, List.nodup_append.2 ⟨HND1.out, HND2.out, fun x hx y hy e => by have := HM1.out x hx; have := HM2.out y hy; omega⟩⟩
        have how := HF.out.touch HT2.2 (fun k hk hk2 => by
          have h9 := List.mem_singleton.1 hk2
          have := (hmem k hk).1
          omega)
        have HGOT : Got16 s w X.1 X.2 (.agg #[.int .i64 9, .int .i64 0, .int .i64 0, .slice (some ⟨u2.heap.size + 1, 0, none⟩) 2 2]) (n2) WF := by
          rw [← HPX.out]
          exact ⟨[.int .i64 9, .int .i64 0, .int .i64 0, .slice (some ⟨u2.heap.size + 1, 0, none⟩) 2 2], (u2.heap.size + 1) :: (fp1 ++ fp2), rfl, CondD.ow_mk rfl rfl rfl how, hnd, fun k hk => ⟨by have := (hmem k hk).1; omega, Nat.lt_of_lt_of_le (by have := (hmem k hk).2; omega) HT2.2.size⟩, HEND.out, HD4.out.trans (HT2.2.below (fun k hk => by have := List.mem_singleton.1 hk; omega) HD4.out.size)⟩
        exact bodyPost_ret (v := .tuple #[.agg #[.int .i64 9, .int .i64 0, .int .i64 0, .slice (some ⟨u2.heap.size + 1, 0, none⟩) 2 2], .int .i64 ((n2 : Int))]) (by simp [results, Tryd.results21, go_sem, q0, q1, q2, q3]) rfl ⟨_, n2, rfl, HGOT⟩
      · have heq : (wd.toList == [111, 114]) = false := by
          rw [ByteArray.toList_eq]
          exact beq_eq_false_iff_ne.2 h9
        have HPX := Lib.hid (show (⟨8, 0, 0, [⟨o1, a1, b1', e1⟩, ⟨o2, a2, b2', e2⟩]⟩, skip1 32 (skip1 41 T2)) = X from by rw [← HPP.out, if_neg h9])
        clear h9
        go_upto_region 14 with fail
        have H15 := H14
        have HU4 := HU3
        have HZ4 := HZ3
        have HG4 := HG3
        clear H14 HU3 HZ3 HG3
        obtain ⟨U4, hU4⟩ : ∃ U4, U4 = U3 := ⟨_, rfl⟩
        subst hU4
        obtain ⟨⟨p0, p1, p2, p3⟩, -⟩ := cls_4 H15.out
        have hb1 := HB1.out
        have hb2 := HB2.out
        have hz := HZ.out
        have hs2 := hb2.size
        simp only [World.size_alloc] at hs2
        have d2 : Below u1.heap.size u1 u2 := ((Below.refl _ u1).alloc (Nat.le_refl _) _).trans (hb2.mono (by simp))
        have dW : Below W.heap.size W u2 := hb1.trans (d2.mono hb1.size)
        have d4 : Below W.heap.size W U4 := dW.trans (HU4.out.mono dW.size)
        have hA4 := blk_keep HA.out d4 (by omega)
        have HD4 := Lib.hid (hB.trans (d4.mono hB.size))
        have HT := Lib.hid (stt_4 hA4 (.int .i64 8) (.int .i64 0) (.int .i64 0) (.slice (some ⟨u2.heap.size + 1, 0, none⟩) 2 2))
        obtain ⟨⟨r0, r1, r2, r3⟩, m0, m1', m2, m3⟩ := cls_4 hA4
        have HX1 := Lib.hid (show owE U4 (CondD.c ⟨o1, a1, b1', e1⟩) [.int .i64 o1, .int .i64 a1, .int .i64 b1', .slice av e1.length cv] fp1 from HOW1.out.keep fun k hk => by have := owE.lt HOW1.out k hk; exact (HU4.out.block k (by omega)).trans (d2.block k this))
        have HX2 := Lib.hid (show owE U4 (CondD.c ⟨o2, a2, b2', e2⟩) [.int .i64 o2, .int .i64 a2, .int .i64 b2', .slice av2 e2.length cv2] fp2 from HOW2.out.keep fun k hk => HU4.out.block k (owE.lt HOW2.out k hk))
        have HF := Lib.hid (two_own (us := [.int .i64 o1, .int .i64 a1, .int .i64 b1', .slice av e1.length cv]) (vs := [.int .i64 o2, .int .i64 a2, .int .i64 b2', .slice av2 e2.length cv2]) HG4.out HX1.out HX2.out)
        have HM1 := Lib.hid (show ∀ k ∈ fp1, W.heap.size ≤ k ∧ k < u1.heap.size from fun k hk => ⟨(HRG1.out k hk).1, owE.lt HOW1.out k hk⟩)
        have HM2 := Lib.hid (show ∀ k ∈ fp2, u1.heap.size + 1 ≤ k ∧ k < u2.heap.size from fun k hk => ⟨by have := (HRG2.out k hk).1; simpa using this, owE.lt HOW2.out k hk⟩)
        have HS1 := Lib.hid hb1.size
        clear hA4 d2 dW d4 hb1 hb2 hs2 hz
        go_wp2_with fail
        have HT2 := HT.out
        generalize ((((U4.setCell ⟨w.heap.size, 0, none⟩ (.int .i64 8)).setCell ⟨w.heap.size, 1, none⟩ (.int .i64 0)).setCell ⟨w.heap.size, 2, none⟩ (.int .i64 0)).setCell ⟨w.heap.size, 3, none⟩ (.slice (some ⟨u2.heap.size + 1, 0, none⟩) 2 2)) = WF at HT2 ⊢
        obtain ⟨⟨q0, q1, q2, q3⟩, -⟩ := cls_4 HT2.1
        have hz := HZ.out
        have hz4 := HZ4.out
        have hs1 := HS1.out
        have hmem : ∀ k ∈ (u2.heap.size + 1) :: (fp1 ++ fp2), W.heap.size ≤ k ∧ k < u2.heap.size + 3 := fun k hk => by
          rcases List.mem_cons.1 hk with rfl | hk
          · omega
          rcases List.mem_append.1 hk with hk | hk
          · have := HM1.out k hk; omega
          · have := HM2.out k hk; omega
        have hnd : ((u2.heap.size + 1) :: (fp1 ++ fp2)).Nodup := List.nodup_cons.2 ⟨fun h => by
          rcases List.mem_append.1 h with h | h
          · have := HM1.out _ h; omega
          · have := HM2.out _ h; omega, List.nodup_append.2 ⟨HND1.out, HND2.out, fun x hx y hy e => by have := HM1.out x hx; have := HM2.out y hy; omega⟩⟩
        have how := HF.out.touch HT2.2 (fun k hk hk2 => by
          have h9 := List.mem_singleton.1 hk2
          have := (hmem k hk).1
          omega)
        have HGOT : Got16 s w X.1 X.2 (.agg #[.int .i64 8, .int .i64 0, .int .i64 0, .slice (some ⟨u2.heap.size + 1, 0, none⟩) 2 2]) (n2) WF := by
          rw [← HPX.out]
          exact ⟨[.int .i64 8, .int .i64 0, .int .i64 0, .slice (some ⟨u2.heap.size + 1, 0, none⟩) 2 2], (u2.heap.size + 1) :: (fp1 ++ fp2), rfl, CondD.ow_mk rfl rfl rfl how, hnd, fun k hk => ⟨by have := (hmem k hk).1; omega, Nat.lt_of_lt_of_le (by have := (hmem k hk).2; omega) HT2.2.size⟩, HEND.out, HD4.out.trans (HT2.2.below (fun k hk => by have := List.mem_singleton.1 hk; omega) HD4.out.size)⟩
        exact bodyPost_ret (v := .tuple #[.agg #[.int .i64 8, .int .i64 0, .int .i64 0, .slice (some ⟨u2.heap.size + 1, 0, none⟩) 2 2], .int .i64 ((n2 : Int))]) (by simp [results, Tryd.results21, go_sem, q0, q1, q2, q3]) rfl ⟨_, n2, rfl, HGOT⟩
    · exact absurd h2 (by omega)
  · rcases skip_at s 32 (n2) (by omega) with ⟨h2, c2, t2⟩ | ⟨h2, t2⟩ | ⟨h2, c2, t2⟩
    · have HEND := Lib.hid (show n2 + 1 ≤ s.size ∧ s.data.toList.drop (n2 + 1) = skip1 32 (skip1 41 T2) from ⟨by omega, by rw [t2, t1, hT2]⟩)
      have c1' : ((s[n2].toNat : Int) == 41) = false := c1
      have c2' : ((s[n2].toNat : Int) == 32) = true := c2
      have i1 : (n2 : Int) < (s.size : Int) := by omega
      clear c1
      have i2 : (n2 : Int) < (s.size : Int) := by omega
      clear c2
      clear t1 t2 hT2
      by_cases h9 : wd.data.toList = nameL 9
      · have heq : (wd.toList == [111, 114]) = true := by
          rw [ByteArray.toList_eq]
          exact beq_iff_eq.2 h9
        have HPX := Lib.hid (show (⟨9, 0, 0, [⟨o1, a1, b1', e1⟩, ⟨o2, a2, b2', e2⟩]⟩, skip1 32 (skip1 41 T2)) = X from by rw [← HPP.out, if_pos h9])
        clear h9
        obtain ⟨⟨p0, p1, p2, p3⟩, g0, g1, g2, g3⟩ := cls_4 H14.out
        go_upto_region 14 with fail
        have H15 := Lib.hid (show (U3.setCell ⟨u2.heap.size + 1 + 1, 0, none⟩ (.int .i64 9)).heap[u2.heap.size + 1 + 1]? = some (.cells #[.int .i64 9, .int .i64 0, .int .i64 0, .slice (some ⟨u2.heap.size + 1, 0, none⟩) 2 2] 29) from blk_set H14.out _)
        have HK := Lib.hid (show ∀ k, k ≠ u2.heap.size + 1 + 1 → (U3.setCell ⟨u2.heap.size + 1 + 1, 0, none⟩ (.int .i64 9)).heap[k]? = U3.heap[k]? from fun k hk => Below.heap_setCell U3 ⟨u2.heap.size + 1 + 1, 0, none⟩ _ k hk)
        have HU4 := Lib.hid (show Below u2.heap.size u2 (U3.setCell ⟨u2.heap.size + 1 + 1, 0, none⟩ (.int .i64 9)) from HU3.out.setCell (p := ⟨u2.heap.size + 1 + 1, 0, none⟩) (Nat.le_add_right _ 2) _)
        have HZ4 := Lib.hid (show (U3.setCell ⟨u2.heap.size + 1 + 1, 0, none⟩ (.int .i64 9)).heap.size = u2.heap.size + 3 by rw [← HZ3.out]; simp [World.setCell])
        have HG4 := Lib.hid ((HK.out (u2.heap.size + 1) (by omega)).trans HG3.out)
        clear p0 p1 p2 p3 g0 g1 g2 g3 HK
        generalize U3.setCell ⟨u2.heap.size + 1 + 1, 0, none⟩ (.int .i64 9) = U4 at H15 HU4 HZ4 HG4 ⊢
        obtain ⟨⟨p0, p1, p2, p3⟩, -⟩ := cls_4 H15.out
        have hb1 := HB1.out
        have hb2 := HB2.out
        have hz := HZ.out
        have hs2 := hb2.size
        simp only [World.size_alloc] at hs2
        have d2 : Below u1.heap.size u1 u2 := ((Below.refl _ u1).alloc (Nat.le_refl _) _).trans (hb2.mono (by simp))
        have dW : Below W.heap.size W u2 := hb1.trans (d2.mono hb1.size)
        have d4 : Below W.heap.size W U4 := dW.trans (HU4.out.mono dW.size)
        have hA4 := blk_keep HA.out d4 (by omega)
        have HD4 := Lib.hid (hB.trans (d4.mono hB.size))
        have HT := Lib.hid (stt_4 hA4 (.int .i64 9) (.int .i64 0) (.int .i64 0) (.slice (some ⟨u2.heap.size + 1, 0, none⟩) 2 2))
        obtain ⟨⟨r0, r1, r2, r3⟩, m0, m1', m2, m3⟩ := cls_4 hA4
        have HX1 := Lib.hid (show owE U4 (CondD.c ⟨o1, a1, b1', e1⟩) [.int .i64 o1, .int .i64 a1, .int .i64 b1', .slice av e1.length cv] fp1 from HOW1.out.keep fun k hk => by have := owE.lt HOW1.out k hk; exact (HU4.out.block k (by omega)).trans (d2.block k this))
        have HX2 := Lib.hid (show owE U4 (CondD.c ⟨o2, a2, b2', e2⟩) [.int .i64 o2, .int .i64 a2, .int .i64 b2', .slice av2 e2.length cv2] fp2 from HOW2.out.keep fun k hk => HU4.out.block k (owE.lt HOW2.out k hk))
        have HF := Lib.hid (two_own (us := [.int .i64 o1, .int .i64 a1, .int .i64 b1', .slice av e1.length cv]) (vs := [.int .i64 o2, .int .i64 a2, .int .i64 b2', .slice av2 e2.length cv2]) HG4.out HX1.out HX2.out)
        have HM1 := Lib.hid (show ∀ k ∈ fp1, W.heap.size ≤ k ∧ k < u1.heap.size from fun k hk => ⟨(HRG1.out k hk).1, owE.lt HOW1.out k hk⟩)
        have HM2 := Lib.hid (show ∀ k ∈ fp2, u1.heap.size + 1 ≤ k ∧ k < u2.heap.size from fun k hk => ⟨by have := (HRG2.out k hk).1; simpa using this, owE.lt HOW2.out k hk⟩)
        have HS1 := Lib.hid hb1.size
        clear hA4 d2 dW d4 hb1 hb2 hs2 hz
        go_wp2_with fail
        have HT2 := HT.out
        generalize ((((U4.setCell ⟨w.heap.size, 0, none⟩ (.int .i64 9)).setCell ⟨w.heap.size, 1, none⟩ (.int .i64 0)).setCell ⟨w.heap.size, 2, none⟩ (.int .i64 0)).setCell ⟨w.heap.size, 3, none⟩ (.slice (some ⟨u2.heap.size + 1, 0, none⟩) 2 2)) = WF at HT2 ⊢
        obtain ⟨⟨q0, q1, q2, q3⟩, -⟩ := cls_4 HT2.1
        have hz := HZ.out
        have hz4 := HZ4.out
        have hs1 := HS1.out
        have hmem : ∀ k ∈ (u2.heap.size + 1) :: (fp1 ++ fp2), W.heap.size ≤ k ∧ k < u2.heap.size + 3 := fun k hk => by
          rcases List.mem_cons.1 hk with rfl | hk
          · omega
          rcases List.mem_append.1 hk with hk | hk
          · have := HM1.out k hk; omega
          · have := HM2.out k hk; omega
        have hnd : ((u2.heap.size + 1) :: (fp1 ++ fp2)).Nodup := List.nodup_cons.2 ⟨fun h => by
          rcases List.mem_append.1 h with h | h
          · have := HM1.out _ h; omega
          · have := HM2.out _ h; omega, List.nodup_append.2 ⟨HND1.out, HND2.out, fun x hx y hy e => by have := HM1.out x hx; have := HM2.out y hy; omega⟩⟩
        have how := HF.out.touch HT2.2 (fun k hk hk2 => by
          have h9 := List.mem_singleton.1 hk2
          have := (hmem k hk).1
          omega)
        have HGOT : Got16 s w X.1 X.2 (.agg #[.int .i64 9, .int .i64 0, .int .i64 0, .slice (some ⟨u2.heap.size + 1, 0, none⟩) 2 2]) (n2 + 1) WF := by
          rw [← HPX.out]
          exact ⟨[.int .i64 9, .int .i64 0, .int .i64 0, .slice (some ⟨u2.heap.size + 1, 0, none⟩) 2 2], (u2.heap.size + 1) :: (fp1 ++ fp2), rfl, CondD.ow_mk rfl rfl rfl how, hnd, fun k hk => ⟨by have := (hmem k hk).1; omega, Nat.lt_of_lt_of_le (by have := (hmem k hk).2; omega) HT2.2.size⟩, HEND.out, HD4.out.trans (HT2.2.below (fun k hk => by have := List.mem_singleton.1 hk; omega) HD4.out.size)⟩
        exact bodyPost_ret (v := .tuple #[.agg #[.int .i64 9, .int .i64 0, .int .i64 0, .slice (some ⟨u2.heap.size + 1, 0, none⟩) 2 2], .int .i64 ((n2 : Int) + 1)]) (by simp [results, Tryd.results21, go_sem, q0, q1, q2, q3]) rfl ⟨_, n2 + 1, rfl, HGOT⟩
      · have heq : (wd.toList == [111, 114]) = false := by
          rw [ByteArray.toList_eq]
          exact beq_eq_false_iff_ne.2 h9
        have HPX := Lib.hid (show (⟨8, 0, 0, [⟨o1, a1, b1', e1⟩, ⟨o2, a2, b2', e2⟩]⟩, skip1 32 (skip1 41 T2)) = X from by rw [← HPP.out, if_neg h9])
        clear h9
        go_upto_region 14 with fail
        have H15 := H14
        have HU4 := HU3
        have HZ4 := HZ3
        have HG4 := HG3
        clear H14 HU3 HZ3 HG3
        obtain ⟨U4, hU4⟩ : ∃ U4, U4 = U3 := ⟨_, rfl⟩
        subst hU4
        obtain ⟨⟨p0, p1, p2, p3⟩, -⟩ := cls_4 H15.out
        have hb1 := HB1.out
        have hb2 := HB2.out
        have hz := HZ.out
        have hs2 := hb2.size
        simp only [World.size_alloc] at hs2
        have d2 : Below u1.heap.size u1 u2 := ((Below.refl _ u1).alloc (Nat.le_refl _) _).trans (hb2.mono (by simp))
        have dW : Below W.heap.size W u2 := hb1.trans (d2.mono hb1.size)
        have d4 : Below W.heap.size W U4 := dW.trans (HU4.out.mono dW.size)
        have hA4 := blk_keep HA.out d4 (by omega)
        have HD4 := Lib.hid (hB.trans (d4.mono hB.size))
        have HT := Lib.hid (stt_4 hA4 (.int .i64 8) (.int .i64 0) (.int .i64 0) (.slice (some ⟨u2.heap.size + 1, 0, none⟩) 2 2))
        obtain ⟨⟨r0, r1, r2, r3⟩, m0, m1', m2, m3⟩ := cls_4 hA4
        have HX1 := Lib.hid (show owE U4 (CondD.c ⟨o1, a1, b1', e1⟩) [.int .i64 o1, .int .i64 a1, .int .i64 b1', .slice av e1.length cv] fp1 from HOW1.out.keep fun k hk => by have := owE.lt HOW1.out k hk; exact (HU4.out.block k (by omega)).trans (d2.block k this))
        have HX2 := Lib.hid (show owE U4 (CondD.c ⟨o2, a2, b2', e2⟩) [.int .i64 o2, .int .i64 a2, .int .i64 b2', .slice av2 e2.length cv2] fp2 from HOW2.out.keep fun k hk => HU4.out.block k (owE.lt HOW2.out k hk))
        have HF := Lib.hid (two_own (us := [.int .i64 o1, .int .i64 a1, .int .i64 b1', .slice av e1.length cv]) (vs := [.int .i64 o2, .int .i64 a2, .int .i64 b2', .slice av2 e2.length cv2]) HG4.out HX1.out HX2.out)
        have HM1 := Lib.hid (show ∀ k ∈ fp1, W.heap.size ≤ k ∧ k < u1.heap.size from fun k hk => ⟨(HRG1.out k hk).1, owE.lt HOW1.out k hk⟩)
        have HM2 := Lib.hid (show ∀ k ∈ fp2, u1.heap.size + 1 ≤ k ∧ k < u2.heap.size from fun k hk => ⟨by have := (HRG2.out k hk).1; simpa using this, owE.lt HOW2.out k hk⟩)
        have HS1 := Lib.hid hb1.size
        clear hA4 d2 dW d4 hb1 hb2 hs2 hz
        go_wp2_with fail
        have HT2 := HT.out
        generalize ((((U4.setCell ⟨w.heap.size, 0, none⟩ (.int .i64 8)).setCell ⟨w.heap.size, 1, none⟩ (.int .i64 0)).setCell ⟨w.heap.size, 2, none⟩ (.int .i64 0)).setCell ⟨w.heap.size, 3, none⟩ (.slice (some ⟨u2.heap.size + 1, 0, none⟩) 2 2)) = WF at HT2 ⊢
        obtain ⟨⟨q0, q1, q2, q3⟩, -⟩ := cls_4 HT2.1
        have hz := HZ.out
        have hz4 := HZ4.out
        have hs1 := HS1.out
        have hmem : ∀ k ∈ (u2.heap.size + 1) :: (fp1 ++ fp2), W.heap.size ≤ k ∧ k < u2.heap.size + 3 := fun k hk => by
          rcases List.mem_cons.1 hk with rfl | hk
          · omega
          rcases List.mem_append.1 hk with hk | hk
          · have := HM1.out k hk; omega
          · have := HM2.out k hk; omega
        have hnd : ((u2.heap.size + 1) :: (fp1 ++ fp2)).Nodup := List.nodup_cons.2 ⟨fun h => by
          rcases List.mem_append.1 h with h | h
          · have := HM1.out _ h; omega
          · have := HM2.out _ h; omega, List.nodup_append.2 ⟨HND1.out, HND2.out, fun x hx y hy e => by have := HM1.out x hx; have := HM2.out y hy; omega⟩⟩
        have how := HF.out.touch HT2.2 (fun k hk hk2 => by
          have h9 := List.mem_singleton.1 hk2
          have := (hmem k hk).1
          omega)
        have HGOT : Got16 s w X.1 X.2 (.agg #[.int .i64 8, .int .i64 0, .int .i64 0, .slice (some ⟨u2.heap.size + 1, 0, none⟩) 2 2]) (n2 + 1) WF := by
          rw [← HPX.out]
          exact ⟨[.int .i64 8, .int .i64 0, .int .i64 0, .slice (some ⟨u2.heap.size + 1, 0, none⟩) 2 2], (u2.heap.size + 1) :: (fp1 ++ fp2), rfl, CondD.ow_mk rfl rfl rfl how, hnd, fun k hk => ⟨by have := (hmem k hk).1; omega, Nat.lt_of_lt_of_le (by have := (hmem k hk).2; omega) HT2.2.size⟩, HEND.out, HD4.out.trans (HT2.2.below (fun k hk => by have := List.mem_singleton.1 hk; omega) HD4.out.size)⟩
        exact bodyPost_ret (v := .tuple #[.agg #[.int .i64 8, .int .i64 0, .int .i64 0, .slice (some ⟨u2.heap.size + 1, 0, none⟩) 2 2], .int .i64 ((n2 : Int) + 1)]) (by simp [results, Tryd.results21, go_sem, q0, q1, q2, q3]) rfl ⟨_, n2 + 1, rfl, HGOT⟩
    · exact absurd h2 (by omega)
    · have HEND := Lib.hid (show n2 ≤ s.size ∧ s.data.toList.drop (n2) = skip1 32 (skip1 41 T2) from ⟨by omega, by rw [t2, t1, hT2]⟩)
      have c1' : ((s[n2].toNat : Int) == 41) = false := c1
      have c2' : ((s[n2].toNat : Int) == 32) = false := c2
      have i1 : (n2 : Int) < (s.size : Int) := by omega
      clear c1
      have i2 : (n2 : Int) < (s.size : Int) := by omega
      clear c2
      clear t1 t2 hT2
      by_cases h9 : wd.data.toList = nameL 9
      · have heq : (wd.toList == [111, 114]) = true := by
          rw [ByteArray.toList_eq]
          exact beq_iff_eq.2 h9
        have HPX := Lib.hid (show (⟨9, 0, 0, [⟨o1, a1, b1', e1⟩, ⟨o2, a2, b2', e2⟩]⟩, skip1 32 (skip1 41 T2)) = X from by rw [← HPP.out, if_pos h9])
        clear h9
        obtain ⟨⟨p0, p1, p2, p3⟩, g0, g1, g2, g3⟩ := cls_4 H14.out
        go_upto_region 14 with fail
        have H15 := Lib.hid (show (U3.setCell ⟨u2.heap.size + 1 + 1, 0, none⟩ (.int .i64 9)).heap[u2.heap.size + 1 + 1]? = some (.cells #[.int .i64 9, .int .i64 0, .int .i64 0, .slice (some ⟨u2.heap.size + 1, 0, none⟩) 2 2] 29) from blk_set H14.out _)
        have HK := Lib.hid (show ∀ k, k ≠ u2.heap.size + 1 + 1 → (U3.setCell ⟨u2.heap.size + 1 + 1, 0, none⟩ (.int .i64 9)).heap[k]? = U3.heap[k]? from fun k hk => Below.heap_setCell U3 ⟨u2.heap.size + 1 + 1, 0, none⟩ _ k hk)
        have HU4 := Lib.hid (show Below u2.heap.size u2 (U3.setCell ⟨u2.heap.size + 1 + 1, 0, none⟩ (.int .i64 9)) from HU3.out.setCell (p := ⟨u2.heap.size + 1 + 1, 0, none⟩) (Nat.le_add_right _ 2) _)
        have HZ4 := Lib.hid (show (U3.setCell ⟨u2.heap.size + 1 + 1, 0, none⟩ (.int .i64 9)).heap.size = u2.heap.size + 3 by rw [← HZ3.out]; simp [World.setCell])
        have HG4 := Lib.hid ((HK.out (u2.heap.size + 1) (by omega)).trans HG3.out)
        clear p0 p1 p2 p3 g0 g1 g2 g3 HK
        generalize U3.setCell ⟨u2.heap.size + 1 + 1, 0, none⟩ (.int .i64 9) = U4 at H15 HU4 HZ4 HG4 ⊢
        obtain ⟨⟨p0, p1, p2, p3⟩, -⟩ := cls_4 H15.out
        have hb1 := HB1.out
        have hb2 := HB2.out
        have hz := HZ.out
        have hs2 := hb2.size
        simp only [World.size_alloc] at hs2
        have d2 : Below u1.heap.size u1 u2 := ((Below.refl _ u1).alloc (Nat.le_refl _) _).trans (hb2.mono (by simp))
        have dW : Below W.heap.size W u2 := hb1.trans (d2.mono hb1.size)
        have d4 : Below W.heap.size W U4 := dW.trans (HU4.out.mono dW.size)
        have hA4 := blk_keep HA.out d4 (by omega)
        have HD4 := Lib.hid (hB.trans (d4.mono hB.size))
        have HT := Lib.hid (stt_4 hA4 (.int .i64 9) (.int .i64 0) (.int .i64 0) (.slice (some ⟨u2.heap.size + 1, 0, none⟩) 2 2))
        obtain ⟨⟨r0, r1, r2, r3⟩, m0, m1', m2, m3⟩ := cls_4 hA4
        have HX1 := Lib.hid (show owE U4 (CondD.c ⟨o1, a1, b1', e1⟩) [.int .i64 o1, .int .i64 a1, .int .i64 b1', .slice av e1.length cv] fp1 from HOW1.out.keep fun k hk => by have := owE.lt HOW1.out k hk; exact (HU4.out.block k (by omega)).trans (d2.block k this))
        have HX2 := Lib.hid (show owE U4 (CondD.c ⟨o2, a2, b2', e2⟩) [.int .i64 o2, .int .i64 a2, .int .i64 b2', .slice av2 e2.length cv2] fp2 from HOW2.out.keep fun k hk => HU4.out.block k (owE.lt HOW2.out k hk))
        have HF := Lib.hid (two_own (us := [.int .i64 o1, .int .i64 a1, .int .i64 b1', .slice av e1.length cv]) (vs := [.int .i64 o2, .int .i64 a2, .int .i64 b2', .slice av2 e2.length cv2]) HG4.out HX1.out HX2.out)
        have HM1 := Lib.hid (show ∀ k ∈ fp1, W.heap.size ≤ k ∧ k < u1.heap.size from fun k hk => ⟨(HRG1.out k hk).1, owE.lt HOW1.out k hk⟩)
        have HM2 := Lib.hid (show ∀ k ∈ fp2, u1.heap.size + 1 ≤ k ∧ k < u2.heap.size from fun k hk => ⟨by have := (HRG2.out k hk).1; simpa using this, owE.lt HOW2.out k hk⟩)
        have HS1 := Lib.hid hb1.size
        clear hA4 d2 dW d4 hb1 hb2 hs2 hz
        go_wp2_with fail
        have HT2 := HT.out
        generalize ((((U4.setCell ⟨w.heap.size, 0, none⟩ (.int .i64 9)).setCell ⟨w.heap.size, 1, none⟩ (.int .i64 0)).setCell ⟨w.heap.size, 2, none⟩ (.int .i64 0)).setCell ⟨w.heap.size, 3, none⟩ (.slice (some ⟨u2.heap.size + 1, 0, none⟩) 2 2)) = WF at HT2 ⊢
        obtain ⟨⟨q0, q1, q2, q3⟩, -⟩ := cls_4 HT2.1
        have hz := HZ.out
        have hz4 := HZ4.out
        have hs1 := HS1.out
        have hmem : ∀ k ∈ (u2.heap.size + 1) :: (fp1 ++ fp2), W.heap.size ≤ k ∧ k < u2.heap.size + 3 := fun k hk => by
          rcases List.mem_cons.1 hk with rfl | hk
          · omega
          rcases List.mem_append.1 hk with hk | hk
          · have := HM1.out k hk; omega
          · have := HM2.out k hk; omega
        have hnd : ((u2.heap.size + 1) :: (fp1 ++ fp2)).Nodup := List.nodup_cons.2 ⟨fun h => by
          rcases List.mem_append.1 h with h | h
          · have := HM1.out _ h; omega
          · have := HM2.out _ h; omega, List.nodup_append.2 ⟨HND1.out, HND2.out, fun x hx y hy e => by have := HM1.out x hx; have := HM2.out y hy; omega⟩⟩
        have how := HF.out.touch HT2.2 (fun k hk hk2 => by
          have h9 := List.mem_singleton.1 hk2
          have := (hmem k hk).1
          omega)
        have HGOT : Got16 s w X.1 X.2 (.agg #[.int .i64 9, .int .i64 0, .int .i64 0, .slice (some ⟨u2.heap.size + 1, 0, none⟩) 2 2]) (n2) WF := by
          rw [← HPX.out]
          exact ⟨[.int .i64 9, .int .i64 0, .int .i64 0, .slice (some ⟨u2.heap.size + 1, 0, none⟩) 2 2], (u2.heap.size + 1) :: (fp1 ++ fp2), rfl, CondD.ow_mk rfl rfl rfl how, hnd, fun k hk => ⟨by have := (hmem k hk).1; omega, Nat.lt_of_lt_of_le (by have := (hmem k hk).2; omega) HT2.2.size⟩, HEND.out, HD4.out.trans (HT2.2.below (fun k hk => by have := List.mem_singleton.1 hk; omega) HD4.out.size)⟩
        exact bodyPost_ret (v := .tuple #[.agg #[.int .i64 9, .int .i64 0, .int .i64 0, .slice (some ⟨u2.heap.size + 1, 0, none⟩) 2 2], .int .i64 ((n2 : Int))]) (by simp [results, Tryd.results21, go_sem, q0, q1, q2, q3]) rfl ⟨_, n2, rfl, HGOT⟩
      · have heq : (wd.toList == [111, 114]) = false := by
          rw [ByteArray.toList_eq]
          exact beq_eq_false_iff_ne.2 h9
        have HPX := Lib.hid (show (⟨8, 0, 0, [⟨o1, a1, b1', e1⟩, ⟨o2, a2, b2', e2⟩]⟩, skip1 32 (skip1 41 T2)) = X from by rw [← HPP.out, if_neg h9])
        clear h9
        go_upto_region 14 with fail
        have H15 := H14
        have HU4 := HU3
        have HZ4 := HZ3
        have HG4 := HG3
        clear H14 HU3 HZ3 HG3
        obtain ⟨U4, hU4⟩ : ∃ U4, U4 = U3 := ⟨_, rfl⟩
        subst hU4
        obtain ⟨⟨p0, p1, p2, p3⟩, -⟩ := cls_4 H15.out
        have hb1 := HB1.out
        have hb2 := HB2.out
        have hz := HZ.out
        have hs2 := hb2.size
        simp only [World.size_alloc] at hs2
        have d2 : Below u1.heap.size u1 u2 := ((Below.refl _ u1).alloc (Nat.le_refl _) _).trans (hb2.mono (by simp))
        have dW : Below W.heap.size W u2 := hb1.trans (d2.mono hb1.size)
        have d4 : Below W.heap.size W U4 := dW.trans (HU4.out.mono dW.size)
        have hA4 := blk_keep HA.out d4 (by omega)
        have HD4 := Lib.hid (hB.trans (d4.mono hB.size))
        have HT := Lib.hid (stt_4 hA4 (.int .i64 8) (.int .i64 0) (.int .i64 0) (.slice (some ⟨u2.heap.size + 1, 0, none⟩) 2 2))
        obtain ⟨⟨r0, r1, r2, r3⟩, m0, m1', m2, m3⟩ := cls_4 hA4
        have HX1 := Lib.hid (show owE U4 (CondD.c ⟨o1, a1, b1', e1⟩) [.int .i64 o1, .int .i64 a1, .int .i64 b1', .slice av e1.length cv] fp1 from HOW1.out.keep fun k hk => by have := owE.lt HOW1.out k hk; exact (HU4.out.block k (by omega)).trans (d2.block k this))
        have HX2 := Lib.hid (show owE U4 (CondD.c ⟨o2, a2, b2', e2⟩) [.int .i64 o2, .int .i64 a2, .int .i64 b2', .slice av2 e2.length cv2] fp2 from HOW2.out.keep fun k hk => HU4.out.block k (owE.lt HOW2.out k hk))
        have HF := Lib.hid (two_own (us := [.int .i64 o1, .int .i64 a1, .int .i64 b1', .slice av e1.length cv]) (vs := [.int .i64 o2, .int .i64 a2, .int .i64 b2', .slice av2 e2.length cv2]) HG4.out HX1.out HX2.out)
        have HM1 := Lib.hid (show ∀ k ∈ fp1, W.heap.size ≤ k ∧ k < u1.heap.size from fun k hk => ⟨(HRG1.out k hk).1, owE.lt HOW1.out k hk⟩)
        have HM2 := Lib.hid (show ∀ k ∈ fp2, u1.heap.size + 1 ≤ k ∧ k < u2.heap.size from fun k hk => ⟨by have := (HRG2.out k hk).1; simpa using this, owE.lt HOW2.out k hk⟩)
        have HS1 := Lib.hid hb1.size
        clear hA4 d2 dW d4 hb1 hb2 hs2 hz
        go_wp2_with fail
        have HT2 := HT.out
        generalize ((((U4.setCell ⟨w.heap.size, 0, none⟩ (.int .i64 8)).setCell ⟨w.heap.size, 1, none⟩ (.int .i64 0)).setCell ⟨w.heap.size, 2, none⟩ (.int .i64 0)).setCell ⟨w.heap.size, 3, none⟩ (.slice (some ⟨u2.heap.size + 1, 0, none⟩) 2 2)) = WF at HT2 ⊢
        obtain ⟨⟨q0, q1, q2, q3⟩, -⟩ := cls_4 HT2.1
        have hz := HZ.out
        have hz4 := HZ4.out
        have hs1 := HS1.out
        have hmem : ∀ k ∈ (u2.heap.size + 1) :: (fp1 ++ fp2), W.heap.size ≤ k ∧ k < u2.heap.size + 3 := fun k hk => by
          rcases List.mem_cons.1 hk with rfl | hk
          · omega
          rcases List.mem_append.1 hk with hk | hk
          · have := HM1.out k hk; omega
          · have := HM2.out k hk; omega
        have hnd : ((u2.heap.size + 1) :: (fp1 ++ fp2)).Nodup := List.nodup_cons.2 ⟨fun h => by
          rcases List.mem_append.1 h with h | h
          · have := HM1.out _ h; omega
          · have := HM2.out _ h; omega, List.nodup_append.2 ⟨HND1.out, HND2.out, fun x hx y hy e => by have := HM1.out x hx; have := HM2.out y hy; omega⟩⟩
        have how := HF.out.touch HT2.2 (fun k hk hk2 => by
          have h9 := List.mem_singleton.1 hk2
          have := (hmem k hk).1
          omega)
        have HGOT : Got16 s w X.1 X.2 (.agg #[.int .i64 8, .int .i64 0, .int .i64 0, .slice (some ⟨u2.heap.size + 1, 0, none⟩) 2 2]) (n2) WF := by
          rw [← HPX.out]
          exact ⟨[.int .i64 8, .int .i64 0, .int .i64 0, .slice (some ⟨u2.heap.size + 1, 0, none⟩) 2 2], (u2.heap.size + 1) :: (fp1 ++ fp2), rfl, CondD.ow_mk rfl rfl rfl how, hnd, fun k hk => ⟨by have := (hmem k hk).1; omega, Nat.lt_of_lt_of_le (by have := (hmem k hk).2; omega) HT2.2.size⟩, HEND.out, HD4.out.trans (HT2.2.below (fun k hk => by have := List.mem_singleton.1 hk; omega) HD4.out.size)⟩
        exact bodyPost_ret (v := .tuple #[.agg #[.int .i64 8, .int .i64 0, .int .i64 0, .slice (some ⟨u2.heap.size + 1, 0, none⟩) 2 2], .int .i64 ((n2 : Int))]) (by simp [results, Tryd.results21, go_sem, q0, q1, q2, q3]) rfl ⟨_, n2, rfl, HGOT⟩
end Go.Proofs.YtmdmkdjeaffhaaaDoor
