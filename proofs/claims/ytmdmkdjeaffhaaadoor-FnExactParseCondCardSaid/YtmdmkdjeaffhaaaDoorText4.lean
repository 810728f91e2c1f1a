/- Text of conditions (chapter 16): contracts of the model: the word at the head of a condition's text. No condition but a text's size. -/
import Derived.Test.YtmdmkdjeaffhaaaDoorMText3
namespace Go.Proofs.YtmdmkdjeaffhaaaDoor
open Go.Lib Go.ChangeShapes Go.WideShapes Go.ChangeAt Go.RowKit
set_option linter.unusedVariables false

theorem opOf_le (w : List UInt8) : 0 ≤ opOf w ∧ opOf w ≤ 7 := by
  unfold opOf
  repeat' split
  all_goals omega
theorem opOf_iff (w : List UInt8) {k : Int} (h : 1 ≤ k ∧ k ≤ 7) : nameL k = w ↔ opOf w = k := by
  constructor
  · rintro rfl
    exact opOf_name h
  · intro e
    unfold opOf at e
    repeat' split at e
    all_goals (try subst e)
    all_goals first | (exact Eq.symm (by assumption)) | omega
/-- The operation that has been found among the first k names. -/
def opTo (O : Int) (k : Int) : Int := if O < k then O else 0
theorem nameB_eq (w : ByteArray) {k : Int} (h : 1 ≤ k ∧ k ≤ 7) : ((nameB k).toList == w.toList) = decide (opOf w.data.toList = k) := by
  rw [ByteArray.toList_eq, ByteArray.toList_eq]
  have h1 := opOf_iff w.data.toList h
  rw [nameB_list]
  by_cases e : opOf w.data.toList = k
  · rw [decide_eq_true e, beq_iff_eq]
    exact h1.2 e
  · rw [decide_eq_false e, beq_eq_false_iff_ne]
    exact fun c => e (h1.1 c)
theorem prs_word (n : Nat) {c : UInt8} {r : List UInt8} (h : c ≠ 40) {O : Int} (hO : opOf (wordL (c :: r)) = O) (h1 : O = 0 ∨ O = 1) : prs (n + 1) (c :: r) = (⟨O, 0, 0, []⟩, restL (c :: r)) := by
  rw [prs, if_neg h, hO, if_neg (by omega), if_neg (by omega), if_neg (by omega), if_neg (by omega)]
theorem numL_wf (l : List UInt8) : (Lit.int .i64 (numL l)).wf = true := by
  have h := parsedVal_bd l
  have : -1 ≤ numL l ∧ numL l ≤ 1000000000000 := by unfold numL; split <;> omega
  generalize numL l = N at this ⊢
  exact wf_i64 (by omega) (by omega)
theorem prs_word3 (n : Nat) {c : UInt8} {r : List UInt8} (h : c ≠ 40) (hO : opOf (wordL (c :: r)) = 3) : prs (n + 1) (c :: r) = (⟨3, 0, numL (wordL (restL (c :: r))), []⟩, restL (restL (c :: r))) := by
  rw [prs, if_neg h, hO, if_neg (by omega), if_pos rfl]
theorem prs_word2 (n : Nat) {c : UInt8} {r : List UInt8} (h : c ≠ 40) {O : Int} (hO : opOf (wordL (c :: r)) = O) (h2 : O = 2 ∨ O = 4 ∨ O = 5) : prs (n + 1) (c :: r) = (⟨O, numL (wordL (restL (c :: r))), numL (wordL (restL (restL (c :: r)))), []⟩, restL (restL (restL (c :: r)))) := by
  rw [prs, if_neg h, hO, if_pos h2]
theorem prs_word6 (n : Nat) {c : UInt8} {r : List UInt8} (h : c ≠ 40) (hO : opOf (wordL (c :: r)) = 6) : prs (n + 1) (c :: r) = (⟨6, numL (wordL (restL (c :: r))), 0, []⟩, restL (restL (c :: r))) := by
  rw [prs, if_neg h, hO, if_neg (by omega), if_neg (by omega), if_pos rfl]
theorem prs_word7 (n : Nat) {c : UInt8} {r : List UInt8} (h : c ≠ 40) (hO : opOf (wordL (c :: r)) = 7) : prs (n + 1) (c :: r) = (⟨7, 0, 0, [(prs n (restL (c :: r))).1]⟩, (prs n (restL (c :: r))).2) := by
  rw [prs, if_neg h, hO, if_neg (by omega), if_neg (by omega), if_neg (by omega), if_pos rfl]
/-- A slice literal of one condition that is the call's own. -/
theorem one_own {w : World} {g : Nat} {T : TypeId} {y : CondD} {us : List Value} {f : List Nat} (hg : w.heap[g]? = some (.cells us.toArray T)) (h : owE w (CondD.c y) us f) : owC w (rowF CondD.c [y]) (.slice (some ⟨g, 0, none⟩) 1 1) (g :: f) := by
  unfold rowF owC
  have hl := owE.length h
  refine .inr ⟨g, 1, us.toArray, T, f, rfl, Nat.le_refl _, by decide, hg, rfl, fun e => absurd e (by simp), ?_⟩
  rw [List.flatMap_cons, List.flatMap_nil, List.append_nil, List.take_of_length_le (by simp [hl])]
  exact h
theorem got_leaf (s : ByteArray) (w F : World) (O a b : Int) (nx : Nat) (t : List UInt8) (hO : (Lit.int .i64 O).wf = true) (ha : (Lit.int .i64 a).wf = true) (hb : (Lit.int .i64 b).wf = true) (hn : nx ≤ s.size ∧ s.data.toList.drop nx = t) (hF : Below w.heap.size w F) : Got16 s w ⟨O, a, b, []⟩ t (.agg #[.int .i64 O, .int .i64 a, .int .i64 b, .slice none 0 0]) nx F := by
  refine ⟨[.int .i64 O, .int .i64 a, .int .i64 b, .slice none 0 0], [], rfl, leaf_own hO ha hb, List.nodup_nil, ?_, hn, hF⟩
  intro k hk
  cases hk
set_option maxHeartbeats 4000000 in
set_option maxRecDepth 100000 in
theorem reads_word (n : Nat) (s : ByteArray) (hs : s.size ≤ 400) (ih : Reads16 n s) (i d : Nat) (w : World) (hd : n + 1 + d = 16) (hlt : i < s.size) (hc : s[i] ≠ 40) :
    Calls Tryd.prog 21 #[.string s, .int .i64 (i : Int), .int .i64 (d : Int)] w fun e w' => ∃ (v : Value) (nx : Nat), e = .returned (.tuple #[v, .int .i64 (nx : Int)]) ∧ Got16 s w (prs (n + 1) (s.data.toList.drop i)).1 (prs (n + 1) (s.data.toList.drop i)).2 v nx w' := by
  have hb := byte_ne hc
  have hb40 : ((s[i].toNat : Int) == 40) = false := hb.2
  have hdd : (d : Int) ≤ 15 := by omega
  obtain ⟨X, hX⟩ : ∃ X, prs (n + 1) (s.data.toList.drop i) = X := ⟨_, rfl⟩
  rw [hX]
  have HX := Lib.hid hX
  obtain ⟨W, hW⟩ : ∃ W, W = w.alloc (.cells #[.int .i64 0, .int .i64 0, .int .i64 0, .slice none 0 0] 29) := ⟨_, rfl⟩
  have HW0 := Lib.hid (fun U => spec_word s i U (by omega) (Nat.le_of_lt hlt))
  have hB : Below w.heap.size w W := by rw [hW]; exact (Below.refl _ _).alloc (Nat.le_refl _) _
  have hA : W.heap[w.heap.size]? = some (.cells #[.int .i64 0, .int .i64 0, .int .i64 0, .slice none 0 0] 29) := by rw [hW]; exact blk_new _ _ _
  have HA := Lib.hid hA
  have hz : W.heap.size = w.heap.size + 1 := by rw [hW]; simp
  have HZ := Lib.hid hz
  clear hb hX hA hz
  go_enter Tryd.func21, Tryd.ntmps21
  go_upto_region 1 with fail
  rw [← hW]
  clear hW
  go_upto_region 17 with (go_at_call 34; refine (HW0.out _).mono ?_; rintro e w1 ⟨wd, nx, rfl, hwd, rfl⟩)
  have HWD := Lib.hid hwd
  obtain ⟨V, hV⟩ : ∃ V, V = W.alloc (.cells #[.int .i64 0, .int .i64 0, .int .i64 0, .slice none 0 0] 29) := ⟨_, rfl⟩
  have bV : Below W.heap.size W V := by rw [hV]; exact (Below.refl _ _).alloc (Nat.le_refl _) _
  have zV : V.heap.size = W.heap.size + 1 := by rw [hV]; simp
  have cV : V.heap[W.heap.size]? = some (.cells #[.int .i64 (opTo (opOf wd.data.toList) 1), .int .i64 0, .int .i64 0, .slice none 0 0] 29) := by
    have := opOf_le wd.data.toList
    rw [show opTo (opOf wd.data.toList) 1 = 0 by unfold opTo; split <;> omega, hV]
    exact blk_new _ _ _
  rw [← hV]
  clear hV hwd
  have HO := opOf_le wd.data.toList
  have HEQ := Lib.hid (fun (k : Int) (h : 1 ≤ k ∧ k ≤ 7) => nameB_eq wd h)
  obtain ⟨O, hO⟩ : ∃ O, opOf wd.data.toList = O := ⟨_, rfl⟩
  rw [hO] at cV HO HEQ
  have HOE := Lib.hid hO
  clear hO
  have HV := Lib.hid cV
  have ZV := Lib.hid zV
  clear cV zV
  go_wp2_with fail
  go_loopw [18] (fun j wr => ∃ k : Nat, 1 ≤ k ∧ k ≤ 8 ∧ j = .int .i64 (k : Int) ∧ Hid (wr.heap[W.heap.size]? = some (.cells #[.int .i64 (opTo O k), .int .i64 0, .int .i64 0, .slice none 0 0] 29)) ∧ Hid (Below W.heap.size W wr)) (fun j _ => 8 - (RowKit.intOf j).toNat)
  case atStart => exact ⟨1, by omega, by omega, rfl, HV, Lib.hid bV⟩
  case round =>
    obtain ⟨k, hk0, hk, rfl, HC, HB⟩ := hrel
    by_cases hlk : k < 8
    · have hlk' : (k : Int) ≤ 7 := by omega
      go_wp2_with fail
      refine (spec_cname (k : Int) _).mono ?_
      rintro e u ⟨rfl, b1⟩
      have hq := HEQ.out (k : Int) (by omega)
      have HC2 := blk_keep HC.out b1 (blk_lt HC.out)
      have d1 := HB.out.trans (b1.mono HB.out.size)
      have HO1 := Lib.hid (show O ≠ (k : Int) → opTo O ((k : Int) + 1) = opTo O (k : Int) from fun h => by
        unfold opTo
        by_cases h2 : O < (k : Int)
        · rw [if_pos h2, if_pos (by omega)]
        · rw [if_neg h2, if_neg (by omega)])
      obtain ⟨⟨c0, c1, c2, c3⟩, f0, f1, f2, f3⟩ := cls_4 HC2
      by_cases he : O = (k : Int)
      · have hq1 : ((nameB (k : Int)).toList == wd.toList) = true := hq.trans (decide_eq_true he)
        have HS := Lib.hid (blk_set HC2 (i := 0) (.int .i64 (k : Int)))
        have HT := Lib.hid (show opTo O ((k + 1 : Nat) : Int) = (k : Int) by unfold opTo; push_cast; rw [if_pos (by omega)]; exact he)
        have HD := Lib.hid (d1.setCell (p := ⟨W.heap.size, 0, none⟩) (Nat.le_refl _) (.int .i64 (k : Int)))
        clear hq he HO1 c1 c2 c3 f1 f2 f3 HC2 d1 b1
        generalize nameB (k : Int) = NB at hq1 ⊢
        go_wp2
        exact ⟨⟨k + 1, by omega, by omega, by go_num, by rw [HT.out]; exact HS, HD⟩, by simp only [RowKit.intOf]; omega⟩
      · have hq1 : ((nameB (k : Int)).toList == wd.toList) = false := hq.trans (decide_eq_false he)
        have HT := Lib.hid (show opTo O ((k + 1 : Nat) : Int) = opTo O (k : Int) by push_cast; exact HO1.out he)
        have HD := Lib.hid d1
        have HS := Lib.hid HC2
        clear hq he HO1 c0 c1 c2 c3 f0 f1 f2 f3 HC2 d1 b1
        generalize nameB (k : Int) = NB at hq1 ⊢
        go_wp2
        exact ⟨⟨k + 1, by omega, by omega, by go_num, by rw [HT.out]; exact HS, HD⟩, by simp only [RowKit.intOf]; omega⟩
    · obtain rfl : k = 8 := by omega
      have HC2 := Lib.hid (show wr.heap[W.heap.size]? = some (.cells #[.int .i64 O, .int .i64 0, .int .i64 0, .slice none 0 0] 29) by
        have h := HC.out
        rwa [show opTo O ((8 : Nat) : Int) = O by unfold opTo; rw [if_pos (by omega)]] at h)
      have dF := hB.trans (HB.out.mono hB.size)
      have hA2 := blk_keep HA.out HB.out (by have := HZ.out; omega)
      by_cases h01 : O = 0 ∨ O = 1
      · have HG := Lib.hid (show ∀ F : World, Below w.heap.size w F → Got16 s w X.1 X.2 (.agg #[.int .i64 O, .int .i64 0, .int .i64 0, .slice none 0 0]) nx F from fun F hF => by
          have hl : i < s.data.toList.length := by rw [Array.length_toList]; exact hlt
          have hp := HX.out
          obtain ⟨q1, q2, q3, q4⟩ := HWD.out
          rw [List.drop_eq_getElem_cons hl] at hp q1 q3
          rw [prs_word n (by exact hc) (by rw [← q1]; exact HOE.out) h01] at hp
          rw [← hp]
          exact got_leaf s w F O 0 0 nx _ (by rcases h01 with rfl | rfl <;> rfl) rfl rfl ⟨q2, q3⟩ hF)
        have hF := (((((dF.setCell (p := ⟨w.heap.size, 0, none⟩) (Nat.le_refl _) (.int .i64 O)).setCell (p := ⟨w.heap.size, 1, none⟩) (Nat.le_refl _) (.int .i64 0)).setCell (p := ⟨w.heap.size, 2, none⟩) (Nat.le_refl _) (.int .i64 0)).setCell (p := ⟨w.heap.size, 3, none⟩) (Nat.le_refl _) (.slice none 0 0)))
        have HT := Lib.hid (stt_4 hA2 (.int .i64 O) (.int .i64 0) (.int .i64 0) (.slice none 0 0))
        have HF := Lib.hid hF
        obtain ⟨⟨c0, c1, c2, c3⟩, -⟩ := cls_4 HC2.out
        obtain ⟨⟨r0, r1, r2, r3⟩, g0, g1, g2, g3⟩ := cls_4 hA2
        have e2 : (O == 2) = false := by rw [beq_eq_false_iff_ne]; omega
        have e3 : (O == 3) = false := by rw [beq_eq_false_iff_ne]; omega
        have e4 : (O == 4) = false := by rw [beq_eq_false_iff_ne]; omega
        have e5 : (O == 5) = false := by rw [beq_eq_false_iff_ne]; omega
        have e6 : (O == 6) = false := by rw [beq_eq_false_iff_ne]; omega
        have e7 : (O == 7) = false := by rw [beq_eq_false_iff_ne]; omega
        clear HC HV ZV hF hA2 HC2 h01 HEQ
        go_wp2_with fail
        have HT2 := HT.out
        have HF2 := HF.out
        generalize ((((wr.setCell ⟨w.heap.size, 0, none⟩ (.int .i64 O)).setCell ⟨w.heap.size, 1, none⟩ (.int .i64 0)).setCell ⟨w.heap.size, 2, none⟩ (.int .i64 0)).setCell ⟨w.heap.size, 3, none⟩ (.slice none 0 0)) = WF at HT2 HF2 ⊢
        obtain ⟨⟨q0, q1, q2, q3⟩, -⟩ := cls_4 HT2.1
        exact bodyPost_ret (v := .tuple #[.agg #[.int .i64 O, .int .i64 0, .int .i64 0, .slice none 0 0], .int .i64 (nx : Int)]) (by simp [results, Tryd.results21, go_sem, q0, q1, q2, q3]) rfl ⟨_, nx, rfl, HG.out _ HF2⟩
      · by_cases h3 : O = 3
        · subst h3
          have hl : i < s.data.toList.length := by rw [Array.length_toList]; exact hlt
          have hp := HX.out
          obtain ⟨q1, q2, q3, q4⟩ := HWD.out
          rw [List.drop_eq_getElem_cons hl] at hp q1 q3
          rw [prs_word3 n (by exact hc) (by rw [← q1]; exact HOE.out), ← q3] at hp
          have HNU := Lib.hid (spec_number s nx wr (by omega) q2)
          have HNW := Lib.hid (numL_wf (wordL (s.data.toList.drop nx)))
          generalize numL (wordL (s.data.toList.drop nx)) = N at hp HNU HNW
          have HP := Lib.hid hp
          obtain ⟨⟨c0, c1, c2, c3⟩, -⟩ := cls_4 HC2.out
          clear HC HV ZV HEQ hp q1 q3
          go_wp2_with fail
          refine HNU.out.mono ?_
          rintro e u ⟨n2, rfl, hn2, b2⟩
          have HC3 := blk_keep HC2.out b2 (blk_lt HC2.out)
          have hu := HB.out.trans (b2.mono HB.out.size)
          obtain ⟨⟨x0, x1, x2, x3⟩, f0, f1, f2, f3⟩ := cls_4 HC3
          have hU2 := hu.setCell (p := ⟨W.heap.size, 2, none⟩) (Nat.le_refl _) (.int .i64 N)
          have HC4 : (u.setCell ⟨W.heap.size, 2, none⟩ (.int .i64 N)).heap[W.heap.size]? = some (.cells #[.int .i64 3, .int .i64 0, .int .i64 N, .slice none 0 0] 29) := blk_set HC3 _
          have hA2 := blk_keep HA.out hU2 (by have := HZ.out; omega)
          have HG := Lib.hid (show ∀ F : World, Below w.heap.size w F → Got16 s w X.1 X.2 (.agg #[.int .i64 3, .int .i64 0, .int .i64 N, .slice none 0 0]) n2 F from fun F hF => by
            rw [← HP.out]
            exact got_leaf s w F 3 0 N n2 _ rfl rfl HNW.out hn2 hF)
          have dF := hB.trans (hU2.mono hB.size)
          obtain ⟨U2, hU⟩ : ∃ U2, u.setCell ⟨W.heap.size, 2, none⟩ (.int .i64 N) = U2 := ⟨_, rfl⟩
          clear c0 c1 c2 c3
          go_upto_region 34 with fail
          rw [hU] at HC4 hA2 dF
          clear hU hU2 x0 x1 x2 x3 f0 f1 f2 f3 HC3
          obtain ⟨⟨c0, c1, c2, c3⟩, -⟩ := cls_4 HC4
          obtain ⟨⟨r0, r1, r2, r3⟩, g0, g1, g2, g3⟩ := cls_4 hA2
          have HT := Lib.hid (stt_4 hA2 (.int .i64 3) (.int .i64 0) (.int .i64 N) (.slice none 0 0))
          have HF := Lib.hid ((((dF.setCell (p := ⟨w.heap.size, 0, none⟩) (Nat.le_refl _) (.int .i64 3)).setCell (p := ⟨w.heap.size, 1, none⟩) (Nat.le_refl _) (.int .i64 0)).setCell (p := ⟨w.heap.size, 2, none⟩) (Nat.le_refl _) (.int .i64 N)).setCell (p := ⟨w.heap.size, 3, none⟩) (Nat.le_refl _) (.slice none 0 0))
          clear hA2 HC4
          go_wp2_with fail
          have HT2 := HT.out
          have HF2 := HF.out
          generalize ((((U2.setCell ⟨w.heap.size, 0, none⟩ (.int .i64 3)).setCell ⟨w.heap.size, 1, none⟩ (.int .i64 0)).setCell ⟨w.heap.size, 2, none⟩ (.int .i64 N)).setCell ⟨w.heap.size, 3, none⟩ (.slice none 0 0)) = WF at HT2 HF2 ⊢
          obtain ⟨⟨q0, q1, q2, q3⟩, -⟩ := cls_4 HT2.1
          exact bodyPost_ret (v := .tuple #[.agg #[.int .i64 3, .int .i64 0, .int .i64 N, .slice none 0 0], .int .i64 (n2 : Int)]) (by simp [results, Tryd.results21, go_sem, q0, q1, q2, q3]) rfl ⟨_, n2, rfl, HG.out _ HF2⟩
        · by_cases h6 : O = 6
          · subst h6
            have hl : i < s.data.toList.length := by rw [Array.length_toList]; exact hlt
            have hp := HX.out
            obtain ⟨q1, q2, q3, q4⟩ := HWD.out
            rw [List.drop_eq_getElem_cons hl] at hp q1 q3
            rw [prs_word6 n (by exact hc) (by rw [← q1]; exact HOE.out), ← q3] at hp
            have HNU := Lib.hid (spec_number s nx wr (by omega) q2)
            have HNW := Lib.hid (numL_wf (wordL (s.data.toList.drop nx)))
            generalize numL (wordL (s.data.toList.drop nx)) = N at hp HNU HNW
            have HP := Lib.hid hp
            obtain ⟨⟨c0, c1, c2, c3⟩, -⟩ := cls_4 HC2.out
            clear HC HV ZV HEQ hp q1 q3
            go_wp2_with fail
            refine HNU.out.mono ?_
            rintro e u ⟨n2, rfl, hn2, b2⟩
            have HC3 := blk_keep HC2.out b2 (blk_lt HC2.out)
            have hu := HB.out.trans (b2.mono HB.out.size)
            obtain ⟨⟨x0, x1, x2, x3⟩, f0, f1, f2, f3⟩ := cls_4 HC3
            have hU2 := hu.setCell (p := ⟨W.heap.size, 1, none⟩) (Nat.le_refl _) (.int .i64 N)
            have HC4 : (u.setCell ⟨W.heap.size, 1, none⟩ (.int .i64 N)).heap[W.heap.size]? = some (.cells #[.int .i64 6, .int .i64 N, .int .i64 0, .slice none 0 0] 29) := blk_set HC3 _
            have hA2 := blk_keep HA.out hU2 (by have := HZ.out; omega)
            have HG := Lib.hid (show ∀ F : World, Below w.heap.size w F → Got16 s w X.1 X.2 (.agg #[.int .i64 6, .int .i64 N, .int .i64 0, .slice none 0 0]) n2 F from fun F hF => by
              rw [← HP.out]
              exact got_leaf s w F 6 N 0 n2 _ rfl HNW.out rfl hn2 hF)
            have dF := hB.trans (hU2.mono hB.size)
            obtain ⟨U2, hU⟩ : ∃ U2, u.setCell ⟨W.heap.size, 1, none⟩ (.int .i64 N) = U2 := ⟨_, rfl⟩
            clear c0 c1 c2 c3
            go_upto_region 38 with fail
            rw [hU] at HC4 hA2 dF
            clear hU hU2 x0 x1 x2 x3 f0 f1 f2 f3 HC3
            obtain ⟨⟨c0, c1, c2, c3⟩, -⟩ := cls_4 HC4
            obtain ⟨⟨r0, r1, r2, r3⟩, g0, g1, g2, g3⟩ := cls_4 hA2
            have HT := Lib.hid (stt_4 hA2 (.int .i64 6) (.int .i64 N) (.int .i64 0) (.slice none 0 0))
            have HF := Lib.hid ((((dF.setCell (p := ⟨w.heap.size, 0, none⟩) (Nat.le_refl _) (.int .i64 6)).setCell (p := ⟨w.heap.size, 1, none⟩) (Nat.le_refl _) (.int .i64 N)).setCell (p := ⟨w.heap.size, 2, none⟩) (Nat.le_refl _) (.int .i64 0)).setCell (p := ⟨w.heap.size, 3, none⟩) (Nat.le_refl _) (.slice none 0 0))
            clear hA2 HC4
            go_wp2_with fail
            have HT2 := HT.out
            have HF2 := HF.out
            generalize ((((U2.setCell ⟨w.heap.size, 0, none⟩ (.int .i64 6)).setCell ⟨w.heap.size, 1, none⟩ (.int .i64 N)).setCell ⟨w.heap.size, 2, none⟩ (.int .i64 0)).setCell ⟨w.heap.size, 3, none⟩ (.slice none 0 0)) = WF at HT2 HF2 ⊢
            obtain ⟨⟨q0, q1, q2, q3⟩, -⟩ := cls_4 HT2.1
            exact bodyPost_ret (v := .tuple #[.agg #[.int .i64 6, .int .i64 N, .int .i64 0, .slice none 0 0], .int .i64 (n2 : Int)]) (by simp [results, Tryd.results21, go_sem, q0, q1, q2, q3]) rfl ⟨_, n2, rfl, HG.out _ HF2⟩
          · by_cases h245 : O = 2 ∨ O = 4 ∨ O = 5
            rcases h245 with rfl | rfl | rfl
            · have hl : i < s.data.toList.length := by rw [Array.length_toList]; exact hlt
              have hp := HX.out
              obtain ⟨q1, q2, q3, q4⟩ := HWD.out
              rw [List.drop_eq_getElem_cons hl] at hp q1 q3
              rw [prs_word2 (O := 2) n (by exact hc) (by rw [← q1]; exact HOE.out) (by decide), ← q3] at hp
              have HNU := Lib.hid (spec_number s nx wr (by omega) q2)
              have HNW := Lib.hid (numL_wf (wordL (s.data.toList.drop nx)))
              have HMW := Lib.hid (numL_wf (wordL (restL (s.data.toList.drop nx))))
              have HMU := Lib.hid (show ∀ (n2 : Nat) (U : World), (n2 ≤ s.size ∧ s.data.toList.drop n2 = restL (s.data.toList.drop nx)) → Calls Tryd.prog 35 #[.string s, .int .i64 (n2 : Int)] U fun e w' => ∃ (n3 : Nat), e = .returned (.tuple #[.int .i64 (numL (wordL (restL (s.data.toList.drop nx)))), .int .i64 (n3 : Int)]) ∧ (n3 ≤ s.size ∧ s.data.toList.drop n3 = restL (restL (s.data.toList.drop nx))) ∧ Below U.heap.size U w' from fun n2 U h => h.2 ▸ spec_number s n2 U (by omega) h.1)
              generalize numL (wordL (s.data.toList.drop nx)) = N at hp HNU HNW
              generalize numL (wordL (restL (s.data.toList.drop nx))) = M at hp HMU HMW
              have HP := Lib.hid hp
              obtain ⟨⟨c0, c1, c2, c3⟩, -⟩ := cls_4 HC2.out
              clear HC HV ZV HEQ hp q1 q3
              go_wp2_with fail
              refine HNU.out.mono ?_
              rintro e u ⟨n2, rfl, hn2, b2⟩
              have HQ := Lib.hid (HMU.out n2 u hn2)
              clear hn2 HMU c0 c1 c2 c3
              go_wp2_with fail
              refine HQ.out.mono ?_
              rintro e u4 ⟨n3, rfl, hn3, b4⟩
              have HN3 := Lib.hid hn3
              have b5 := b2.trans (b4.mono b2.size)
              have HC3 := blk_keep HC2.out b5 (blk_lt HC2.out)
              have hu := HB.out.trans (b5.mono HB.out.size)
              obtain ⟨⟨x0, x1, x2, x3⟩, f0, f1, f2, f3⟩ := cls_4 HC3
              have hU2 := (hu.setCell (p := ⟨W.heap.size, 1, none⟩) (Nat.le_refl _) (.int .i64 N)).setCell (p := ⟨W.heap.size, 2, none⟩) (Nat.le_refl _) (.int .i64 M)
              have HC4 : ((u4.setCell ⟨W.heap.size, 1, none⟩ (.int .i64 N)).setCell ⟨W.heap.size, 2, none⟩ (.int .i64 M)).heap[W.heap.size]? = some (.cells #[.int .i64 2, .int .i64 N, .int .i64 M, .slice none 0 0] 29) := by
                have h1 : (u4.setCell ⟨W.heap.size, 1, none⟩ (.int .i64 N)).heap[W.heap.size]? = some (.cells #[.int .i64 2, .int .i64 N, .int .i64 0, .slice none 0 0] 29) := blk_set HC3 _
                exact blk_set h1 _
              have hA2 := blk_keep HA.out hU2 (by have := HZ.out; omega)
              have HG := Lib.hid (show ∀ F : World, Below w.heap.size w F → Got16 s w X.1 X.2 (.agg #[.int .i64 2, .int .i64 N, .int .i64 M, .slice none 0 0]) n3 F from fun F hF => by
                rw [← HP.out]
                exact got_leaf s w F 2 N M n3 _ rfl HNW.out HMW.out HN3.out hF)
              have dF := hB.trans (hU2.mono hB.size)
              have HH4 := Lib.hid HC4
              have HHA := Lib.hid hA2
              have HHF := Lib.hid dF
              have hn3' := hn3.1
              clear hn3 HC4 hA2 dF hU2 HC3 hu b5 b4 b2 HQ HNU
              go_upto_region 30 with fail
              obtain ⟨U2, hU⟩ : ∃ U2, ((u4.setCell ⟨W.heap.size, 1, none⟩ (.int .i64 N)).setCell ⟨W.heap.size, 2, none⟩ (.int .i64 M)) = U2 := ⟨_, rfl⟩
              have HC4 := HH4.out
              have hA2 := HHA.out
              have dF := HHF.out
              rw [hU] at HC4 hA2 dF ⊢
              clear hU x0 x1 x2 x3 f0 f1 f2 f3 HH4 HHA HHF
              obtain ⟨⟨c0, c1, c2, c3⟩, -⟩ := cls_4 HC4
              obtain ⟨⟨r0, r1, r2, r3⟩, g0, g1, g2, g3⟩ := cls_4 hA2
              have HT := Lib.hid (stt_4 hA2 (.int .i64 2) (.int .i64 N) (.int .i64 M) (.slice none 0 0))
              have HF := Lib.hid ((((dF.setCell (p := ⟨w.heap.size, 0, none⟩) (Nat.le_refl _) (.int .i64 2)).setCell (p := ⟨w.heap.size, 1, none⟩) (Nat.le_refl _) (.int .i64 N)).setCell (p := ⟨w.heap.size, 2, none⟩) (Nat.le_refl _) (.int .i64 M)).setCell (p := ⟨w.heap.size, 3, none⟩) (Nat.le_refl _) (.slice none 0 0))
              clear hA2 HC4 dF
              go_wp2_with fail
              have HT2 := HT.out
              have HF2 := HF.out
              generalize ((((U2.setCell ⟨w.heap.size, 0, none⟩ (.int .i64 2)).setCell ⟨w.heap.size, 1, none⟩ (.int .i64 N)).setCell ⟨w.heap.size, 2, none⟩ (.int .i64 M)).setCell ⟨w.heap.size, 3, none⟩ (.slice none 0 0)) = WF at HT2 HF2 ⊢
              obtain ⟨⟨q0, q1, q2, q3⟩, -⟩ := cls_4 HT2.1
              exact bodyPost_ret (v := .tuple #[.agg #[.int .i64 2, .int .i64 N, .int .i64 M, .slice none 0 0], .int .i64 (n3 : Int)]) (by simp [results, Tryd.results21, go_sem, q0, q1, q2, q3]) rfl ⟨_, n3, rfl, HG.out _ HF2⟩
            · have hl : i < s.data.toList.length := by rw [Array.length_toList]; exact hlt
              have hp := HX.out
              obtain ⟨q1, q2, q3, q4⟩ := HWD.out
              rw [List.drop_eq_getElem_cons hl] at hp q1 q3
              rw [prs_word2 (O := 4) n (by exact hc) (by rw [← q1]; exact HOE.out) (by decide), ← q3] at hp
              have HNU := Lib.hid (spec_number s nx wr (by omega) q2)
              have HNW := Lib.hid (numL_wf (wordL (s.data.toList.drop nx)))
              have HMW := Lib.hid (numL_wf (wordL (restL (s.data.toList.drop nx))))
              have HMU := Lib.hid (show ∀ (n2 : Nat) (U : World), (n2 ≤ s.size ∧ s.data.toList.drop n2 = restL (s.data.toList.drop nx)) → Calls Tryd.prog 35 #[.string s, .int .i64 (n2 : Int)] U fun e w' => ∃ (n3 : Nat), e = .returned (.tuple #[.int .i64 (numL (wordL (restL (s.data.toList.drop nx)))), .int .i64 (n3 : Int)]) ∧ (n3 ≤ s.size ∧ s.data.toList.drop n3 = restL (restL (s.data.toList.drop nx))) ∧ Below U.heap.size U w' from fun n2 U h => h.2 ▸ spec_number s n2 U (by omega) h.1)
              generalize numL (wordL (s.data.toList.drop nx)) = N at hp HNU HNW
              generalize numL (wordL (restL (s.data.toList.drop nx))) = M at hp HMU HMW
              have HP := Lib.hid hp
              obtain ⟨⟨c0, c1, c2, c3⟩, -⟩ := cls_4 HC2.out
              clear HC HV ZV HEQ hp q1 q3
              go_wp2_with fail
              refine HNU.out.mono ?_
              rintro e u ⟨n2, rfl, hn2, b2⟩
              have HQ := Lib.hid (HMU.out n2 u hn2)
              clear hn2 HMU c0 c1 c2 c3
              go_wp2_with fail
              refine HQ.out.mono ?_
              rintro e u4 ⟨n3, rfl, hn3, b4⟩
              have HN3 := Lib.hid hn3
              have b5 := b2.trans (b4.mono b2.size)
              have HC3 := blk_keep HC2.out b5 (blk_lt HC2.out)
              have hu := HB.out.trans (b5.mono HB.out.size)
              obtain ⟨⟨x0, x1, x2, x3⟩, f0, f1, f2, f3⟩ := cls_4 HC3
              have hU2 := (hu.setCell (p := ⟨W.heap.size, 1, none⟩) (Nat.le_refl _) (.int .i64 N)).setCell (p := ⟨W.heap.size, 2, none⟩) (Nat.le_refl _) (.int .i64 M)
              have HC4 : ((u4.setCell ⟨W.heap.size, 1, none⟩ (.int .i64 N)).setCell ⟨W.heap.size, 2, none⟩ (.int .i64 M)).heap[W.heap.size]? = some (.cells #[.int .i64 4, .int .i64 N, .int .i64 M, .slice none 0 0] 29) := by
                have h1 : (u4.setCell ⟨W.heap.size, 1, none⟩ (.int .i64 N)).heap[W.heap.size]? = some (.cells #[.int .i64 4, .int .i64 N, .int .i64 0, .slice none 0 0] 29) := blk_set HC3 _
                exact blk_set h1 _
              have hA2 := blk_keep HA.out hU2 (by have := HZ.out; omega)
              have HG := Lib.hid (show ∀ F : World, Below w.heap.size w F → Got16 s w X.1 X.2 (.agg #[.int .i64 4, .int .i64 N, .int .i64 M, .slice none 0 0]) n3 F from fun F hF => by
                rw [← HP.out]
                exact got_leaf s w F 4 N M n3 _ rfl HNW.out HMW.out HN3.out hF)
              have dF := hB.trans (hU2.mono hB.size)
              have HH4 := Lib.hid HC4
              have HHA := Lib.hid hA2
              have HHF := Lib.hid dF
              have hn3' := hn3.1
              clear hn3 HC4 hA2 dF hU2 HC3 hu b5 b4 b2 HQ HNU
              go_upto_region 30 with fail
              obtain ⟨U2, hU⟩ : ∃ U2, ((u4.setCell ⟨W.heap.size, 1, none⟩ (.int .i64 N)).setCell ⟨W.heap.size, 2, none⟩ (.int .i64 M)) = U2 := ⟨_, rfl⟩
              have HC4 := HH4.out
              have hA2 := HHA.out
              have dF := HHF.out
              rw [hU] at HC4 hA2 dF ⊢
              clear hU x0 x1 x2 x3 f0 f1 f2 f3 HH4 HHA HHF
              obtain ⟨⟨c0, c1, c2, c3⟩, -⟩ := cls_4 HC4
              obtain ⟨⟨r0, r1, r2, r3⟩, g0, g1, g2, g3⟩ := cls_4 hA2
              have HT := Lib.hid (stt_4 hA2 (.int .i64 4) (.int .i64 N) (.int .i64 M) (.slice none 0 0))
              have HF := Lib.hid ((((dF.setCell (p := ⟨w.heap.size, 0, none⟩) (Nat.le_refl _) (.int .i64 4)).setCell (p := ⟨w.heap.size, 1, none⟩) (Nat.le_refl _) (.int .i64 N)).setCell (p := ⟨w.heap.size, 2, none⟩) (Nat.le_refl _) (.int .i64 M)).setCell (p := ⟨w.heap.size, 3, none⟩) (Nat.le_refl _) (.slice none 0 0))
              clear hA2 HC4 dF
              go_wp2_with fail
              have HT2 := HT.out
              have HF2 := HF.out
              generalize ((((U2.setCell ⟨w.heap.size, 0, none⟩ (.int .i64 4)).setCell ⟨w.heap.size, 1, none⟩ (.int .i64 N)).setCell ⟨w.heap.size, 2, none⟩ (.int .i64 M)).setCell ⟨w.heap.size, 3, none⟩ (.slice none 0 0)) = WF at HT2 HF2 ⊢
              obtain ⟨⟨q0, q1, q2, q3⟩, -⟩ := cls_4 HT2.1
              exact bodyPost_ret (v := .tuple #[.agg #[.int .i64 4, .int .i64 N, .int .i64 M, .slice none 0 0], .int .i64 (n3 : Int)]) (by simp [results, Tryd.results21, go_sem, q0, q1, q2, q3]) rfl ⟨_, n3, rfl, HG.out _ HF2⟩
            · have hl : i < s.data.toList.length := by rw [Array.length_toList]; exact hlt
              have hp := HX.out
              obtain ⟨q1, q2, q3, q4⟩ := HWD.out
              rw [List.drop_eq_getElem_cons hl] at hp q1 q3
              rw [prs_word2 (O := 5) n (by exact hc) (by rw [← q1]; exact HOE.out) (by decide), ← q3] at hp
              have HNU := Lib.hid (spec_number s nx wr (by omega) q2)
              have HNW := Lib.hid (numL_wf (wordL (s.data.toList.drop nx)))
              have HMW := Lib.hid (numL_wf (wordL (restL (s.data.toList.drop nx))))
              have HMU := Lib.hid (show ∀ (n2 : Nat) (U : World), (n2 ≤ s.size ∧ s.data.toList.drop n2 = restL (s.data.toList.drop nx)) → Calls Tryd.prog 35 #[.string s, .int .i64 (n2 : Int)] U fun e w' => ∃ (n3 : Nat), e = .returned (.tuple #[.int .i64 (numL (wordL (restL (s.data.toList.drop nx)))), .int .i64 (n3 : Int)]) ∧ (n3 ≤ s.size ∧ s.data.toList.drop n3 = restL (restL (s.data.toList.drop nx))) ∧ Below U.heap.size U w' from fun n2 U h => h.2 ▸ spec_number s n2 U (by omega) h.1)
              generalize numL (wordL (s.data.toList.drop nx)) = N at hp HNU HNW
              generalize numL (wordL (restL (s.data.toList.drop nx))) = M at hp HMU HMW
              have HP := Lib.hid hp
              obtain ⟨⟨c0, c1, c2, c3⟩, -⟩ := cls_4 HC2.out
              clear HC HV ZV HEQ hp q1 q3
              go_wp2_with fail
              refine HNU.out.mono ?_
              rintro e u ⟨n2, rfl, hn2, b2⟩
              have HQ := Lib.hid (HMU.out n2 u hn2)
              clear hn2 HMU c0 c1 c2 c3
              go_wp2_with fail
              refine HQ.out.mono ?_
              rintro e u4 ⟨n3, rfl, hn3, b4⟩
              have HN3 := Lib.hid hn3
              have b5 := b2.trans (b4.mono b2.size)
              have HC3 := blk_keep HC2.out b5 (blk_lt HC2.out)
              have hu := HB.out.trans (b5.mono HB.out.size)
              obtain ⟨⟨x0, x1, x2, x3⟩, f0, f1, f2, f3⟩ := cls_4 HC3
              have hU2 := (hu.setCell (p := ⟨W.heap.size, 1, none⟩) (Nat.le_refl _) (.int .i64 N)).setCell (p := ⟨W.heap.size, 2, none⟩) (Nat.le_refl _) (.int .i64 M)
              have HC4 : ((u4.setCell ⟨W.heap.size, 1, none⟩ (.int .i64 N)).setCell ⟨W.heap.size, 2, none⟩ (.int .i64 M)).heap[W.heap.size]? = some (.cells #[.int .i64 5, .int .i64 N, .int .i64 M, .slice none 0 0] 29) := by
                have h1 : (u4.setCell ⟨W.heap.size, 1, none⟩ (.int .i64 N)).heap[W.heap.size]? = some (.cells #[.int .i64 5, .int .i64 N, .int .i64 0, .slice none 0 0] 29) := blk_set HC3 _
                exact blk_set h1 _
              have hA2 := blk_keep HA.out hU2 (by have := HZ.out; omega)
              have HG := Lib.hid (show ∀ F : World, Below w.heap.size w F → Got16 s w X.1 X.2 (.agg #[.int .i64 5, .int .i64 N, .int .i64 M, .slice none 0 0]) n3 F from fun F hF => by
                rw [← HP.out]
                exact got_leaf s w F 5 N M n3 _ rfl HNW.out HMW.out HN3.out hF)
              have dF := hB.trans (hU2.mono hB.size)
              have HH4 := Lib.hid HC4
              have HHA := Lib.hid hA2
              have HHF := Lib.hid dF
              have hn3' := hn3.1
              clear hn3 HC4 hA2 dF hU2 HC3 hu b5 b4 b2 HQ HNU
              go_upto_region 30 with fail
              obtain ⟨U2, hU⟩ : ∃ U2, ((u4.setCell ⟨W.heap.size, 1, none⟩ (.int .i64 N)).setCell ⟨W.heap.size, 2, none⟩ (.int .i64 M)) = U2 := ⟨_, rfl⟩
              have HC4 := HH4.out
              have hA2 := HHA.out
              have dF := HHF.out
              rw [hU] at HC4 hA2 dF ⊢
              clear hU x0 x1 x2 x3 f0 f1 f2 f3 HH4 HHA HHF
              obtain ⟨⟨c0, c1, c2, c3⟩, -⟩ := cls_4 HC4
              obtain ⟨⟨r0, r1, r2, r3⟩, g0, g1, g2, g3⟩ := cls_4 hA2
              have HT := Lib.hid (stt_4 hA2 (.int .i64 5) (.int .i64 N) (.int .i64 M) (.slice none 0 0))
              have HF := Lib.hid ((((dF.setCell (p := ⟨w.heap.size, 0, none⟩) (Nat.le_refl _) (.int .i64 5)).setCell (p := ⟨w.heap.size, 1, none⟩) (Nat.le_refl _) (.int .i64 N)).setCell (p := ⟨w.heap.size, 2, none⟩) (Nat.le_refl _) (.int .i64 M)).setCell (p := ⟨w.heap.size, 3, none⟩) (Nat.le_refl _) (.slice none 0 0))
              clear hA2 HC4 dF
              go_wp2_with fail
              have HT2 := HT.out
              have HF2 := HF.out
              generalize ((((U2.setCell ⟨w.heap.size, 0, none⟩ (.int .i64 5)).setCell ⟨w.heap.size, 1, none⟩ (.int .i64 N)).setCell ⟨w.heap.size, 2, none⟩ (.int .i64 M)).setCell ⟨w.heap.size, 3, none⟩ (.slice none 0 0)) = WF at HT2 HF2 ⊢
              obtain ⟨⟨q0, q1, q2, q3⟩, -⟩ := cls_4 HT2.1
              exact bodyPost_ret (v := .tuple #[.agg #[.int .i64 5, .int .i64 N, .int .i64 M, .slice none 0 0], .int .i64 (n3 : Int)]) (by simp [results, Tryd.results21, go_sem, q0, q1, q2, q3]) rfl ⟨_, n3, rfl, HG.out _ HF2⟩
            · obtain rfl : O = 7 := by omega
              have hl : i < s.data.toList.length := by rw [Array.length_toList]; exact hlt
              have hp := HX.out
              obtain ⟨q1, q2, q3, q4⟩ := HWD.out
              rw [List.drop_eq_getElem_cons hl] at hp q1 q3
              rw [prs_word7 n (by exact hc) (by rw [← q1]; exact HOE.out), ← q3] at hp
              have HI := Lib.hid (show Calls Tryd.prog 21 #[.string s, .int .i64 (nx : Int), .int .i64 ((d : Int) + 1)] wr _ from ih nx (d + 1) wr q2 (by omega))
              generalize prs n (s.data.toList.drop nx) = Y at hp HI
              have HP := Lib.hid hp
              obtain ⟨⟨c0, c1, c2, c3⟩, -⟩ := cls_4 HC2.out
              clear HC HV ZV HEQ hp q1 q3
              go_wp2_with fail
              refine HI.out.mono ?_
              rintro e u ⟨v, n2, rfl, us, fp, rfl, how, hnd, hrg, hn2, b2⟩
              obtain ⟨⟨yo, ya, yb, yes⟩, yt⟩ := Y
              obtain ⟨k3, f3, rfl, rfl, z0, z1, z2, ho3⟩ := CondD.ow how
              obtain ⟨av, cv, rfl, -, -⟩ := ho3.form
              have HN2 := Lib.hid hn2
              have HRG := Lib.hid hrg
              have HC3 := blk_keep HC2.out b2 (blk_lt HC2.out)
              have hu := HB.out.trans (b2.mono HB.out.size)
              have hWu : W.heap.size < u.heap.size := blk_lt HC3
              obtain ⟨x3c, hx3c⟩ : ∃ x, x = Value.slice (some ⟨u.heap.size + 1, 0, none⟩) 1 1 := ⟨_, rfl⟩
              obtain ⟨U3, hU3⟩ : ∃ U3, U3 = ((u.setCell ⟨W.heap.size, 3, none⟩ (.slice (some ⟨u.heap.size + 1, 0, none⟩) 1 1)).alloc (.cells #[.int .i64 yo, .int .i64 ya, .int .i64 yb, .slice av yes.length cv] 29)).alloc (.cells #[.int .i64 yo, .int .i64 ya, .int .i64 yb, .slice av yes.length cv] 29) := ⟨_, rfl⟩
              have hz1 : (u.setCell ⟨W.heap.size, 3, none⟩ (.slice (some ⟨u.heap.size + 1, 0, none⟩) 1 1)).heap.size = u.heap.size := by simp [World.setCell]
              have bU : Below (u.setCell ⟨W.heap.size, 3, none⟩ (.slice (some ⟨u.heap.size + 1, 0, none⟩) 1 1)).heap.size (u.setCell ⟨W.heap.size, 3, none⟩ (.slice (some ⟨u.heap.size + 1, 0, none⟩) 1 1)) U3 := by rw [hU3]; go_grown
              have hg : U3.heap[u.heap.size + 1]? = some (.cells #[.int .i64 yo, .int .i64 ya, .int .i64 yb, .slice av yes.length cv] 29) := by rw [hU3]; exact blk_new_at _ _ (by simp [World.setCell])
              have HU3 := Lib.hid hU3
              clear hU3 hx3c x3c
              rw [hz1] at bU
              obtain ⟨⟨x0, x1, x2, x3⟩, f0, f1, f2, f3'⟩ := cls_4 HC3
              have HC6 := Lib.hid ((bU.block W.heap.size hWu).trans (blk_set HC3 (i := 3) (.slice (some ⟨u.heap.size + 1, 0, none⟩) 1 1)))
              have hk6 : ∀ k, k < u.heap.size → k ≠ W.heap.size → U3.heap[k]? = u.heap[k]? := fun k h1 h2 => (bU.block k h1).trans (Below.heap_setCell u ⟨W.heap.size, 3, none⟩ _ k h2)
              have dU : Below W.heap.size W U3 := (hu.setCell (p := ⟨W.heap.size, 3, none⟩) (Nat.le_refl _) (.slice (some ⟨u.heap.size + 1, 0, none⟩) 1 1)).trans (bU.mono hu.size)
              have HD6 := Lib.hid (hB.trans (dU.mono hB.size))
              have HA6 := Lib.hid (blk_keep HA.out dU (by have := HZ.out; omega))
              have HW6 := Lib.hid (show owE U3 (CondD.c ⟨yo, ya, yb, yes⟩) [.int .i64 yo, .int .i64 ya, .int .i64 yb, .slice av yes.length cv] fp from how.keep fun k hk => hk6 k (owE.lt how k hk) (by have := (hrg k hk).1; have := blk_lt HC2.out; omega))
              have HG6 := Lib.hid hg
              have HFP := Lib.hid (show ∀ k ∈ fp, wr.heap.size ≤ k ∧ k < u.heap.size from fun k hk => ⟨(hrg k hk).1, owE.lt how k hk⟩)
              have HND := Lib.hid hnd
              have HZW := Lib.hid HB.out.size
              have HBS := Lib.hid b2.size
              clear c0 c1 c2 c3 how hrg hnd bU dU hk6 hg ho3 hz1
              go_upto_region 42 with fail
              rw [← HU3.out]
              clear x0 x1 x2 x3 f0 f1 f2 f3' HC3
              have HC7 : U3.heap[W.heap.size]? = some (.cells #[.int .i64 7, .int .i64 0, .int .i64 0, .slice (some ⟨u.heap.size + 1, 0, none⟩) 1 1] 29) := HC6.out
              obtain ⟨⟨c0, c1, c2, c3⟩, -⟩ := cls_4 HC7
              obtain ⟨⟨r0, r1, r2, r3⟩, g0, g1, g2, g3⟩ := cls_4 HA6.out
              have HT := Lib.hid (stt_4 HA6.out (.int .i64 7) (.int .i64 0) (.int .i64 0) (.slice (some ⟨u.heap.size + 1, 0, none⟩) 1 1))
              have HLT := Lib.hid (blk_lt HG6.out)
              clear HC7
              go_wp2_with fail
              have HT2 := HT.out
              generalize ((((U3.setCell ⟨w.heap.size, 0, none⟩ (.int .i64 7)).setCell ⟨w.heap.size, 1, none⟩ (.int .i64 0)).setCell ⟨w.heap.size, 2, none⟩ (.int .i64 0)).setCell ⟨w.heap.size, 3, none⟩ (.slice (some ⟨u.heap.size + 1, 0, none⟩) 1 1)) = WF at HT2 ⊢
              obtain ⟨⟨q0, q1, q2, q3⟩, -⟩ := cls_4 HT2.1
              have hzw := HZW.out
              have hzw2 := HZ.out
              have hbs := HBS.out
              have hgf : u.heap.size + 1 ∉ fp := fun h => by have := (HFP.out _ h).2; omega
              have hmem : ∀ k ∈ (u.heap.size + 1) :: fp, wr.heap.size ≤ k ∧ k < U3.heap.size := fun k hk => by
                have h8 := HLT.out
                rcases List.mem_cons.1 hk with rfl | hk
                · exact ⟨by omega, h8⟩
                · have := HFP.out k hk; omega
              have how := (one_own HG6.out HW6.out).touch HT2.2 (fun k hk hk2 => by
                have h9 := List.mem_singleton.1 hk2
                have := (hmem k hk).1
                omega)
              have HGOT : Got16 s w X.1 X.2 (.agg #[.int .i64 7, .int .i64 0, .int .i64 0, .slice (some ⟨u.heap.size + 1, 0, none⟩) 1 1]) n2 WF := by
                rw [← HP.out]
                exact ⟨[.int .i64 7, .int .i64 0, .int .i64 0, .slice (some ⟨u.heap.size + 1, 0, none⟩) 1 1], (u.heap.size + 1) :: fp, rfl, CondD.ow_mk rfl rfl rfl how, List.nodup_cons.2 ⟨hgf, HND.out⟩, fun k hk => ⟨by have := (hmem k hk).1; omega, Nat.lt_of_lt_of_le (hmem k hk).2 HT2.2.size⟩, HN2.out, HD6.out.trans (HT2.2.below (fun k hk => by have := List.mem_singleton.1 hk; omega) HD6.out.size)⟩
              exact bodyPost_ret (v := .tuple #[.agg #[.int .i64 7, .int .i64 0, .int .i64 0, .slice (some ⟨u.heap.size + 1, 0, none⟩) 1 1], .int .i64 (n2 : Int)]) (by simp [results, Tryd.results21, go_sem, q0, q1, q2, q3]) rfl ⟨_, n2, rfl, HGOT⟩
end Go.Proofs.YtmdmkdjeaffhaaaDoor
