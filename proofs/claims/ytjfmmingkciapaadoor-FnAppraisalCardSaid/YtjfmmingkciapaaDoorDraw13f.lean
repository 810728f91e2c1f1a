/- The draws of chapter 13's inputs: a quote and what it is checked with (drawn by chapter 12). -/
import Derived.Test.YtjfmmingkciapaaDoorDraw13e
import Derived.Test.YtjfmmingkciapaaDoorMeasA
import Derived.Test.YtjfmmingkciapaaDoorDraws
import Derived.Deep.CutBlock
import Derived.Deep.DeepCutAuto
namespace Go.Proofs.YtjfmmingkciapaaDoor
open Go.ChangeShapes Go.WideShapes Go.ChangeAt Go.RowKit
set_option linter.unusedVariables false

theorem Ints.keep {w w' : World} {B n : Nat} {p : Addr} (h : Ints w B p n) (ho : Only B w w') : Ints w' B p n := by
  obtain ⟨h1, h2, h3, h4⟩ := h
  refine ⟨h1, Nat.lt_of_lt_of_le h2 ho.size, h3, fun i hi => ?_⟩
  obtain ⟨v, v0, v1, hv⟩ := h4 i hi
  exact ⟨v, v0, v1, (ho.cell (p := ⟨p.block, p.off + i, none⟩) h2 h3).trans hv⟩
theorem Loc.cells5 {w0 w : World} {B f : Nat} {T : TypeId} {v0 v1 v2 v3 v4 : Value} (h : Loc w0 B f T #[v0, v1, v2, v3, v4] w) : w.cell? ⟨f, 0, none⟩ = some v0 ∧ w.cell? ⟨f, 1, none⟩ = some v1 ∧ w.cell? ⟨f, 2, none⟩ = some v2 ∧ w.cell? ⟨f, 3, none⟩ = some v3 ∧ w.cell? ⟨f, 4, none⟩ = some v4 :=
  ⟨h.cell 0 rfl, h.cell 1 rfl, h.cell 2 rfl, h.cell 3 rfl, h.cell 4 rfl⟩
theorem wrap_wfJ (x : Int) : (Lit.int .i64 (IntKind.i64.wrap x)).wf = true := by
  rw [IntKind.wrap_i64]
  exact wf_i64 (by omega) (by omega)
theorem makeQ_wfJ {k d n t : Int} {log : List Int} (hd : (Lit.int .i64 d).wf = true) (hn : (Lit.int .i64 n).wf = true) (ht : (Lit.int .i64 t).wf = true) : (makeQ k d log n t).wf := by
  have hm := keyed_bd k [d, regOf log, n, t]
  unfold makeQ
  split
  · exact ⟨hd, regOf_wf _, hn, ht, wf_i64 (by show _ ≤ keyed _ _; omega) (by show keyed _ _ ≤ _; omega)⟩
  · exact ⟨by decide, by decide, by decide, by decide, by decide⟩
set_option maxHeartbeats 32000000 in
set_option maxRecDepth 100000 in
theorem draw_checkQuote (w : World) (a : Option Addr) (len cap : Nat) (z : List Int) (hr : IsRow .u8 w a len cap z) :
    Calls Tryd.prog 23 #[.slice a len cap] w fun e w' => ∃ (k : Int) (q : QuoteD) (u : Value) (xs : List Int) (n now ag : Int), (Lit.int .i64 k).wf = true ∧ q.wf ∧ (Lit.int .i64 n).wf = true ∧ (Lit.int .i64 now).wf = true ∧ (Lit.int .i64 ag).wf = true ∧
      e = .returned (.tuple #[.int .i64 k, q.val, u, .int .i64 n, .int .i64 now, .int .i64 ag]) ∧ Own 3 .i64 w' w.heap.size w'.heap.size u xs ∧ xs.length ≤ 5 ∧ Below w.heap.size w w' := by
  obtain ⟨i0, hi0, hz0, hz1, hz2⟩ := info_parts infoIntS
  obtain ⟨W0, hW0⟩ : ∃ W0, W0 = w.alloc (.cells #[.int .i64 0, .int .i64 0, .int .i64 0, .int .i64 0, .int .i64 0] 36) := ⟨_, rfl⟩
  have hb0 : Below w.heap.size w W0 := by rw [hW0]; exact (Below.refl _ _).alloc (Nat.le_refl _) _
  have hk0 : W0.heap[w.heap.size]? = some (.cells #[.int .i64 0, .int .i64 0, .int .i64 0, .int .i64 0, .int .i64 0] 36) := by rw [hW0]; exact blk_new _ _ _
  have hr0 := hr.below hb0
  go_enter Tryd.func23, Tryd.ntmps23
  go_upto_region 1 with fail
  rw [← hW0]
  clear hW0
  go_wp2_with fail
  refine (new_any W0 a len cap z hr0).mono ?_
  rintro e w1 ⟨B, rfl, hB, hb1, hc1⟩
  have lR1 : Loc w B w.heap.size 36 #[.int .i64 0, .int .i64 0, .int .i64 0, .int .i64 0, .int .i64 0] w1 := Loc.early hb0 hb1 hk0 (Nat.le_refl _) (blk_lt hk0) hB
  have hRw1 := lR1.lt
  have hBw1 := hc1.lt
  have hBw : w.heap.size ≤ B := Nat.le_trans hb0.size hB
  clear hk0 hb1 hr0
  go_wp2_with fail
  refine (log_any _ B a len cap z hc1).mono ?_
  rintro e w2 ⟨u, ls, rfl, og2, hll, hlb, ho2, hc2⟩
  obtain ⟨au, ku, rfl, -⟩ := id og2.read.form
  have lR2 := lR1.call ho2
  go_wp2_with fail
  refine (below_any _ B a len cap z 9 (by decide) (by decide) hc2).mono ?_
  rintro e w3 ⟨n, hn, rfl, oc3, hc3⟩
  have ho3 := ho2.trans oc3
  have og3 := og2.only oc3 (.inl hBw1)
  have lR3 := lR2.call oc3
  go_wp2_with fail
  refine (name_any _ B a len cap z 2 (by decide) (by decide) hc3).mono ?_
  rintro e w4 ⟨d0, d1, d2, rfl, oc4, hc4⟩
  have ho4 := ho3.trans oc4
  have og4 := og3.only oc4 (.inl hBw1)
  have lR4 := lR3.call oc4
  go_wp2_with fail
  refine (below_any _ B a len cap z 20 (by decide) (by decide) hc4).mono ?_
  rintro e w5 ⟨t, ht, rfl, oc5, hc5⟩
  have ho5 := ho4.trans oc5
  have og5 := og4.only oc5 (.inl hBw1)
  have lR5 := lR4.call oc5
  have hdw : (Lit.int .i64 d0).wf = true := wf_i64 (by omega) (by omega)
  have hnw : (Lit.int .i64 (n : Int)).wf = true := wf_i64 (by omega) (by omega)
  have htw : (Lit.int .i64 (t : Int)).wf = true := wf_i64 (by omega) (by omega)
  have hs5 := ho5.size
  have CM := spec_makeQuote 200 d0 (n : Int) (t : Int) w5 _ ku au ls og5.read (by have := oc3.size; have := oc4.size; have := oc5.size; omega) (by decide) hdw hnw htw
  have hqw := makeQ_wfJ (k := 200) (log := ls) hdw hnw htw
  generalize makeQ 200 d0 ls (n : Int) (t : Int) = Q at CM hqw
  generalize okQuote 200 d0 ls (t : Int) = okq at CM
  obtain ⟨q0, q1, q2, q3, q4⟩ := Q
  rw [QuoteD.val_mk] at CM
  clear og2 og3 og4 lR2 lR3 lR4 hc2 hc3 hc4 ho2 ho3 ho4 lR1 hdw htw d1 d2
  go_wp2_with fail
  refine CM.mono ?_
  rintro e w6 ⟨rfl, b6⟩
  have oc6 : Only B w5 w6 := Below.only b6
  have ho6 := ho5.trans oc6
  have og6 := (og5.only oc6 (.inl hBw1)).wide (hi' := w6.heap.size) (Nat.le_refl _) (by have := oc3.size; have := oc4.size; have := oc5.size; have := oc6.size; omega)
  have lR6 := lR5.call oc6
  have hc6 := hc5.only b6
  obtain ⟨W7, hW7⟩ : ∃ W7, W7 = w6.alloc (.cells #[.int .i64 q0, .int .i64 q1, .int .i64 q2, .int .i64 q3, .int .i64 q4] 36) := ⟨_, rfl⟩
  have lF7 : Loc w B w6.heap.size 36 #[.int .i64 q0, .int .i64 q1, .int .i64 q2, .int .i64 q3, .int .i64 q4] W7 := by rw [hW7]; exact Loc.mk_new lR6.only hc6.lt
  have lR7 : Loc w B w.heap.size 36 #[.int .i64 0, .int .i64 0, .int .i64 0, .int .i64 0, .int .i64 0] W7 := by rw [hW7]; exact lR6.alloc _
  have hc7 : Cur W7 B a len cap z := by rw [hW7]; exact hc6.alloc _
  have ho7 : Only B w1 W7 := by rw [hW7]; exact ho6.alloc _
  have og7 : Own 3 .i64 W7 w1.heap.size w6.heap.size (.slice au ls.length ku) ls := by rw [hW7]; exact og6.below ((Below.refl w6.heap.size w6).alloc (Nat.le_refl _) _) (Nat.le_refl _)
  have hF0 := lR6.lt
  have hFw1 := ho6.size
  clear lR5 lR6 hc5 hc6 ho5 ho6 og5 og6 oc3 oc4 oc5 oc6 b6 CM
  go_upto_region 5 with fail
  rw [← hW7]
  clear hW7
  obtain ⟨F, hF⟩ : ∃ F, w6.heap.size = F := ⟨_, rfl⟩
  rw [hF] at lF7 og7 hF0 hFw1 ⊢
  clear hF
  have hFR : F ≠ w.heap.size := by omega
  have hBF : B < F := by omega
  go_wp2_with fail
  refine (below_any _ B a len cap z 8 (by decide) (by decide) hc7).mono ?_
  rintro e w8 ⟨m, hm, rfl, oc8, hc8⟩
  have lF8 := lF7.call oc8
  have lR8 := lR7.call oc8
  have ho8 := ho7.trans oc8
  have og8 := og7.only oc8 (.inl hBw1)
  have hH8 := Nat.le_of_lt lF8.lt
  clear lF7 lR7 ho7 og7 hc7
  have HQW0 := Lib.hid hqw
  have HNN0 := Lib.hid hnw
  have HLL0 := Lib.hid (show ls.length ≤ 5 by omega)
  clear hqw hnw
  go_upto_block 0 with fail
  go_cut [9, 10] (fun u nv wx => ∃ (aX : Option Addr) (kX : Nat) (l : List Int) (n' p0 p1 p2 p3 p4 : Int) (HI : Nat), u = .slice aX l.length kX ∧ nv = .int .i64 n' ∧ Hid (l.length ≤ 5) ∧ Hid ((Lit.int .i64 n').wf = true) ∧ Hid ((⟨p0, p1, p2, p3, p4⟩ : QuoteD).wf) ∧ Hid (Loc w B F 36 #[.int .i64 p0, .int .i64 p1, .int .i64 p2, .int .i64 p3, .int .i64 p4] wx) ∧ Hid (Loc w B w.heap.size 36 #[.int .i64 0, .int .i64 0, .int .i64 0, .int .i64 0, .int .i64 0] wx) ∧ Hid (Cur wx B a len cap z) ∧ Hid (Only B w1 wx) ∧ Hid (Own 3 .i64 wx w1.heap.size HI (.slice aX l.length kX) l) ∧ HI ≤ wx.heap.size)
  case first =>
    have hcs : m = 0 ∨ m = 1 ∨ m = 2 ∨ m = 3 ∨ (m ≠ 0 ∧ m ≠ 1 ∧ m ≠ 2 ∧ m ≠ 3) := by omega
    rcases hcs with rfl | rfl | rfl | rfl | ⟨m0, m1, m2, m3⟩
    · have oc9 : Only B w8 (w8.alloc (.cells #[.int .i64 1] 3)) := (Only.refl _ _).alloc _
      have og9 := og8.only oc9 (.inl hBw1)
      have hsz9 : w1.heap.size ≤ (w8.alloc (.cells #[.int .i64 1] 3)).heap.size := (ho8.trans oc9).size
      have lF9 := lF8.call oc9
      have lR9 := lR8.call oc9
      have ho9 := ho8.trans oc9
      have hc9 := hc8.alloc (.cells #[.int .i64 1] 3)
      go_wp2_with (at_builtin; refine wpList_append_one rfl _ _ 24 rfl 3 i0 (.int .i64 0) 8 Tryd.underlying24 hi0 hz0 hz1 hz2 rfl _ _ _ ls rfl og9 w8 1 3 rfl rfl (by omega) (by decide) hsz9 ?_; intro vA wX g1 g2 g3)
      have lFX := lF9.grown g2 (fun k e => Nat.le_trans (Nat.le_of_lt hRw1) (og9.lt k e).1) (fun e => Nat.lt_irrefl _ (og9.lt _ e).2.1)
      have lRX := lR9.grown g2 (fun k e => Nat.le_trans (Nat.le_of_lt hRw1) (og9.lt k e).1) (fun e => by have := (og9.lt _ e).1; omega)
      have hcX := hc9.kept (below_of_grown g2 (fun k e => (og9.lt k e).1) hsz9) hBw1
      have hoX : Only B w1 wX := grown_only g2 (fun k e => (og9.lt k e).1) ho9 (Nat.le_refl _)
      have ogX : Own 3 .i64 wX w1.heap.size wX.heap.size vA (ls ++ [1]) := ⟨g1, fun k hk => (g1.lt k hk).2, fun x hx => by
        rcases List.mem_append.1 hx with hx | hx
        · exact og9.wf x hx
        · rw [List.mem_singleton.1 hx]; decide⟩
      obtain ⟨aX, kX, rfl, -⟩ := id ogX.read.form
      go_meet
      exact ⟨aX, kX, ls ++ [1], (n : Int), q0, q1, q2, q3, q4, _, rfl, rfl, Lib.hid (by rw [List.length_append, List.length_singleton]; omega), HNN0, HQW0, Lib.hid lFX, Lib.hid lRX, Lib.hid hcX, Lib.hid hoX, Lib.hid ogX, Nat.le_refl _⟩
    · have hW1 : IntKind.i64.wrap ((n : Int) + 1) = (n : Int) + 1 := by rw [IntKind.wrap_i64]; omega
      go_wp2
      go_meet
      exact ⟨au, ku, ls, (n : Int) + 1, q0, q1, q2, q3, q4, F, rfl, rfl, HLL0, Lib.hid (wf_i64 (by omega) (by omega)), HQW0, Lib.hid lF8, Lib.hid lR8, Lib.hid hc8, Lib.hid ho8, Lib.hid og8, hH8⟩
    · obtain ⟨r, hr⟩ : ∃ r, IntKind.i64.wrap (q1 + 1) = r := ⟨_, rfl⟩
      have hrw : (Lit.int .i64 r).wf = true := by rw [← hr]; exact wrap_wfJ _
      obtain ⟨c0, c1, c2, c3, c4⟩ := lF8.cells5
      have yf := lF8.frozen 1
      have lF9 : Loc w B F 36 #[.int .i64 q0, .int .i64 r, .int .i64 q2, .int .i64 q3, .int .i64 q4] (w8.setCell ⟨F, 1, none⟩ (.int .i64 r)) := lF8.set 1 (.int .i64 r)
      have lR9 := lR8.setFar lF8.new hFR.symm 1 (.int .i64 r)
      have hc9 := hc8.setFar hBF 1 (.int .i64 r)
      have ho9 := ho8.setNew (p := ⟨F, 1, none⟩) hFw1 (.int .i64 r)
      have og9 := og8.keep (w' := w8.setCell ⟨F, 1, none⟩ (.int .i64 r)) (fun k h1 h2 h3 => Below.heap_setCell w8 ⟨F, 1, none⟩ _ k (Nat.ne_of_lt h2))
      have hH9 : F ≤ (w8.setCell ⟨F, 1, none⟩ (.int .i64 r)).heap.size := Nat.le_of_lt lF9.lt
      have HL9 := Lib.hid lF9
      clear lF9
      go_wp2
      go_meet
      exact ⟨au, ku, ls, (n : Int), q0, r, q2, q3, q4, F, rfl, rfl, HLL0, HNN0, Lib.hid ⟨HQW0.out.1, hrw, HQW0.out.2.2.1, HQW0.out.2.2.2.1, HQW0.out.2.2.2.2⟩, HL9, Lib.hid lR9, Lib.hid hc9, Lib.hid ho9, Lib.hid og9, hH9⟩
    · obtain ⟨r, hr⟩ : ∃ r, IntKind.i64.wrap (q3 + 1) = r := ⟨_, rfl⟩
      have hrw : (Lit.int .i64 r).wf = true := by rw [← hr]; exact wrap_wfJ _
      obtain ⟨c0, c1, c2, c3, c4⟩ := lF8.cells5
      have yf := lF8.frozen 3
      have lF9 : Loc w B F 36 #[.int .i64 q0, .int .i64 q1, .int .i64 q2, .int .i64 r, .int .i64 q4] (w8.setCell ⟨F, 3, none⟩ (.int .i64 r)) := lF8.set 3 (.int .i64 r)
      have lR9 := lR8.setFar lF8.new hFR.symm 3 (.int .i64 r)
      have hc9 := hc8.setFar hBF 3 (.int .i64 r)
      have ho9 := ho8.setNew (p := ⟨F, 3, none⟩) hFw1 (.int .i64 r)
      have og9 := og8.keep (w' := w8.setCell ⟨F, 3, none⟩ (.int .i64 r)) (fun k h1 h2 h3 => Below.heap_setCell w8 ⟨F, 3, none⟩ _ k (Nat.ne_of_lt h2))
      have hH9 : F ≤ (w8.setCell ⟨F, 3, none⟩ (.int .i64 r)).heap.size := Nat.le_of_lt lF9.lt
      have HL9 := Lib.hid lF9
      clear lF9
      go_wp2
      go_meet
      exact ⟨au, ku, ls, (n : Int), q0, q1, q2, r, q4, F, rfl, rfl, HLL0, HNN0, Lib.hid ⟨HQW0.out.1, HQW0.out.2.1, HQW0.out.2.2.1, hrw, HQW0.out.2.2.2.2⟩, HL9, Lib.hid lR9, Lib.hid hc9, Lib.hid ho9, Lib.hid og9, hH9⟩
    · have e0 : ((m : Int) == 0) = false := by rw [beq_eq_false_iff_ne]; omega
      have e1 : ((m : Int) == 1) = false := by rw [beq_eq_false_iff_ne]; omega
      have e2 : ((m : Int) == 2) = false := by rw [beq_eq_false_iff_ne]; omega
      have e3 : ((m : Int) == 3) = false := by rw [beq_eq_false_iff_ne]; omega
      go_wp2
      go_meet
      exact ⟨au, ku, ls, (n : Int), q0, q1, q2, q3, q4, F, rfl, rfl, HLL0, HNN0, HQW0, Lib.hid lF8, Lib.hid lR8, Lib.hid hc8, Lib.hid ho8, Lib.hid og8, hH8⟩
  case rest =>
    obtain ⟨aX, kX, l9, n', p0, p1, p2, p3, p4, HI, rfl, rfl, HLL, HNN, HQW, HFc, HRc, HCc, HOc, HGc, hHc⟩ := hcut
    have lFc := HFc.out
    have lRc := HRc.out
    have hcc := HCc.out
    have hoc := HOc.out
    have ogc := HGc.out
    clear lF8 lR8 hc8 ho8 og8 hH8 HFc HRc HCc HOc HGc HQW0 HNN0 HLL0
    go_upto_region 14 with fail
    refine wp_region_held_drew (S := fun U => U.cell? ⟨F, 0, none⟩ = some (.int .i64 p0) ∧ U.cell? ⟨F, 1, none⟩ = some (.int .i64 p1) ∧ U.cell? ⟨F, 2, none⟩ = some (.int .i64 p2) ∧ U.cell? ⟨F, 3, none⟩ = some (.int .i64 p3) ∧ U.cell? ⟨F, 4, none⟩ = some (.int .i64 p4)) (by kernel_rfl) (lFc.drew.cells5) (fun hHeld => ?_)
    have lFDA := lFc.drew
    have lRDA := lRc.drew
    have hcDA := hcc.drewN 1
    change Cur wc.drew B a len cap z at hcDA
    have hoDA := hoc.drew
    have ogDA := ogc.drewN 1
    have hHDA := hHc
    change Own 3 .i64 wc.drew _ _ _ _ at ogDA
    change _ ≤ wc.drew.heap.size at hHDA
    generalize hDD : wc.drew = UA at lFDA lRDA hcDA hoDA ogDA hHDA hHeld ⊢
    clear hDD
    refine wpAnyH_take (i := 0) (oi := ⟨some 53, _, _, _, _, _⟩) (v := ?_) rfl (by kernel_rfl) (by kernel_rfl) (by kernel_rfl) (fun _ _ _ h => h) (Or.inl ⟨by rfl, ?_⟩) (by assumption) ?_
    rotate_left
    · intro w hSw; (try dsimp only at hSw); go_simp <;> (with_reducible rfl)
    (try simp only [Act.put, List.setIfInBounds_toArray, List.set_cons_zero, List.set_cons_succ])
    refine wpAnyH_take (i := 1) (oi := ⟨some 54, _, _, _, _, _⟩) (v := ?_) rfl (by kernel_rfl) (by kernel_rfl) (by kernel_rfl) (fun _ _ _ h => h) (Or.inl ⟨by rfl, ?_⟩) (by assumption) ?_
    rotate_left
    · intro w hSw; (try dsimp only at hSw); go_simp <;> (with_reducible rfl)
    (try simp only [Act.put, List.setIfInBounds_toArray, List.set_cons_zero, List.set_cons_succ])
    refine wpAnyH_take (i := 2) (oi := ⟨some 55, _, _, _, _, _⟩) (v := ?_) rfl (by kernel_rfl) (by kernel_rfl) (by kernel_rfl) (fun _ _ _ h => h) (Or.inl ⟨by rfl, ?_⟩) (by assumption) ?_
    rotate_left
    · intro w hSw; (try dsimp only at hSw); go_simp <;> (with_reducible rfl)
    (try simp only [Act.put, List.setIfInBounds_toArray, List.set_cons_zero, List.set_cons_succ])
    refine wpAnyH_ready (rs := [3]) (by kernel_rfl) (by simp) ?_
    refine AllReadyH.cons (o := ⟨some 56, _, _, _, _, _⟩) rfl (fun K hK => ?_) AllReadyH.nil
    go_simp
    (with_reducible refine (below_any _ B a len cap z 6 (by decide) (by decide) hcDA).mono ?_)
    rintro eA wA ⟨dt, hdt, rfl, ocA, hcA⟩
    have lFA := lFDA.call ocA
    have lRA := lRDA.call ocA
    have hoA := hoDA.trans ocA
    have ogA := ogDA.only ocA (.inl hBw1)
    have hHA := Nat.le_trans hHDA ocA.size
    refine hK.out _ _ (lFA.cells5) (fun hHeld2 => ?_)
    clear hK K
    (try simp only [Act.put, List.setIfInBounds_toArray, List.set_cons_zero, List.set_cons_succ])
    refine wpAnyH_take (i := 4) (oi := ⟨some 57, _, _, _, _, _⟩) (v := ?_) rfl (by kernel_rfl) (by kernel_rfl) (by kernel_rfl) (fun _ _ _ h => h) (Or.inl ⟨by rfl, ?_⟩) (by assumption) ?_
    rotate_left
    · intro w hSw; (try dsimp only at hSw); go_simp <;> (with_reducible rfl)
    (try simp only [Act.put, List.setIfInBounds_toArray, List.set_cons_zero, List.set_cons_succ])
    refine wpAnyH_take (i := 5) (oi := ⟨some 13, _, _, _, _, _⟩) (v := ?_) rfl (by kernel_rfl) (by kernel_rfl) (by kernel_rfl) (fun _ _ _ h => h) (Or.inl ⟨by rfl, ?_⟩) (by assumption) ?_
    rotate_left
    · intro w hSw; (try dsimp only at hSw); go_simp <;> (with_reducible rfl)
    (try simp only [Act.put, List.setIfInBounds_toArray, List.set_cons_zero, List.set_cons_succ])
    refine wpAnyH_done (by kernel_rfl) ?_ _
    obtain ⟨now, hnow⟩ : ∃ now, IntKind.i64.wrap (p3 + (dt : Int)) = now := ⟨_, rfl⟩
    have HNW := Lib.hid (show (Lit.int .i64 now).wf = true by rw [← hnow]; exact wrap_wfJ _)
    rw [hnow]
    clear hnow
    go_upto_region 15 with fail
    refine wp_region_held_drew (S := fun U => U.cell? ⟨F, 0, none⟩ = some (.int .i64 p0) ∧ U.cell? ⟨F, 1, none⟩ = some (.int .i64 p1) ∧ U.cell? ⟨F, 2, none⟩ = some (.int .i64 p2) ∧ U.cell? ⟨F, 3, none⟩ = some (.int .i64 p3) ∧ U.cell? ⟨F, 4, none⟩ = some (.int .i64 p4)) (by kernel_rfl) (lFA.drew.cells5) (fun hHeld => ?_)
    have lFDB := lFA.drew
    have lRDB := lRA.drew
    have hcDB := hcA.drewN 1
    change Cur wA.drew B a len cap z at hcDB
    have hoDB := hoA.drew
    have ogDB := ogA.drewN 1
    have hHDB := hHA
    change Own 3 .i64 wA.drew _ _ _ _ at ogDB
    change _ ≤ wA.drew.heap.size at hHDB
    generalize hDD : wA.drew = UB at lFDB lRDB hcDB hoDB ogDB hHDB hHeld ⊢
    clear hDD
    refine wpAnyH_take (i := 0) (oi := ⟨some 58, _, _, _, _, _⟩) (v := ?_) rfl (by kernel_rfl) (by kernel_rfl) (by kernel_rfl) (fun _ _ _ h => h) (Or.inl ⟨by rfl, ?_⟩) (by assumption) ?_
    rotate_left
    · intro w hSw; (try dsimp only at hSw); go_simp <;> (with_reducible rfl)
    (try simp only [Act.put, List.setIfInBounds_toArray, List.set_cons_zero, List.set_cons_succ])
    refine wpAnyH_take (i := 3) (oi := ⟨some 61, _, _, _, _, _⟩) (v := ?_) rfl (by kernel_rfl) (by kernel_rfl) (by kernel_rfl) (fun _ _ _ h => h) (Or.inl ⟨by rfl, ?_⟩) (by assumption) ?_
    rotate_left
    · intro w hSw; (try dsimp only at hSw); go_simp <;> (with_reducible rfl)
    (try simp only [Act.put, List.setIfInBounds_toArray, List.set_cons_zero, List.set_cons_succ])
    refine wpAnyH_take (i := 4) (oi := ⟨some 62, _, _, _, _, _⟩) (v := ?_) rfl (by kernel_rfl) (by kernel_rfl) (by kernel_rfl) (fun _ _ _ h => h) (Or.inl ⟨by rfl, ?_⟩) (by assumption) ?_
    rotate_left
    · intro w hSw; (try dsimp only at hSw); go_simp <;> (with_reducible rfl)
    (try simp only [Act.put, List.setIfInBounds_toArray, List.set_cons_zero, List.set_cons_succ])
    refine wpAnyH_take (i := 5) (oi := ⟨some 63, _, _, _, _, _⟩) (v := ?_) rfl (by kernel_rfl) (by kernel_rfl) (by kernel_rfl) (fun _ _ _ h => h) (Or.inl ⟨by rfl, ?_⟩) (by assumption) ?_
    rotate_left
    · intro w hSw; (try dsimp only at hSw); go_simp <;> (with_reducible rfl)
    (try simp only [Act.put, List.setIfInBounds_toArray, List.set_cons_zero, List.set_cons_succ])
    refine wpAnyH_take (i := 6) (oi := ⟨some 64, _, _, _, _, _⟩) (v := ?_) rfl (by kernel_rfl) (by kernel_rfl) (by kernel_rfl) (fun _ _ _ h => h) (Or.inl ⟨by rfl, ?_⟩) (by assumption) ?_
    rotate_left
    · intro w hSw; (try dsimp only at hSw); go_simp <;> (with_reducible rfl)
    (try simp only [Act.put, List.setIfInBounds_toArray, List.set_cons_zero, List.set_cons_succ])
    refine wpAnyH_take (i := 7) (oi := ⟨some 65, _, _, _, _, _⟩) (v := ?_) rfl (by kernel_rfl) (by kernel_rfl) (by kernel_rfl) (fun _ _ _ h => h) (Or.inl ⟨by rfl, ?_⟩) (by assumption) ?_
    rotate_left
    · intro w hSw; (try dsimp only at hSw); go_simp <;> (with_reducible rfl)
    (try simp only [Act.put, List.setIfInBounds_toArray, List.set_cons_zero, List.set_cons_succ])
    refine wpAnyH_ready (rs := [1, 8]) (by kernel_rfl) (by simp) ?_
    refine AllReadyH.cons (o := ⟨some 59, _, _, _, _, _⟩) rfl (fun K hK => ?_) (AllReadyH.cons (o := ⟨some 66, _, _, _, _, _⟩) rfl (fun K hK => ?_) (AllReadyH.nil))
    · skip
      have lFm1 := lFDB.alloc (.cells #[.int .i64 200, .int .i64 200, .int .i64 200, .int .i64 201] 3)
      have lRm1 := lRDB.alloc (.cells #[.int .i64 200, .int .i64 200, .int .i64 200, .int .i64 201] 3)
      have hcm1 := hcDB.alloc (.cells #[.int .i64 200, .int .i64 200, .int .i64 200, .int .i64 201] 3)
      have hom1 := hoDB.alloc (.cells #[.int .i64 200, .int .i64 200, .int .i64 200, .int .i64 201] 3)
      have onm1 : Only B UB ((UB.alloc (.cells #[.int .i64 200, .int .i64 200, .int .i64 200, .int .i64 201] 3))) := (Only.refl _ _).alloc _
      have ogm1 := ogDB.only onm1 (.inl hBw1)
      have hHm1 := Nat.le_trans hHDB onm1.size
      have I59_m1 := ints_lit UB B hcDB.lt 3 [.int .i64 200, .int .i64 200, .int .i64 200, .int .i64 201] 4 rfl
      try rw [World.size_alloc] at I59_m1
      go_simp
      refine hK.out _ _ (lFm1.cells5) (fun hHeld2 => ?_)
      clear hK K
      (try simp only [Act.put, List.setIfInBounds_toArray, List.set_cons_zero, List.set_cons_succ])
      refine wpAnyH_ready (rs := [2, 8]) (by kernel_rfl) (by simp) ?_
      refine AllReadyH.cons (o := ⟨some 60, _, _, _, _, _⟩) rfl (fun K hK => ?_) (AllReadyH.cons (o := ⟨some 66, _, _, _, _, _⟩) rfl (fun K hK => ?_) (AllReadyH.nil))
      · skip
        go_simp
        (with_reducible refine (int_any _ B a len cap z _ 4 4 (by decide) (by decide) I59_m1 hcm1).mono ?_)
        rintro em2 wm2 ⟨k, k0, k1, rfl, ocm2, hcm2⟩
        have lFm2 := lFm1.call ocm2
        have lRm2 := lRm1.call ocm2
        have hom2 := hom1.trans ocm2
        have onm2 := ocm2
        have ogm2 := ogm1.only onm2 (.inl hBw1)
        have hHm2 := Nat.le_trans hHm1 onm2.size
        have I59_m2 := I59_m1.keep onm2
        refine hK.out _ _ (lFm2.cells5) (fun hHeld2 => ?_)
        clear hK K
        (try simp only [Act.put, List.setIfInBounds_toArray, List.set_cons_zero, List.set_cons_succ])
        refine wpAnyH_ready (rs := [8]) (by kernel_rfl) (by simp) ?_
        refine AllReadyH.cons (o := ⟨some 66, _, _, _, _, _⟩) rfl (fun K hK => ?_) (AllReadyH.nil)
        have lFm3 := lFm2.alloc (.cells #[.int .i64 0, .int .i64 3, .int .i64 9] 3)
        have lRm3 := lRm2.alloc (.cells #[.int .i64 0, .int .i64 3, .int .i64 9] 3)
        have hcm3 := hcm2.alloc (.cells #[.int .i64 0, .int .i64 3, .int .i64 9] 3)
        have hom3 := hom2.alloc (.cells #[.int .i64 0, .int .i64 3, .int .i64 9] 3)
        have onm3 : Only B wm2 ((wm2.alloc (.cells #[.int .i64 0, .int .i64 3, .int .i64 9] 3))) := (Only.refl _ _).alloc _
        have ogm3 := ogm2.only onm3 (.inl hBw1)
        have hHm3 := Nat.le_trans hHm2 onm3.size
        have I59_m3 := I59_m2.keep onm3
        have I66_m3 := ints_lit wm2 B hcm2.lt 3 [.int .i64 0, .int .i64 3, .int .i64 9] 3 rfl
        try rw [World.size_alloc] at I66_m3
        go_simp
        refine hK.out _ _ (lFm3.cells5) (fun hHeld2 => ?_)
        clear hK K
        (try simp only [Act.put, List.setIfInBounds_toArray, List.set_cons_zero, List.set_cons_succ])
        refine wpAnyH_ready (rs := [9]) (by kernel_rfl) (by simp) ?_
        refine AllReadyH.cons (o := ⟨some 67, _, _, _, _, _⟩) rfl (fun K hK => ?_) (AllReadyH.nil)
        go_simp
        (with_reducible refine (int_any _ B a len cap z _ 3 3 (by decide) (by decide) I66_m3 hcm3).mono ?_)
        rintro em4 wm4 ⟨ag, ag0, ag1, rfl, ocm4, hcm4⟩
        have lFm4 := lFm3.call ocm4
        have lRm4 := lRm3.call ocm4
        have hom4 := hom3.trans ocm4
        have onm4 := ocm4
        have ogm4 := ogm3.only onm4 (.inl hBw1)
        have hHm4 := Nat.le_trans hHm3 onm4.size
        have I66_m4 := I66_m3.keep onm4
        have I59_m4 := I59_m3.keep onm4
        refine hK.out _ _ (lFm4.cells5) (fun hHeld2 => ?_)
        clear hK K
        (try simp only [Act.put, List.setIfInBounds_toArray, List.set_cons_zero, List.set_cons_succ])
        refine wpAnyH_take (i := 10) (oi := ⟨some 2, _, _, _, _, _⟩) (v := ?_) rfl (by kernel_rfl) (by kernel_rfl) (by kernel_rfl) (fun _ _ _ h => h) (Or.inl ⟨by rfl, ?_⟩) (by assumption) ?_
        rotate_left
        · intro w hSw; (try dsimp only at hSw); go_simp <;> (with_reducible rfl)
        (try simp only [Act.put, List.setIfInBounds_toArray, List.set_cons_zero, List.set_cons_succ])
        refine wpAnyH_ready (rs := [11]) (by kernel_rfl) (by simp) ?_
        refine AllReadyH.cons (o := ⟨none, _, _, _, _, _⟩) rfl (fun K hK => ?_) AllReadyH.nil
        obtain ⟨⟨z0, z1, z2, z3, z4⟩, j0, j1, j2, j3, j4⟩ := cls_5 lRm4.blk
        obtain ⟨hE, tE⟩ := stt_5 lRm4.blk (.int .i64 p0) (.int .i64 p1) (.int .i64 p2) (.int .i64 p3) (.int .i64 p4)
        have HE := Lib.hid (cls_5 hE).1
        have HT := Lib.hid tE
        have lFs := (((((lFm4.setFar lRm4.new hFR 0 (.int .i64 p0)).setFar lRm4.new hFR 1 (.int .i64 p1)).setFar lRm4.new hFR 2 (.int .i64 p2)).setFar lRm4.new hFR 3 (.int .i64 p3)).setFar lRm4.new hFR 4 (.int .i64 p4))
        go_simp
        refine hK.out _ _ (lFs.cells5) (fun hHeld2 => ?_)
        clear hK K
        (try simp only [Act.put, List.setIfInBounds_toArray, List.set_cons_zero, List.set_cons_succ])
        refine wpAnyH_take (i := 12) (oi := ⟨some 4, _, _, _, _, _⟩) (v := ?_) rfl (by kernel_rfl) (by kernel_rfl) (by kernel_rfl) (fun _ _ _ h => h) (Or.inl ⟨by rfl, ?_⟩) (by assumption) ?_
        rotate_left
        · intro w hSw; (try dsimp only at hSw); go_simp <;> (with_reducible rfl)
        (try simp only [Act.put, List.setIfInBounds_toArray, List.set_cons_zero, List.set_cons_succ])
        refine wpAnyH_take (i := 13) (oi := ⟨some 5, _, _, _, _, _⟩) (v := ?_) rfl (by kernel_rfl) (by kernel_rfl) (by kernel_rfl) (fun _ _ _ h => h) (Or.inl ⟨by rfl, ?_⟩) (by assumption) ?_
        rotate_left
        · intro w hSw; (try dsimp only at hSw); go_simp <;> (with_reducible rfl)
        (try simp only [Act.put, List.setIfInBounds_toArray, List.set_cons_zero, List.set_cons_succ])
        refine wpAnyH_take (i := 14) (oi := ⟨some 6, _, _, _, _, _⟩) (v := ?_) rfl (by kernel_rfl) (by kernel_rfl) (by kernel_rfl) (fun _ _ _ h => h) (Or.inl ⟨by rfl, ?_⟩) (by assumption) ?_
        rotate_left
        · intro w hSw; (try dsimp only at hSw); go_simp <;> (with_reducible rfl)
        (try simp only [Act.put, List.setIfInBounds_toArray, List.set_cons_zero, List.set_cons_succ])
        refine wpAnyH_take (i := 15) (oi := ⟨some 7, _, _, _, _, _⟩) (v := ?_) rfl (by kernel_rfl) (by kernel_rfl) (by kernel_rfl) (fun _ _ _ h => h) (Or.inl ⟨by rfl, ?_⟩) (by assumption) ?_
        rotate_left
        · intro w hSw; (try dsimp only at hSw); go_simp <;> (with_reducible rfl)
        (try simp only [Act.put, List.setIfInBounds_toArray, List.set_cons_zero, List.set_cons_succ])
        refine wpAnyH_done (by kernel_rfl) ?_ _
        have tE := HT.out
        have hRl := lRm4.lt
        have hlf : Own 3 .i64 _ w.heap.size _ _ l9 := ((ogm4.keep (fun j h1 h2 h3 => tE.block j h3 (by rw [List.mem_singleton]; omega))).wide (lo' := w.heap.size) (Nat.le_of_lt hRw1) (Nat.le_trans hHm4 tE.size))
        have hbf := (lRm4.only.trans' tE (Nat.le_refl _)).below (Nat.le_refl _) hBw
        obtain ⟨e0, e1, e2, e3, e4⟩ := HE.out
        clear z0 z1 z2 z3 z4 j0 j1 j2 j3 j4 lFs tE HT hE
        generalize World.setCell _ _ _ = V9 at e0 e1 e2 e3 e4 hlf hbf ⊢
        go_wp2
        refine bodyPost_ret (v := .tuple #[.int .i64 k, .agg #[.int .i64 p0, .int .i64 p1, .int .i64 p2, .int .i64 p3, .int .i64 p4], .slice aX l9.length kX, .int .i64 n', .int .i64 now, .int .i64 ag]) (by simp [results, Tryd.results23, go_sem, e0, e1, e2, e3, e4]) rfl ?_
        exact ⟨k, ⟨p0, p1, p2, p3, p4⟩, _, l9, n', now, ag, wf_i64 k0 k1, HQW.out, HNN.out, HNW.out, wf_i64 ag0 ag1, rfl, hlf, HLL.out, hbf⟩
      · skip
        have lFm5 := lFm1.alloc (.cells #[.int .i64 0, .int .i64 3, .int .i64 9] 3)
        have lRm5 := lRm1.alloc (.cells #[.int .i64 0, .int .i64 3, .int .i64 9] 3)
        have hcm5 := hcm1.alloc (.cells #[.int .i64 0, .int .i64 3, .int .i64 9] 3)
        have hom5 := hom1.alloc (.cells #[.int .i64 0, .int .i64 3, .int .i64 9] 3)
        have onm5 : Only B (UB.alloc (.cells #[.int .i64 200, .int .i64 200, .int .i64 200, .int .i64 201] 3)) (((UB.alloc (.cells #[.int .i64 200, .int .i64 200, .int .i64 200, .int .i64 201] 3)).alloc (.cells #[.int .i64 0, .int .i64 3, .int .i64 9] 3))) := (Only.refl _ _).alloc _
        have ogm5 := ogm1.only onm5 (.inl hBw1)
        have hHm5 := Nat.le_trans hHm1 onm5.size
        have I59_m5 := I59_m1.keep onm5
        have I66_m5 := ints_lit (UB.alloc (.cells #[.int .i64 200, .int .i64 200, .int .i64 200, .int .i64 201] 3)) B hcm1.lt 3 [.int .i64 0, .int .i64 3, .int .i64 9] 3 rfl
        try rw [World.size_alloc] at I66_m5
        go_simp
        refine hK.out _ _ (lFm5.cells5) (fun hHeld2 => ?_)
        clear hK K
        (try simp only [Act.put, List.setIfInBounds_toArray, List.set_cons_zero, List.set_cons_succ])
        refine wpAnyH_ready (rs := [2]) (by kernel_rfl) (by simp) ?_
        refine AllReadyH.cons (o := ⟨some 60, _, _, _, _, _⟩) rfl (fun K hK => ?_) (AllReadyH.nil)
        go_simp
        (with_reducible refine (int_any _ B a len cap z _ 4 4 (by decide) (by decide) I59_m5 hcm5).mono ?_)
        rintro em6 wm6 ⟨k, k0, k1, rfl, ocm6, hcm6⟩
        have lFm6 := lFm5.call ocm6
        have lRm6 := lRm5.call ocm6
        have hom6 := hom5.trans ocm6
        have onm6 := ocm6
        have ogm6 := ogm5.only onm6 (.inl hBw1)
        have hHm6 := Nat.le_trans hHm5 onm6.size
        have I66_m6 := I66_m5.keep onm6
        have I59_m6 := I59_m5.keep onm6
        refine hK.out _ _ (lFm6.cells5) (fun hHeld2 => ?_)
        clear hK K
        (try simp only [Act.put, List.setIfInBounds_toArray, List.set_cons_zero, List.set_cons_succ])
        refine wpAnyH_ready (rs := [9]) (by kernel_rfl) (by simp) ?_
        refine AllReadyH.cons (o := ⟨some 67, _, _, _, _, _⟩) rfl (fun K hK => ?_) (AllReadyH.nil)
        go_simp
        (with_reducible refine (int_any _ B a len cap z _ 3 3 (by decide) (by decide) I66_m6 hcm6).mono ?_)
        rintro em7 wm7 ⟨ag, ag0, ag1, rfl, ocm7, hcm7⟩
        have lFm7 := lFm6.call ocm7
        have lRm7 := lRm6.call ocm7
        have hom7 := hom6.trans ocm7
        have onm7 := ocm7
        have ogm7 := ogm6.only onm7 (.inl hBw1)
        have hHm7 := Nat.le_trans hHm6 onm7.size
        have I66_m7 := I66_m6.keep onm7
        have I59_m7 := I59_m6.keep onm7
        refine hK.out _ _ (lFm7.cells5) (fun hHeld2 => ?_)
        clear hK K
        (try simp only [Act.put, List.setIfInBounds_toArray, List.set_cons_zero, List.set_cons_succ])
        refine wpAnyH_take (i := 10) (oi := ⟨some 2, _, _, _, _, _⟩) (v := ?_) rfl (by kernel_rfl) (by kernel_rfl) (by kernel_rfl) (fun _ _ _ h => h) (Or.inl ⟨by rfl, ?_⟩) (by assumption) ?_
        rotate_left
        · intro w hSw; (try dsimp only at hSw); go_simp <;> (with_reducible rfl)
        (try simp only [Act.put, List.setIfInBounds_toArray, List.set_cons_zero, List.set_cons_succ])
        refine wpAnyH_ready (rs := [11]) (by kernel_rfl) (by simp) ?_
        refine AllReadyH.cons (o := ⟨none, _, _, _, _, _⟩) rfl (fun K hK => ?_) AllReadyH.nil
        obtain ⟨⟨z0, z1, z2, z3, z4⟩, j0, j1, j2, j3, j4⟩ := cls_5 lRm7.blk
        obtain ⟨hE, tE⟩ := stt_5 lRm7.blk (.int .i64 p0) (.int .i64 p1) (.int .i64 p2) (.int .i64 p3) (.int .i64 p4)
        have HE := Lib.hid (cls_5 hE).1
        have HT := Lib.hid tE
        have lFs := (((((lFm7.setFar lRm7.new hFR 0 (.int .i64 p0)).setFar lRm7.new hFR 1 (.int .i64 p1)).setFar lRm7.new hFR 2 (.int .i64 p2)).setFar lRm7.new hFR 3 (.int .i64 p3)).setFar lRm7.new hFR 4 (.int .i64 p4))
        go_simp
        refine hK.out _ _ (lFs.cells5) (fun hHeld2 => ?_)
        clear hK K
        (try simp only [Act.put, List.setIfInBounds_toArray, List.set_cons_zero, List.set_cons_succ])
        refine wpAnyH_take (i := 12) (oi := ⟨some 4, _, _, _, _, _⟩) (v := ?_) rfl (by kernel_rfl) (by kernel_rfl) (by kernel_rfl) (fun _ _ _ h => h) (Or.inl ⟨by rfl, ?_⟩) (by assumption) ?_
        rotate_left
        · intro w hSw; (try dsimp only at hSw); go_simp <;> (with_reducible rfl)
        (try simp only [Act.put, List.setIfInBounds_toArray, List.set_cons_zero, List.set_cons_succ])
        refine wpAnyH_take (i := 13) (oi := ⟨some 5, _, _, _, _, _⟩) (v := ?_) rfl (by kernel_rfl) (by kernel_rfl) (by kernel_rfl) (fun _ _ _ h => h) (Or.inl ⟨by rfl, ?_⟩) (by assumption) ?_
        rotate_left
        · intro w hSw; (try dsimp only at hSw); go_simp <;> (with_reducible rfl)
        (try simp only [Act.put, List.setIfInBounds_toArray, List.set_cons_zero, List.set_cons_succ])
        refine wpAnyH_take (i := 14) (oi := ⟨some 6, _, _, _, _, _⟩) (v := ?_) rfl (by kernel_rfl) (by kernel_rfl) (by kernel_rfl) (fun _ _ _ h => h) (Or.inl ⟨by rfl, ?_⟩) (by assumption) ?_
        rotate_left
        · intro w hSw; (try dsimp only at hSw); go_simp <;> (with_reducible rfl)
        (try simp only [Act.put, List.setIfInBounds_toArray, List.set_cons_zero, List.set_cons_succ])
        refine wpAnyH_take (i := 15) (oi := ⟨some 7, _, _, _, _, _⟩) (v := ?_) rfl (by kernel_rfl) (by kernel_rfl) (by kernel_rfl) (fun _ _ _ h => h) (Or.inl ⟨by rfl, ?_⟩) (by assumption) ?_
        rotate_left
        · intro w hSw; (try dsimp only at hSw); go_simp <;> (with_reducible rfl)
        (try simp only [Act.put, List.setIfInBounds_toArray, List.set_cons_zero, List.set_cons_succ])
        refine wpAnyH_done (by kernel_rfl) ?_ _
        have tE := HT.out
        have hRl := lRm7.lt
        have hlf : Own 3 .i64 _ w.heap.size _ _ l9 := ((ogm7.keep (fun j h1 h2 h3 => tE.block j h3 (by rw [List.mem_singleton]; omega))).wide (lo' := w.heap.size) (Nat.le_of_lt hRw1) (Nat.le_trans hHm7 tE.size))
        have hbf := (lRm7.only.trans' tE (Nat.le_refl _)).below (Nat.le_refl _) hBw
        obtain ⟨e0, e1, e2, e3, e4⟩ := HE.out
        clear z0 z1 z2 z3 z4 j0 j1 j2 j3 j4 lFs tE HT hE
        generalize World.setCell _ _ _ = V9 at e0 e1 e2 e3 e4 hlf hbf ⊢
        go_wp2
        refine bodyPost_ret (v := .tuple #[.int .i64 k, .agg #[.int .i64 p0, .int .i64 p1, .int .i64 p2, .int .i64 p3, .int .i64 p4], .slice aX l9.length kX, .int .i64 n', .int .i64 now, .int .i64 ag]) (by simp [results, Tryd.results23, go_sem, e0, e1, e2, e3, e4]) rfl ?_
        exact ⟨k, ⟨p0, p1, p2, p3, p4⟩, _, l9, n', now, ag, wf_i64 k0 k1, HQW.out, HNN.out, HNW.out, wf_i64 ag0 ag1, rfl, hlf, HLL.out, hbf⟩
    · skip
      have lFm8 := lFDB.alloc (.cells #[.int .i64 0, .int .i64 3, .int .i64 9] 3)
      have lRm8 := lRDB.alloc (.cells #[.int .i64 0, .int .i64 3, .int .i64 9] 3)
      have hcm8 := hcDB.alloc (.cells #[.int .i64 0, .int .i64 3, .int .i64 9] 3)
      have hom8 := hoDB.alloc (.cells #[.int .i64 0, .int .i64 3, .int .i64 9] 3)
      have onm8 : Only B UB ((UB.alloc (.cells #[.int .i64 0, .int .i64 3, .int .i64 9] 3))) := (Only.refl _ _).alloc _
      have ogm8 := ogDB.only onm8 (.inl hBw1)
      have hHm8 := Nat.le_trans hHDB onm8.size
      have I66_m8 := ints_lit UB B hcDB.lt 3 [.int .i64 0, .int .i64 3, .int .i64 9] 3 rfl
      try rw [World.size_alloc] at I66_m8
      go_simp
      refine hK.out _ _ (lFm8.cells5) (fun hHeld2 => ?_)
      clear hK K
      (try simp only [Act.put, List.setIfInBounds_toArray, List.set_cons_zero, List.set_cons_succ])
      refine wpAnyH_ready (rs := [1]) (by kernel_rfl) (by simp) ?_
      refine AllReadyH.cons (o := ⟨some 59, _, _, _, _, _⟩) rfl (fun K hK => ?_) (AllReadyH.nil)
      have lFm9 := lFm8.alloc (.cells #[.int .i64 200, .int .i64 200, .int .i64 200, .int .i64 201] 3)
      have lRm9 := lRm8.alloc (.cells #[.int .i64 200, .int .i64 200, .int .i64 200, .int .i64 201] 3)
      have hcm9 := hcm8.alloc (.cells #[.int .i64 200, .int .i64 200, .int .i64 200, .int .i64 201] 3)
      have hom9 := hom8.alloc (.cells #[.int .i64 200, .int .i64 200, .int .i64 200, .int .i64 201] 3)
      have onm9 : Only B (UB.alloc (.cells #[.int .i64 0, .int .i64 3, .int .i64 9] 3)) (((UB.alloc (.cells #[.int .i64 0, .int .i64 3, .int .i64 9] 3)).alloc (.cells #[.int .i64 200, .int .i64 200, .int .i64 200, .int .i64 201] 3))) := (Only.refl _ _).alloc _
      have ogm9 := ogm8.only onm9 (.inl hBw1)
      have hHm9 := Nat.le_trans hHm8 onm9.size
      have I66_m9 := I66_m8.keep onm9
      have I59_m9 := ints_lit (UB.alloc (.cells #[.int .i64 0, .int .i64 3, .int .i64 9] 3)) B hcm8.lt 3 [.int .i64 200, .int .i64 200, .int .i64 200, .int .i64 201] 4 rfl
      try rw [World.size_alloc] at I59_m9
      go_simp
      refine hK.out _ _ (lFm9.cells5) (fun hHeld2 => ?_)
      clear hK K
      (try simp only [Act.put, List.setIfInBounds_toArray, List.set_cons_zero, List.set_cons_succ])
      refine wpAnyH_ready (rs := [2]) (by kernel_rfl) (by simp) ?_
      refine AllReadyH.cons (o := ⟨some 60, _, _, _, _, _⟩) rfl (fun K hK => ?_) (AllReadyH.nil)
      go_simp
      (with_reducible refine (int_any _ B a len cap z _ 4 4 (by decide) (by decide) I59_m9 hcm9).mono ?_)
      rintro em10 wm10 ⟨k, k0, k1, rfl, ocm10, hcm10⟩
      have lFm10 := lFm9.call ocm10
      have lRm10 := lRm9.call ocm10
      have hom10 := hom9.trans ocm10
      have onm10 := ocm10
      have ogm10 := ogm9.only onm10 (.inl hBw1)
      have hHm10 := Nat.le_trans hHm9 onm10.size
      have I66_m10 := I66_m9.keep onm10
      have I59_m10 := I59_m9.keep onm10
      refine hK.out _ _ (lFm10.cells5) (fun hHeld2 => ?_)
      clear hK K
      (try simp only [Act.put, List.setIfInBounds_toArray, List.set_cons_zero, List.set_cons_succ])
      refine wpAnyH_ready (rs := [9]) (by kernel_rfl) (by simp) ?_
      refine AllReadyH.cons (o := ⟨some 67, _, _, _, _, _⟩) rfl (fun K hK => ?_) (AllReadyH.nil)
      go_simp
      (with_reducible refine (int_any _ B a len cap z _ 3 3 (by decide) (by decide) I66_m10 hcm10).mono ?_)
      rintro em11 wm11 ⟨ag, ag0, ag1, rfl, ocm11, hcm11⟩
      have lFm11 := lFm10.call ocm11
      have lRm11 := lRm10.call ocm11
      have hom11 := hom10.trans ocm11
      have onm11 := ocm11
      have ogm11 := ogm10.only onm11 (.inl hBw1)
      have hHm11 := Nat.le_trans hHm10 onm11.size
      have I66_m11 := I66_m10.keep onm11
      have I59_m11 := I59_m10.keep onm11
      refine hK.out _ _ (lFm11.cells5) (fun hHeld2 => ?_)
      clear hK K
      (try simp only [Act.put, List.setIfInBounds_toArray, List.set_cons_zero, List.set_cons_succ])
      refine wpAnyH_take (i := 10) (oi := ⟨some 2, _, _, _, _, _⟩) (v := ?_) rfl (by kernel_rfl) (by kernel_rfl) (by kernel_rfl) (fun _ _ _ h => h) (Or.inl ⟨by rfl, ?_⟩) (by assumption) ?_
      rotate_left
      · intro w hSw; (try dsimp only at hSw); go_simp <;> (with_reducible rfl)
      (try simp only [Act.put, List.setIfInBounds_toArray, List.set_cons_zero, List.set_cons_succ])
      refine wpAnyH_ready (rs := [11]) (by kernel_rfl) (by simp) ?_
      refine AllReadyH.cons (o := ⟨none, _, _, _, _, _⟩) rfl (fun K hK => ?_) AllReadyH.nil
      obtain ⟨⟨z0, z1, z2, z3, z4⟩, j0, j1, j2, j3, j4⟩ := cls_5 lRm11.blk
      obtain ⟨hE, tE⟩ := stt_5 lRm11.blk (.int .i64 p0) (.int .i64 p1) (.int .i64 p2) (.int .i64 p3) (.int .i64 p4)
      have HE := Lib.hid (cls_5 hE).1
      have HT := Lib.hid tE
      have lFs := (((((lFm11.setFar lRm11.new hFR 0 (.int .i64 p0)).setFar lRm11.new hFR 1 (.int .i64 p1)).setFar lRm11.new hFR 2 (.int .i64 p2)).setFar lRm11.new hFR 3 (.int .i64 p3)).setFar lRm11.new hFR 4 (.int .i64 p4))
      go_simp
      refine hK.out _ _ (lFs.cells5) (fun hHeld2 => ?_)
      clear hK K
      (try simp only [Act.put, List.setIfInBounds_toArray, List.set_cons_zero, List.set_cons_succ])
      refine wpAnyH_take (i := 12) (oi := ⟨some 4, _, _, _, _, _⟩) (v := ?_) rfl (by kernel_rfl) (by kernel_rfl) (by kernel_rfl) (fun _ _ _ h => h) (Or.inl ⟨by rfl, ?_⟩) (by assumption) ?_
      rotate_left
      · intro w hSw; (try dsimp only at hSw); go_simp <;> (with_reducible rfl)
      (try simp only [Act.put, List.setIfInBounds_toArray, List.set_cons_zero, List.set_cons_succ])
      refine wpAnyH_take (i := 13) (oi := ⟨some 5, _, _, _, _, _⟩) (v := ?_) rfl (by kernel_rfl) (by kernel_rfl) (by kernel_rfl) (fun _ _ _ h => h) (Or.inl ⟨by rfl, ?_⟩) (by assumption) ?_
      rotate_left
      · intro w hSw; (try dsimp only at hSw); go_simp <;> (with_reducible rfl)
      (try simp only [Act.put, List.setIfInBounds_toArray, List.set_cons_zero, List.set_cons_succ])
      refine wpAnyH_take (i := 14) (oi := ⟨some 6, _, _, _, _, _⟩) (v := ?_) rfl (by kernel_rfl) (by kernel_rfl) (by kernel_rfl) (fun _ _ _ h => h) (Or.inl ⟨by rfl, ?_⟩) (by assumption) ?_
      rotate_left
      · intro w hSw; (try dsimp only at hSw); go_simp <;> (with_reducible rfl)
      (try simp only [Act.put, List.setIfInBounds_toArray, List.set_cons_zero, List.set_cons_succ])
      refine wpAnyH_take (i := 15) (oi := ⟨some 7, _, _, _, _, _⟩) (v := ?_) rfl (by kernel_rfl) (by kernel_rfl) (by kernel_rfl) (fun _ _ _ h => h) (Or.inl ⟨by rfl, ?_⟩) (by assumption) ?_
      rotate_left
      · intro w hSw; (try dsimp only at hSw); go_simp <;> (with_reducible rfl)
      (try simp only [Act.put, List.setIfInBounds_toArray, List.set_cons_zero, List.set_cons_succ])
      refine wpAnyH_done (by kernel_rfl) ?_ _
      have tE := HT.out
      have hRl := lRm11.lt
      have hlf : Own 3 .i64 _ w.heap.size _ _ l9 := ((ogm11.keep (fun j h1 h2 h3 => tE.block j h3 (by rw [List.mem_singleton]; omega))).wide (lo' := w.heap.size) (Nat.le_of_lt hRw1) (Nat.le_trans hHm11 tE.size))
      have hbf := (lRm11.only.trans' tE (Nat.le_refl _)).below (Nat.le_refl _) hBw
      obtain ⟨e0, e1, e2, e3, e4⟩ := HE.out
      clear z0 z1 z2 z3 z4 j0 j1 j2 j3 j4 lFs tE HT hE
      generalize World.setCell _ _ _ = V9 at e0 e1 e2 e3 e4 hlf hbf ⊢
      go_wp2
      refine bodyPost_ret (v := .tuple #[.int .i64 k, .agg #[.int .i64 p0, .int .i64 p1, .int .i64 p2, .int .i64 p3, .int .i64 p4], .slice aX l9.length kX, .int .i64 n', .int .i64 now, .int .i64 ag]) (by simp [results, Tryd.results23, go_sem, e0, e1, e2, e3, e4]) rfl ?_
      exact ⟨k, ⟨p0, p1, p2, p3, p4⟩, _, l9, n', now, ag, wf_i64 k0 k1, HQW.out, HNN.out, HNW.out, wf_i64 ag0 ag1, rfl, hlf, HLL.out, hbf⟩
end Go.Proofs.YtjfmmingkciapaaDoor
