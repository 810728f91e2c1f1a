/- Conditions (chapter 15): copied, combined, CondNot, CondAnd, CondOr as landed. No condition but the bounds of what came in. -/
import Derived.Test.YtoeiampanchabaaCopy2
namespace Go.Proofs.Ytoeiampanchabaa
open Go.ChangeShapes Go.WideShapes Go.ChangeAt Go.RowKit Go.Shelf
set_option linter.unusedVariables false
attribute [local go_sem] Oper.semAt_some

set_option maxRecDepth 100000 in
set_option maxHeartbeats 4000000 in
theorem impl_copied (w : World) (hi : Nat) (x0 : CondD) (v0 : List Value) (h0 : rdL w hi (CondD.c x0) v0) (hh : hi ≤ w.heap.size) (hs : szE (CondD.c x0) ≤ 300000000) :
    Calls Try.prog 57 #[.agg v0.toArray] w fun e w' => ∃ u fp, e = .returned (.agg u.toArray) ∧ owE w' (CondD.c x0) u fp ∧ fp.Nodup ∧ (∀ k ∈ fp, w.heap.size ≤ k ∧ k < w'.heap.size) ∧ Below w.heap.size w w' := by
  have hN : (preC x0).length ≤ 300000001 := by have := preC_len x0; unfold sizeD at this; omega
  obtain ⟨W1, hW1⟩ : ∃ W1, W1 = ((w.alloc (.cells v0.toArray 26)).alloc (.cells #[.int .i64 0, .int .i64 0, .int .i64 0, .slice none 0 0] 26)).alloc (.cells #[.pointer (some ⟨w.heap.size, 0, none⟩)] 50) := ⟨_, rfl⟩
  have hB1 : Below w.heap.size w W1 := by rw [hW1]; go_grown
  have hz1 : W1.heap.size = w.heap.size + 3 := by rw [hW1]; simp
  have hb0 : W1.heap[w.heap.size]? = some (.cells v0.toArray 26) := by rw [hW1]; exact blk_keep (C := w.heap.size + 1) (blk_new _ _ _) (by go_grown) (by omega)
  have hb1 : W1.heap[w.heap.size + 1]? = some (.cells #[.int .i64 0, .int .i64 0, .int .i64 0, .slice none 0 0] 26) := by rw [hW1]; exact blk_keep (C := w.heap.size + 1 + 1) (blk_new_at (w := w.alloc _) _ _ (by simp)) (by go_grown) (by omega)
  have hb2 : W1.heap[w.heap.size + 2]? = some (.cells #[.pointer (some ⟨w.heap.size, 0, none⟩)] 50) := by rw [hW1]; exact blk_new_at _ _ (by simp)
  have HT : InC x0 hi w.heap.size W1.heap.size w [⟨w.heap.size, 0, x0⟩] [] W1 := by
    refine ⟨by simp [todo], hB1, hb1, ⟨[w.heap.size], Wand.start _ _ _, by simp, by simp, fun k hk => ?_⟩, fun y hy => ?_, by simp, List.pairwise_singleton _ _⟩
    · obtain rfl : k = w.heap.size := by simpa using hk
      exact ⟨.inl rfl, by simp, by omega, _, _, hb0⟩
    · obtain rfl : y = ⟨w.heap.size, 0, x0⟩ := by simpa using hy
      obtain ⟨o, a, b, es⟩ := x0
      have hr := h0.below hB1 hh
      obtain ⟨A, c, rfl, f1, f2, h3⟩ := cond_in hr
      exact ⟨A, c, hr, blk_cell hb0 0 rfl, blk_cell hb0 1 rfl, blk_cell hb0 2 rfl, blk_cell hb0 3 rfl⟩
  have HT2 := Lib.hid HT
  clear HT
  refine (callsIn_wide (n := 9)).1 ?_
  refine callsIn_of_wp_marks Try.func57 rfl trivial ?_ rfl
  obtain ⟨o, a, b, es⟩ := x0
  obtain ⟨A, c, rfl, f1, f2, h3⟩ := cond_in h0
  clear h3 f1 f2 h0 hs
  simp only [Try.ntmps57, List.size_toArray, List.length_cons, List.length_nil, Nat.reduceAdd, Nat.reduceSub, Array.replicate_succ, Array.replicate_zero, List.push_toArray, List.append_toArray, List.nil_append, List.cons_append]
  gi_wp2_with (refine ⟨trivial, ?_⟩; gi_at_call 39; refine (nodes_make Fence.wide _ trivial rfl _ _).mono ?_; rintro e w' ⟨rfl, rfl⟩)
  rw [← hW1]
  clear hW1
  have hlo : w.heap.size + 1 ≤ W1.heap.size := by omega
  refine wpIn_rangeM rfl (by omega) (gf := 55) (lb := #[.pointer (some ⟨w.heap.size + 1 + 1, 0, none⟩)]) rfl trivial (enters_of Try.func55 (by kernel_rfl) rfl)
    (nodes_seq (9 - 1) (by omega) 300000001 (w.heap.size + 1 + 1) ⟨w.heap.size, 0, ⟨o, a, b, es⟩⟩ W1 (by omega) (by omega) (blk_cell hb2 0 rfl) (by omega)) (Below.refl _ _) (fun s => by cases s <;> rfl)
    (fun T M V => InC ⟨o, a, b, es⟩ hi w.heap.size W1.heap.size w T M V ∧ W1.heap.size ≤ V.heap.size) (fun _ _ _ => False)
    (fun s M M' X Y hi2 _ hM ht hm => ⟨hi2.1.abides hz1.symm hh hi2.2 hM ht hm, Nat.le_trans hi2.2 ht.size⟩)
    (fun _ _ _ _ _ h _ _ _ _ => h.elim) (fun s s' M X l' r o hs hl => stepN_put hs hl)
    ⟨HT2.out, Nat.le_refl _⟩
    (fun T => { tmps := #[.agg #[.int .i64 o, .int .i64 a, .int .i64 b, .slice A es.length c], .pointer (some ⟨w.heap.size, 0, none⟩), .pointer (some ⟨w.heap.size + 1, 0, none⟩), headN T, .func (.func 55) #[] #[.pointer (some ⟨w.heap.size + 1 + 1, 0, none⟩)], headN T, undef, undef, undef, undef, undef, undef, undef, undef, undef], defers := [] }) ?assign ?body ?done ?stop
  case assign =>
    intro l' T V K' hK'
    rw [encN_eq]
    gi_wp2
    exact hK'
  case body =>
    rintro l' T M V hz hM ⟨HC, hsz⟩ hT
    obtain ⟨x, rest, rfl⟩ := List.exists_cons_of_ne_nil hT
    obtain ⟨xA, xc, hr0, e0, e1, e2, e3⟩ := (HC.pd x List.mem_cons_self).rd
    obtain ⟨us, hR, hus⟩ : ∃ us, RowC 4 V hi (.slice xA x.d.Args.length xc) x.d.Args.length us ∧ rdL V hi (x.d.Args.flatMap CondD.c) us := by
      obtain ⟨xb, xo, ⟨o2, a2, b2, es2⟩⟩ := x
      obtain ⟨A', c', e, f1, f2, hr⟩ := cond_in hr0
      simp only [List.cons.injEq, Value.slice.injEq, and_true, true_and] at e
      obtain ⟨rfl, rfl⟩ := e
      exact row_raw hr
    have hxn : x.d.Args.length ≤ 1000000000 := by
      have h1 := HC.len
      have h2 := todo_step x rest 0 0
      rw [h2, List.length_cons, todo_app, todo_kids, List.length_append] at h1
      have h3 := todo_len (kidsAt 0 0 x.d.Args)
      rw [todo_kids, kidsAt_len] at h3
      omega
    have HG := Lib.hid (fun (Vc : World) (u : Value) (hc : Below V.heap.size V Vc) (hrow : Vc.ownsRow V.heap.size 26 4 u x.d.Args.length us) => HC.step hz1.symm hh hz hM hN hc hrow hus)
    have CC := Lib.hid (impl_copyConds V hi xc x.d.Args.length xA us hR (rdL.one hus) (by have := HC.bel.size; omega) hxn)
    obtain ⟨Dl, -, -, hDb, hDa⟩ := HC.wd
    obtain ⟨-, -, hxV, cs, E, hxc⟩ := hDa _ (hDb x List.mem_cons_self)
    obtain ⟨xb, xo, xd⟩ := x
    have HXC := Lib.hid hxc
    have e3' : V.cell? ⟨xb, xo + 3, none⟩ = some (.slice xA xd.Args.length xc) := e3
    have E3 := Lib.hid e3'
    clear e0 e1 e2 e3 hr0 hR hus HC hDb hDa hxc
    simp only [headN, Nd.ptr]
    gi_wp2_with (refine ⟨trivial, ?_⟩; gi_at_call 66; refine (CallsIn.inRound l' (callsIn_wide.2 CC.out)).mono ?_; rintro e V3 ⟨u, rfl, hrow, hb3⟩; have hxc3 := (hb3.block xb hxV).trans HXC.out; have hcx3 : V3.cell? ⟨xb, xo + 3, none⟩ = some (.slice xA xd.Args.length xc) := (World.cell?_of_block (hb3.block xb hxV)).trans E3.out; have hfx3 : V3.frozen? ⟨xb, xo + 3, none⟩ = false := blk_frozen hxc3 _; have HROW := Lib.hid hrow; obtain ⟨au, cu, rfl⟩ := owns_form hrow; clear hrow)
    obtain ⟨hs, T', hst, hI⟩ := HG.out V3 _ hb3 HROW.out
    exact ⟨hs, T', hst, hI, Nat.le_trans hsz hs.size⟩
  case done =>
    rintro T M V hT ⟨HC, hsz⟩ hK
    obtain rfl : T = [] := Classical.byContradiction hT
    obtain ⟨Dl, hw, hlD, -, hDa⟩ := HC.wd
    obtain ⟨fp0, ⟨v, c0, c1, c2, c3, ho0⟩, -, -⟩ := hw V [] (fun k hk cs E hc => ⟨cs, hc, rfl, fun _ _ => rfl⟩) trivial (by simp) (by simp) (Nat.le_refl _)
    obtain ⟨k3, f3, ek, -, z0, z1, z2, ho3⟩ := CondD.ow ho0
    simp only [List.cons.injEq, and_true, true_and] at ek
    subst ek
    obtain ⟨av, cv, rfl, -, -⟩ := ho3.form
    have hb6 := HC.res
    have HB6 := Lib.hid hb6
    have HT4 := Lib.hid (stt_4 hb6 (.int .i64 o) (.int .i64 a) (.int .i64 b) (.slice av es.length cv))
    obtain ⟨⟨r0, r1, r2, r3⟩, s0, s1, s2, s3⟩ := cls_4 hb6
    have HW := Lib.hid hw
    have HDA := Lib.hid hDa
    have HBEL := Lib.hid HC.bel
    have d0 : V.cell? ⟨w.heap.size, 0, none⟩ = some (.int .i64 o) := c0
    have d1 : V.cell? ⟨w.heap.size, 1, none⟩ = some (.int .i64 a) := c1
    have d2 : V.cell? ⟨w.heap.size, 2, none⟩ = some (.int .i64 b) := c2
    have d3 : V.cell? ⟨w.heap.size, 3, none⟩ = some (.slice av es.length cv) := c3
    clear c0 c1 c2 c3 ho0 HC hw hDa hb6 ho3
    gi_wp2
    have HT5 := HT4.out
    generalize ((((V.setCell ⟨w.heap.size + 1, 0, none⟩ (.int .i64 o)).setCell ⟨w.heap.size + 1, 1, none⟩ (.int .i64 a)).setCell ⟨w.heap.size + 1, 2, none⟩ (.int .i64 b)).setCell ⟨w.heap.size + 1, 3, none⟩ (.slice av es.length cv)) = WF at HT5 ⊢
    obtain ⟨hF, tF⟩ := HT5
    have hKF : WF.heap[W1.heap.size]? = some (.deferred (some [])) := (tF.block _ (Array.getElem?_eq_some_iff.1 hK).1 (by simp; omega)).trans hK
    show LeavesInM _ _ _ _ _ _ (marks [W1.heap.size]) _ _
    refine leaves_marks (by simp) _ WF (by simp) (fun D hD => ?_) (fun w4 ht hs4 => ?_)
    · obtain rfl : D = W1.heap.size := by simpa using hD
      exact hKF
    · have hq4 := (ht.block (w.heap.size + 1) (blk_lt hF) (by simp; omega)).trans hF
      obtain ⟨⟨q0, q1, q2, q3⟩, -⟩ := cls_4 hq4
      have hkk : ∀ k ∈ Dl, w4.heap[k]? = V.heap[k]? := fun k hk => by
        obtain ⟨a1, -, a3, -⟩ := HDA.out k hk
        exact (ht.block k (Nat.lt_of_lt_of_le a3 tF.size) (by simp; omega)).trans (tF.block k a3 (by simp; omega))
      have hzz : V.heap.size ≤ w4.heap.size := Nat.le_trans tF.size ht.size
      obtain ⟨fp, ⟨v', -, -, -, g3, ho⟩, hnd, hsub⟩ := HW.out w4 [] (fun k hk cs E hc => ⟨cs, (hkk k hk).trans hc, rfl, fun _ _ => rfl⟩) trivial (by simp) (by simp) hzz
      have hv : v' = .slice av es.length cv := by
        have h9 : w4.cell? ⟨w.heap.size, 3, none⟩ = some (.slice av es.length cv) := (World.cell?_of_block (hkk _ hlD)).trans d3
        have h8 : w4.cell? ⟨w.heap.size, 3, none⟩ = some v' := g3
        rw [h9] at h8
        injection h8 with h8
        exact h8.symm
      subst hv
      refine ⟨.agg #[.int .i64 o, .int .i64 a, .int .i64 b, .slice av es.length cv], by simp [results, Try.results57, go_sem, q0, q1, q2, q3], [.int .i64 o, .int .i64 a, .int .i64 b, .slice av es.length cv], fp, rfl, ho, hnd, fun k hk => ⟨?_, owE.lt ho k hk⟩, ?_⟩
      · rcases hsub k hk with h | h
        · have := (HDA.out k h).1
          omega
        · simp at h
      · exact (HBEL.out.trans (tF.below (fun k hk => by have := List.mem_singleton.1 hk; omega) HBEL.out.size)).trans (ht.below (fun k hk => by have := List.mem_singleton.1 hk; omega) (HBEL.out.trans (tF.below (fun k hk => by have := List.mem_singleton.1 hk; omega) HBEL.out.size)).size)
  case stop =>
    rintro c' M1 V h _
    exact h.elim
end Go.Proofs.Ytoeiampanchabaa
