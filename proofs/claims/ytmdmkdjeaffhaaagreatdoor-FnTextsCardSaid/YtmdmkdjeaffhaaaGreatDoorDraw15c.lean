/- The draws of chapter 15 (conditions): any condition. No condition but what came in. Written by tools/any15.py. -/
import Derived.Test.YtmdmkdjeaffhaaaGreatDoorDraw15b
namespace Go.Proofs.YtmdmkdjeaffhaaaGreatDoor
open Go.ChangeShapes Go.WideShapes Go.ChangeAt Go.RowKit
set_option linter.unusedVariables false

/-- A drawn condition all of whose blocks lie below H. -/
def CondBd (L H : Nat) (w : World) (x : CondD) (A : Option Addr) (c : Nat) : Prop := ∃ us f, ((Lit.int .i64 x.Op).wf = true ∧ (Lit.int .i64 x.A).wf = true ∧ (Lit.int .i64 x.B).wf = true) ∧ Grow 27 4 w L (.slice A x.Args.length c) x.Args.length (x.Args.flatMap CondD.c) us f ∧ (∀ g, (Value.slice A x.Args.length c).ownBlock = some g → g < H) ∧ ∀ k ∈ f, k < H
theorem CondOwn.bd {L : Nat} {w : World} {x : CondD} {A : Option Addr} {c : Nat} (h : CondOwn L w (.agg #[.int .i64 x.Op, .int .i64 x.A, .int .i64 x.B, .slice A x.Args.length c]) x) : CondBd L w.heap.size w x A c := by
  obtain ⟨v, us, f, h1, h2, h3⟩ := h
  obtain rfl := agg_last h1.symm
  exact ⟨us, f, h2, h3, fun g hg => (h3.lt.1 g hg).2, fun k hk => (h3.lt.2 k hk).2⟩
theorem CondBd.keep {L H : Nat} {w w' : World} {x : CondD} {A : Option Addr} {c : Nat} (h : CondBd L H w x A c) (hb : ∀ k, L ≤ k → k < H → k < w.heap.size → w'.heap[k]? = w.heap[k]?) : CondBd L H w' x A c := by
  obtain ⟨us, f, h2, h3, h4, h5⟩ := h
  refine ⟨us, f, h2, ⟨⟨h3.row.1, ?_⟩, h3.own.keep fun k hk => hb k (h3.ge k hk) (h5 k hk) (owE.lt h3.own k hk), h3.nd, h3.ne, h3.ge⟩, h4, h5⟩
  have hl := h3.lt.1
  rcases h3.row.2 with hn | ⟨g, cap, cur, hv, g1, g2, rest⟩
  · exact .inl hn
  · have hg := hl g (by rw [hv]; rfl)
    exact .inr ⟨g, cap, cur, hv, g1, (hb g g1 (h4 g (by rw [hv]; rfl)) hg.2).trans g2, rest⟩
theorem CondBd.only {L H B : Nat} {w w' : World} {x : CondD} {A : Option Addr} {c : Nat} (h : CondBd L H w x A c) (ho : Only B w w') (hB : B < L) : CondBd L H w' x A c := h.keep fun k h1 _ h2 => ho.block k h2 (by omega)
theorem CondBd.far {L H F : Nat} {w : World} {x : CondD} {A : Option Addr} {c : Nat} (h : CondBd L H w x A c) (hF : H ≤ F ∨ F < L) (i : Nat) (r : Value) : CondBd L H (w.setCell ⟨F, i, none⟩ r) x A c := h.keep fun k h1 h2 _ => Below.heap_setCell w ⟨F, i, none⟩ r k (by show k ≠ F; omega)
theorem CondBd.own {L H : Nat} {w : World} {x : CondD} {A : Option Addr} {c : Nat} (h : CondBd L H w x A c) : CondOwn L w (.agg #[.int .i64 x.Op, .int .i64 x.A, .int .i64 x.B, .slice A x.Args.length c]) x := by
  obtain ⟨us, f, h2, h3, _⟩ := h
  exact ⟨_, us, f, rfl, h2, h3⟩
theorem CondBd.int {L H : Nat} {w : World} {o a b o' a' b' : Int} {es : List CondD} {A : Option Addr} {c : Nat} (h : CondBd L H w ⟨o, a, b, es⟩ A c) (h1 : (Lit.int .i64 o').wf = true) (h2 : (Lit.int .i64 a').wf = true) (h3 : (Lit.int .i64 b').wf = true) : CondBd L H w ⟨o', a', b', es⟩ A c := by
  obtain ⟨us, f, _, h4⟩ := h
  exact ⟨us, f, ⟨h1, h2, h3⟩, h4⟩
theorem CondBd.wf {L H : Nat} {w : World} {x : CondD} {A : Option Addr} {c : Nat} (h : CondBd L H w x A c) : (Lit.int .i64 x.Op).wf = true ∧ (Lit.int .i64 x.A).wf = true ∧ (Lit.int .i64 x.B).wf = true := by
  obtain ⟨us, f, h2, _⟩ := h
  exact h2
theorem size_args {o a b o' a' b' : Int} {es : List CondD} : sizeD ⟨o, a, b, es⟩ = sizeD ⟨o', a', b', es⟩ := by rw [sizeD_mk, sizeD_mk]
theorem size_fields (x : CondD) (o a b : Int) : sizeD ⟨o, a, b, x.Args⟩ = sizeD x := by
  obtain ⟨o', a', b', es⟩ := x
  exact size_args
theorem size_add {o a b : Int} {es : List CondD} {y : CondD} (hy : y.Args = []) : sizeD ⟨o, a, b, es ++ [y]⟩ = sizeD ⟨o, a, b, es⟩ + 1 := by
  have := leaf_size hy
  unfold sizeD at this
  rw [sizeD_mk, sizeD_mk, List.flatMap_append, flat1, szE_append, List.length_append]
  simp
  omega
theorem Grow.keepAt {E : TypeId} {s L n : Nat} {w w' : World} {v : Value} {cs : List Cell} {us : List Value} {f : List Nat} (h : Grow E s w L v n cs us f) (hv : ∀ g, v.ownBlock = some g → w'.heap[g]? = w.heap[g]?) (hf : ∀ x ∈ f, w'.heap[x]? = w.heap[x]?) : Grow E s w' L v n cs us f := by
  refine ⟨⟨h.row.1, ?_⟩, h.own.keep hf, h.nd, h.ne, h.ge⟩
  rcases h.row.2 with hn | ⟨g, cap, cur, rfl, g1, g2, rest⟩
  · exact .inl hn
  · exact .inr ⟨g, cap, cur, rfl, g1, (hv g rfl).trans g2, rest⟩
theorem sz_le {a b c d : Nat} (h1 : a ≤ b) (h2 : b < c) (h3 : b < d) : a ≤ d := by omega
theorem ne_low {k n m : Nat} (h : n = m + 1) (hk : n ≤ k) : k ≠ m := by omega
theorem loc_grown {w0 w w' : World} {B F L : Nat} {T : TypeId} {cs : Array Value} {x : Option Nat} (h : Loc w0 B F T cs w) (hg : w.grownBy w' x) (hx : ∀ k, x = some k → L ≤ k) (hL : w0.heap.size ≤ L) (hF : ∀ k, x = some k → k ≠ F) : Loc w0 B F T cs w' :=
  ⟨⟨hg.os.trans h.only.os, hg.tape.trans h.only.tape, hg.output.trans h.only.output, Nat.le_trans h.only.size hg.size, fun k hk hB => (hg.block k (Nat.lt_of_lt_of_le hk h.only.size) fun e => by have := hx k e.symm; omega).trans (h.only.block k hk hB)⟩, h.new, h.ne, (hg.block F h.lt fun e => hF F e.symm rfl).trans h.blk⟩
theorem own_fp {L : Nat} {w : World} {x : CondD} {A : Option Addr} {c : Nat} (h : CondOwn L w (.agg #[.int .i64 x.Op, .int .i64 x.A, .int .i64 x.B, .slice A x.Args.length c]) x) : ∃ fp, owE w (CondD.c x) [.int .i64 x.Op, .int .i64 x.A, .int .i64 x.B, .slice A x.Args.length c] fp ∧ fp.Nodup ∧ ∀ k ∈ fp, L ≤ k ∧ k < w.heap.size := by
  obtain ⟨v, us, f, h1, ⟨h2, h3, h4⟩, h5⟩ := h
  obtain rfl := agg_last h1.symm
  obtain ⟨fp, g1, g2, g3⟩ := h5.done (fun h0 => by rw [List.length_eq_zero_iff.mp h0]; rfl)
  obtain ⟨o, a, b, es⟩ := x
  exact ⟨fp, CondD.ow_mk h2 h3 h4 g1, g2, g3⟩
set_option maxHeartbeats 8000000 in
set_option maxRecDepth 100000 in
theorem any_any (w : World) (B : Nat) (a : Option Addr) (len cap : Nat) (z : List Int) (hc : Cur w B a len cap z) :
    Calls Tryz.prog 16 #[.pointer (some ⟨B, 0, none⟩)] w fun e w' => ∃ (u : Value) (x : CondD), e = .returned u ∧ CondOwn w.heap.size w' u x ∧ sizeD x ≤ 8 ∧ Only B w w' ∧ Cur w' B a len cap z := by
  obtain ⟨i0, hi0, hz0, hz1, hz2⟩ := info_parts infoCond15
  have hBF := hc.lt
  have lf0 : Loc w B w.heap.size 27 #[.int .i64 0, .int .i64 0, .int .i64 0, .slice none 0 0] (w.alloc (.cells #[.int .i64 0, .int .i64 0, .int .i64 0, .slice none 0 0] 27)) := Loc.mk_new (Only.refl B w) hc.lt
  have hc0 := hc.alloc (.cells #[.int .i64 0, .int .i64 0, .int .i64 0, .slice none 0 0] 27)
  obtain ⟨w0, hw0⟩ : ∃ W, W = w.alloc (.cells #[.int .i64 0, .int .i64 0, .int .i64 0, .slice none 0 0] 27) := ⟨_, rfl⟩
  have hs0 : w0.heap.size = w.heap.size + 1 := by rw [hw0]; simp
  rw [← hw0] at lf0 hc0
  clear hc
  go_enter Tryz.func16, Tryz.ntmps16
  go_upto_region 1 with fail
  rw [← hw0]
  clear hw0
  go_wp2_with fail
  refine (cond_any B a len cap z 2 w0 (Nat.le_refl _) hc0).mono ?_
  rintro e w1 ⟨u, x, rfl, hco, hsz, ho1, hc1⟩
  replace hsz : sizeD x ≤ 7 := Int.le_trans hsz (bdC_le 2 (Nat.le_refl _)).2
  obtain ⟨xA, xc, rfl, -⟩ := hco.read
  have hs1 : w.heap.size + 1 ≤ w1.heap.size := by have := ho1.size; omega
  have hs01' : w0.heap.size ≤ w1.heap.size := ho1.size
  have hbd := hco.bd
  have lf1 := lf0.call ho1
  have hB1 := hc1.lt
  have lb : Loc w B w1.heap.size 27 #[.int .i64 x.Op, .int .i64 x.A, .int .i64 x.B, .slice xA x.Args.length xc] (w1.alloc (.cells #[.int .i64 x.Op, .int .i64 x.A, .int .i64 x.B, .slice xA x.Args.length xc] 27)) := Loc.mk_new lf1.only hc1.lt
  have lfV := lf1.alloc (.cells #[.int .i64 x.Op, .int .i64 x.A, .int .i64 x.B, .slice xA x.Args.length xc] 27)
  have hcV := hc1.alloc (.cells #[.int .i64 x.Op, .int .i64 x.A, .int .i64 x.B, .slice xA x.Args.length xc] 27)
  have bdV := hbd.only ((Only.refl B w1).alloc (.cells #[.int .i64 x.Op, .int .i64 x.A, .int .i64 x.B, .slice xA x.Args.length xc] 27)) (by omega)
  obtain ⟨V, hV⟩ : ∃ V, V = w1.alloc (.cells #[.int .i64 x.Op, .int .i64 x.A, .int .i64 x.B, .slice xA x.Args.length xc] 27) := ⟨_, rfl⟩
  rw [← hV] at lb lfV hcV bdV
  clear lf0 hc0 ho1 hco hbd lf1 hc1
  go_upto_region 2 with fail
  rw [← hV]
  clear hV
  go_wp2_with fail
  refine (below_any V B a len cap z 8 (by decide) (by decide) hcV).mono ?_
  rintro e w2 ⟨n, hn, rfl, ho2, hc2⟩
  have lb2 := lb.call ho2
  have lf2 := lfV.call ho2
  have bd2 := bdV.only ho2 (by omega)
  have hn0 : (0 : Int) ≤ (n : Int) := by omega
  clear lb lfV hcV bdV ho2
  have hB0 : B < w0.heap.size := by omega
  have hs01 : w0.heap.size ≤ w1.heap.size := hs01'
  have hs00 : w.heap.size ≤ w0.heap.size := by omega
  generalize (n : Int) = ni at hn hn0
  rcases (by omega : ni = 0 ∨ ni = 1 ∨ ni = 2 ∨ ni = 3 ∨ (ni ≠ 0 ∧ ni ≠ 1 ∧ ni ≠ 2 ∧ ni ≠ 3)) with rfl | rfl | rfl | rfl | ⟨n0, n1, n2, n3⟩
  · clear hn hn0
    go_wp2_with fail
    refine (below_any w2 B a len cap z 11 (by decide) (by decide) hc2).mono ?_
    rintro e w3 ⟨q, hq, rfl, ho3, hc3⟩
    have lb3 := lb2.call ho3
    have lf3 := lf2.call ho3
    have bd3 := bd2.only ho3 (by omega)
    have lb4 := lb3.set 0 (.int .i64 (q : Int))
    have lf4 := lf3.setFar (g := w1.heap.size) (by omega) (by omega) 0 (.int .i64 (q : Int))
    have hc4 := hc3.setFar (g := w1.heap.size) (by omega) 0 (.int .i64 (q : Int))
    have bd4 := (bd3.far (F := w1.heap.size) (.inl (Nat.le_refl _)) 0 (.int .i64 (q : Int))).int (o' := (q : Int)) (a' := x.A) (b' := x.B) (wf_i64 (by omega) (by omega)) bd3.wf.2.1 bd3.wf.2.2
    have e0 := lb3.cell 0 rfl
    have f0 := lb3.frozen 0
    clear lb2 lf2 bd2 hc2 ho3 lf3 bd3 hc3
    obtain ⟨W4, hW4⟩ : ∃ W, W = w3.setCell ⟨w1.heap.size, 0, none⟩ (.int .i64 (q : Int)) := ⟨_, rfl⟩
    rw [← hW4] at lb4 lf4 hc4 bd4
    go_upto_region 11 with fail
    rw [← hW4]
    clear hW4 e0 f0 lb3
    have y0 := lb4.cell 0 rfl
    have y1 := lb4.cell 1 rfl
    have y2 := lb4.cell 2 rfl
    have y3 := lb4.cell 3 rfl
    have q0 := lf4.cell 0 rfl
    have q1 := lf4.cell 1 rfl
    have q2 := lf4.cell 2 rfl
    have q3 := lf4.cell 3 rfl
    have s0 := lf4.frozen 0
    have s1 := lf4.frozen 1
    have s2 := lf4.frozen 2
    have s3 := lf4.frozen 3
    have HFIN := Lib.hid (fin5 lf4 hc4 hBF (CondBd.own (x := (⟨(q : Int), x.A, x.B, x.Args⟩ : CondD)) bd4) (by omega) (.int .i64 (q : Int)) (.int .i64 x.A) (.int .i64 x.B) (.slice xA x.Args.length xc))
    clear lf4 hc4 bd4
    go_wp2
    have hfin := HFIN.out
    generalize ((((W4.setCell ⟨w.heap.size, 0, none⟩ (.int .i64 (q : Int))).setCell ⟨w.heap.size, 1, none⟩ (.int .i64 x.A)).setCell ⟨w.heap.size, 2, none⟩ (.int .i64 x.B)).setCell ⟨w.heap.size, 3, none⟩ (.slice xA x.Args.length xc)) = WF at hfin ⊢
    obtain ⟨⟨ho', hc', hb'⟩, hco'⟩ := hfin
    obtain ⟨⟨t0, t1, t2, t3⟩, -⟩ := cls_4 hb'
    exact bodyPost_ret (v := .agg #[.int .i64 (q : Int), .int .i64 x.A, .int .i64 x.B, .slice xA x.Args.length xc]) (by simp [results, Tryz.results16, go_sem, t0, t1, t2, t3]) rfl (by first | exact ⟨_, (⟨(q : Int), x.A, x.B, x.Args⟩ : CondD), rfl, hco'.wide (by omega), (by rw [size_fields]; omega), ho', hc'⟩ | exact ⟨_, rfl, (⟨(q : Int), x.A, x.B, x.Args⟩ : CondD), hco'.wide (by omega), (by rw [size_fields]; omega), ho', hc'⟩)
  · clear hn hn0
    go_wp2_with fail
    refine (int_any _ B a len cap z _ 8 _ (by decide) (by decide) (ints_lit w2 B hc2.lt _ _ _ (by decide)) (hc2.alloc _)).mono ?_
    rintro e w3 ⟨q, hq0, hq1, rfl, ho3, hc3⟩
    have lb3 := (lb2.alloc _).call ho3
    have lf3 := (lf2.alloc _).call ho3
    have bd3 := (bd2.only ((Only.refl B w2).alloc _) (by omega)).only ho3 (by omega)
    have lb4 := lb3.set 1 (.int .i64 q)
    have lf4 := lf3.setFar (g := w1.heap.size) (by omega) (by omega) 1 (.int .i64 q)
    have hc4 := hc3.setFar (g := w1.heap.size) (by omega) 1 (.int .i64 q)
    have bd4 := (bd3.far (F := w1.heap.size) (.inl (Nat.le_refl _)) 1 (.int .i64 q)).int (o' := x.Op) (a' := q) (b' := x.B) bd3.wf.1 (wf_i64 (by omega) (by omega)) bd3.wf.2.2
    have e1 := lb3.cell 1 rfl
    have f1 := lb3.frozen 1
    clear lb2 lf2 bd2 hc2 ho3 lf3 bd3 hc3
    obtain ⟨W4, hW4⟩ : ∃ W, W = w3.setCell ⟨w1.heap.size, 1, none⟩ (.int .i64 q) := ⟨_, rfl⟩
    rw [← hW4] at lb4 lf4 hc4 bd4
    go_upto_region 11 with fail
    rw [← hW4]
    clear hW4 e1 f1 lb3
    have y0 := lb4.cell 0 rfl
    have y1 := lb4.cell 1 rfl
    have y2 := lb4.cell 2 rfl
    have y3 := lb4.cell 3 rfl
    have q0 := lf4.cell 0 rfl
    have q1 := lf4.cell 1 rfl
    have q2 := lf4.cell 2 rfl
    have q3 := lf4.cell 3 rfl
    have s0 := lf4.frozen 0
    have s1 := lf4.frozen 1
    have s2 := lf4.frozen 2
    have s3 := lf4.frozen 3
    have HFIN := Lib.hid (fin5 lf4 hc4 hBF (CondBd.own (x := (⟨x.Op, q, x.B, x.Args⟩ : CondD)) bd4) (by omega) (.int .i64 x.Op) (.int .i64 q) (.int .i64 x.B) (.slice xA x.Args.length xc))
    clear lf4 hc4 bd4
    go_wp2
    have hfin := HFIN.out
    generalize ((((W4.setCell ⟨w.heap.size, 0, none⟩ (.int .i64 x.Op)).setCell ⟨w.heap.size, 1, none⟩ (.int .i64 q)).setCell ⟨w.heap.size, 2, none⟩ (.int .i64 x.B)).setCell ⟨w.heap.size, 3, none⟩ (.slice xA x.Args.length xc)) = WF at hfin ⊢
    obtain ⟨⟨ho', hc', hb'⟩, hco'⟩ := hfin
    obtain ⟨⟨t0, t1, t2, t3⟩, -⟩ := cls_4 hb'
    exact bodyPost_ret (v := .agg #[.int .i64 x.Op, .int .i64 q, .int .i64 x.B, .slice xA x.Args.length xc]) (by simp [results, Tryz.results16, go_sem, t0, t1, t2, t3]) rfl (by first | exact ⟨_, (⟨x.Op, q, x.B, x.Args⟩ : CondD), rfl, hco'.wide (by omega), (by rw [size_fields]; omega), ho', hc'⟩ | exact ⟨_, rfl, (⟨x.Op, q, x.B, x.Args⟩ : CondD), hco'.wide (by omega), (by rw [size_fields]; omega), ho', hc'⟩)
  · clear hn hn0
    go_wp2_with fail
    refine (int_any _ B a len cap z _ 4 _ (by decide) (by decide) (ints_lit w2 B hc2.lt _ _ _ (by decide)) (hc2.alloc _)).mono ?_
    rintro e w3 ⟨q, hq0, hq1, rfl, ho3, hc3⟩
    have lb3 := (lb2.alloc _).call ho3
    have lf3 := (lf2.alloc _).call ho3
    have bd3 := (bd2.only ((Only.refl B w2).alloc _) (by omega)).only ho3 (by omega)
    have lb4 := lb3.set 2 (.int .i64 q)
    have lf4 := lf3.setFar (g := w1.heap.size) (by omega) (by omega) 2 (.int .i64 q)
    have hc4 := hc3.setFar (g := w1.heap.size) (by omega) 2 (.int .i64 q)
    have bd4 := (bd3.far (F := w1.heap.size) (.inl (Nat.le_refl _)) 2 (.int .i64 q)).int (o' := x.Op) (a' := x.A) (b' := q) bd3.wf.1 bd3.wf.2.1 (wf_i64 (by omega) (by omega))
    have e2 := lb3.cell 2 rfl
    have f2 := lb3.frozen 2
    clear lb2 lf2 bd2 hc2 ho3 lf3 bd3 hc3
    obtain ⟨W4, hW4⟩ : ∃ W, W = w3.setCell ⟨w1.heap.size, 2, none⟩ (.int .i64 q) := ⟨_, rfl⟩
    rw [← hW4] at lb4 lf4 hc4 bd4
    go_upto_region 11 with fail
    rw [← hW4]
    clear hW4 e2 f2 lb3
    have y0 := lb4.cell 0 rfl
    have y1 := lb4.cell 1 rfl
    have y2 := lb4.cell 2 rfl
    have y3 := lb4.cell 3 rfl
    have q0 := lf4.cell 0 rfl
    have q1 := lf4.cell 1 rfl
    have q2 := lf4.cell 2 rfl
    have q3 := lf4.cell 3 rfl
    have s0 := lf4.frozen 0
    have s1 := lf4.frozen 1
    have s2 := lf4.frozen 2
    have s3 := lf4.frozen 3
    have HFIN := Lib.hid (fin5 lf4 hc4 hBF (CondBd.own (x := (⟨x.Op, x.A, q, x.Args⟩ : CondD)) bd4) (by omega) (.int .i64 x.Op) (.int .i64 x.A) (.int .i64 q) (.slice xA x.Args.length xc))
    clear lf4 hc4 bd4
    go_wp2
    have hfin := HFIN.out
    generalize ((((W4.setCell ⟨w.heap.size, 0, none⟩ (.int .i64 x.Op)).setCell ⟨w.heap.size, 1, none⟩ (.int .i64 x.A)).setCell ⟨w.heap.size, 2, none⟩ (.int .i64 q)).setCell ⟨w.heap.size, 3, none⟩ (.slice xA x.Args.length xc)) = WF at hfin ⊢
    obtain ⟨⟨ho', hc', hb'⟩, hco'⟩ := hfin
    obtain ⟨⟨t0, t1, t2, t3⟩, -⟩ := cls_4 hb'
    exact bodyPost_ret (v := .agg #[.int .i64 x.Op, .int .i64 x.A, .int .i64 q, .slice xA x.Args.length xc]) (by simp [results, Tryz.results16, go_sem, t0, t1, t2, t3]) rfl (by first | exact ⟨_, (⟨x.Op, x.A, q, x.Args⟩ : CondD), rfl, hco'.wide (by omega), (by rw [size_fields]; omega), ho', hc'⟩ | exact ⟨_, rfl, (⟨x.Op, x.A, q, x.Args⟩ : CondD), hco'.wide (by omega), (by rw [size_fields]; omega), ho', hc'⟩)
  · clear hn hn0
    have hxn : x.Args.length ≤ 8 := by
      obtain ⟨o', a', b', es⟩ := x
      have h1 := sizeD_mk o' a' b' es
      have h2 := szE_nonneg (es.flatMap CondD.c)
      show es.length ≤ 8
      omega
    go_upto_region 10 with fail
    have lbD := lb2.drew
    have lfD := lf2.drew
    have hcD : Cur w2.drew B a len cap z := hc2.drewN 1
    have bdD : CondBd w0.heap.size w1.heap.size w2.drew x xA xc := bd2.keep (fun _ _ _ _ => rfl)
    have y28 := lbD.cell 3 rfl
    have hw12 : w1.heap.size < w2.heap.size := lb2.lt
    clear lb2 lf2 bd2 hc2
    refine wp_region_held_drew (S := fun uu => True) (by kernel_rfl) (trivial) (fun hHeld => ?_)
    refine wpAnyH_take (i := 0) (oi := ⟨some 27, _, _, _, _, _⟩) (v := ?_) rfl (by kernel_rfl) (by kernel_rfl) (by kernel_rfl) (fun _ _ _ h => h) (Or.inl ⟨by rfl, ?_⟩) (by assumption) ?_
    rotate_left
    · intro w hSw; (try dsimp only at hSw); go_simp <;> (with_reducible rfl)
    (try simp only [Act.put, List.setIfInBounds_toArray, List.set_cons_zero, List.set_cons_succ])
    refine wpAnyH_take (i := 2) (oi := ⟨some 29, _, _, _, _, _⟩) (v := ?_) rfl (by kernel_rfl) (by kernel_rfl) (by kernel_rfl) (fun _ _ _ h => h) (Or.inl ⟨by rfl, ?_⟩) (by assumption) ?_
    rotate_left
    · intro w hSw; (try dsimp only at hSw); go_simp <;> (with_reducible rfl)
    (try simp only [Act.put, List.setIfInBounds_toArray, List.set_cons_zero, List.set_cons_succ])
    refine wpAnyH_ready (rs := [1, 3]) (by kernel_rfl) (by simp) ?_
    refine AllReadyH.cons (o := ⟨some 28, _, _, _, _, _⟩) rfl (fun K hK => ?_) (AllReadyH.cons (o := ⟨some 30, _, _, _, _, _⟩) rfl (fun K hK => ?_) (AllReadyH.nil))
    focus
      skip
      go_simp
      refine hK.out _ _ (trivial) (fun hHeld2 => ?_)
      clear hK K
      (try simp only [Act.put, List.setIfInBounds_toArray, List.set_cons_zero, List.set_cons_succ])
      refine wpAnyH_ready (rs := [3]) (by kernel_rfl) (by simp) ?_
      refine AllReadyH.cons (o := ⟨some 30, _, _, _, _, _⟩) rfl (fun K hK => ?_) AllReadyH.nil
      go_simp
      (with_reducible refine (leaf_any _ B a len cap z hcD).mono ?_)
      rintro e30 u30 ⟨lv, ly, rfl, hly, hco30, ho30, hc30⟩
      have HLY := Lib.hid hly
      clear hly
      obtain ⟨lA, lc, rfl, -⟩ := hco30.read
      obtain ⟨fp, hoe, hnd, hrg⟩ := own_fp hco30
      have lb30 := lbD.call ho30
      have lf30 := lfD.call ho30
      have bd30 := bdD.only ho30 hB0
      have y30 := lb30.cell 3 rfl
      refine hK.out _ _ (trivial) (fun hHeld2 => ?_)
      clear hK K
      (try simp only [Act.put, List.setIfInBounds_toArray, List.set_cons_zero, List.set_cons_succ])
      refine wpAnyH_ready (rs := [4]) (by kernel_rfl) (by simp) ?_
      refine AllReadyH.cons (o := ⟨some 31, _, _, _, _, _⟩) rfl (fun K hK => ?_) AllReadyH.nil
      have lb31 := lb30.alloc (.cells #[.int .i64 ly.Op, .int .i64 ly.A, .int .i64 ly.B, .slice lA ly.Args.length lc] 27)
      have lf31 := lf30.alloc (.cells #[.int .i64 ly.Op, .int .i64 ly.A, .int .i64 ly.B, .slice lA ly.Args.length lc] 27)
      have hc31 := hc30.alloc (.cells #[.int .i64 ly.Op, .int .i64 ly.A, .int .i64 ly.B, .slice lA ly.Args.length lc] 27)
      have bd31 := bd30.only ((Only.refl B u30).alloc (.cells #[.int .i64 ly.Op, .int .i64 ly.A, .int .i64 ly.B, .slice lA ly.Args.length lc] 27)) hB0
      have y31 := lb31.cell 3 rfl
      go_simp
      refine hK.out _ _ (trivial) (fun hHeld2 => ?_)
      clear hK K
      (try simp only [Act.put, List.setIfInBounds_toArray, List.set_cons_zero, List.set_cons_succ])
      refine wpAnyH_ready (rs := [5]) (by kernel_rfl) (by simp) ?_
      refine AllReadyH.cons (o := ⟨some 32, _, _, _, _, _⟩) rfl (fun K hK => ?_) AllReadyH.nil
      obtain ⟨us, f, hwf, hG, hH1, hH2⟩ := bd31
      have hsL : w0.heap.size ≤ (u30.alloc (.cells #[.int .i64 ly.Op, .int .i64 ly.A, .int .i64 ly.B, .slice lA ly.Args.length lc] 27)).heap.size := sz_le hs01 hw12 lb31.lt
      refine step_append_elem rfl _ _ 25 rfl 27 i0 (.agg #[.int .i64 0, .int .i64 0, .int .i64 0, .slice none 0 0]) 4 48 Tryz.underlying25 hi0 hz0 hz1 hz2 rfl (by decide) w0.heap.size _ x.Args.length us rfl hG.row u30.heap.size [.int .i64 ly.Op, .int .i64 ly.A, .int .i64 ly.B, .slice lA ly.Args.length lc] rfl (cell_new u30 27 [.int .i64 ly.Op, .int .i64 ly.A, .int .i64 ly.B, .slice lA ly.Args.length lc]) (cond_one rfl) rfl (by omega) (by decide) hsL ?_
      intro v6 w6 g1 g2 g3
      obtain ⟨a6, c6, rfl⟩ := owns_form g1
      have lb32 := loc_grown lb31 g2 (fun k e => (hG.lt.1 k e).1) hs00 (fun k e => Nat.ne_of_lt (hH1 k e))
      have lf32 := loc_grown lf31 g2 (fun k e => (hG.lt.1 k e).1) hs00 (fun k e => ne_low hs0 (hG.lt.1 k e).1)
      have hc32 := hc31.keep hB0 (grow_below g2 (Below.refl w0.heap.size _) (fun k e => (hG.lt.1 k e).1) hsL)
      refine hK.out _ _ (trivial) (fun hHeld2 => ?_)
      clear hK K
      (try simp only [Act.put, List.setIfInBounds_toArray, List.set_cons_zero, List.set_cons_succ])
      refine wpAnyH_take (i := 6) (oi := ⟨some 33, _, _, _, _, _⟩) (v := ?_) rfl (by kernel_rfl) (by kernel_rfl) (by kernel_rfl) (fun _ _ _ h => h) (Or.inl ⟨by rfl, ?_⟩) (by assumption) ?_
      rotate_left
      · intro w hSw; (try dsimp only at hSw); go_simp <;> (with_reducible rfl)
      (try simp only [Act.put, List.setIfInBounds_toArray, List.set_cons_zero, List.set_cons_succ])
      refine wpAnyH_ready (rs := [7]) (by kernel_rfl) (by simp) ?_
      refine AllReadyH.cons (o := ⟨none, _, _, _, _, _⟩) rfl (fun K hK => ?_) AllReadyH.nil
      have m0 := lb32.cell 0 rfl
      have m1 := lb32.cell 1 rfl
      have m2 := lb32.cell 2 rfl
      have m3 := lb32.cell 3 rfl
      have r0 := lb32.frozen 0
      have r1 := lb32.frozen 1
      have r2 := lb32.frozen 2
      have r3 := lb32.frozen 3
      go_simp
      refine hK.out _ _ (trivial) (fun hHeld2 => ?_)
      clear hK K
      (try simp only [Act.put, List.setIfInBounds_toArray, List.set_cons_zero, List.set_cons_succ])
      refine wpAnyH_done (by kernel_rfl) ?_ _
    rotate_left
    focus
      go_simp
      (with_reducible refine (leaf_any _ B a len cap z hcD).mono ?_)
      rintro e30 u30 ⟨lv, ly, rfl, hly, hco30, ho30, hc30⟩
      have HLY := Lib.hid hly
      clear hly
      obtain ⟨lA, lc, rfl, -⟩ := hco30.read
      obtain ⟨fp, hoe, hnd, hrg⟩ := own_fp hco30
      have lb30 := lbD.call ho30
      have lf30 := lfD.call ho30
      have bd30 := bdD.only ho30 hB0
      have y30 := lb30.cell 3 rfl
      refine hK.out _ _ (trivial) (fun hHeld2 => ?_)
      clear hK K
      (try simp only [Act.put, List.setIfInBounds_toArray, List.set_cons_zero, List.set_cons_succ])
      refine wpAnyH_ready (rs := [1, 4]) (by kernel_rfl) (by simp) ?_
      refine AllReadyH.cons (o := ⟨some 28, _, _, _, _, _⟩) rfl (fun K hK => ?_) (AllReadyH.cons (o := ⟨some 31, _, _, _, _, _⟩) rfl (fun K hK => ?_) (AllReadyH.nil))
      focus
        skip
        go_simp
        refine hK.out _ _ (trivial) (fun hHeld2 => ?_)
        clear hK K
        (try simp only [Act.put, List.setIfInBounds_toArray, List.set_cons_zero, List.set_cons_succ])
        refine wpAnyH_ready (rs := [4]) (by kernel_rfl) (by simp) ?_
        refine AllReadyH.cons (o := ⟨some 31, _, _, _, _, _⟩) rfl (fun K hK => ?_) AllReadyH.nil
        have lb31 := lb30.alloc (.cells #[.int .i64 ly.Op, .int .i64 ly.A, .int .i64 ly.B, .slice lA ly.Args.length lc] 27)
        have lf31 := lf30.alloc (.cells #[.int .i64 ly.Op, .int .i64 ly.A, .int .i64 ly.B, .slice lA ly.Args.length lc] 27)
        have hc31 := hc30.alloc (.cells #[.int .i64 ly.Op, .int .i64 ly.A, .int .i64 ly.B, .slice lA ly.Args.length lc] 27)
        have bd31 := bd30.only ((Only.refl B u30).alloc (.cells #[.int .i64 ly.Op, .int .i64 ly.A, .int .i64 ly.B, .slice lA ly.Args.length lc] 27)) hB0
        have y31 := lb31.cell 3 rfl
        go_simp
        refine hK.out _ _ (trivial) (fun hHeld2 => ?_)
        clear hK K
        (try simp only [Act.put, List.setIfInBounds_toArray, List.set_cons_zero, List.set_cons_succ])
        refine wpAnyH_ready (rs := [5]) (by kernel_rfl) (by simp) ?_
        refine AllReadyH.cons (o := ⟨some 32, _, _, _, _, _⟩) rfl (fun K hK => ?_) AllReadyH.nil
        obtain ⟨us, f, hwf, hG, hH1, hH2⟩ := bd31
        have hsL : w0.heap.size ≤ (u30.alloc (.cells #[.int .i64 ly.Op, .int .i64 ly.A, .int .i64 ly.B, .slice lA ly.Args.length lc] 27)).heap.size := sz_le hs01 hw12 lb31.lt
        refine step_append_elem rfl _ _ 25 rfl 27 i0 (.agg #[.int .i64 0, .int .i64 0, .int .i64 0, .slice none 0 0]) 4 48 Tryz.underlying25 hi0 hz0 hz1 hz2 rfl (by decide) w0.heap.size _ x.Args.length us rfl hG.row u30.heap.size [.int .i64 ly.Op, .int .i64 ly.A, .int .i64 ly.B, .slice lA ly.Args.length lc] rfl (cell_new u30 27 [.int .i64 ly.Op, .int .i64 ly.A, .int .i64 ly.B, .slice lA ly.Args.length lc]) (cond_one rfl) rfl (by omega) (by decide) hsL ?_
        intro v6 w6 g1 g2 g3
        obtain ⟨a6, c6, rfl⟩ := owns_form g1
        have lb32 := loc_grown lb31 g2 (fun k e => (hG.lt.1 k e).1) hs00 (fun k e => Nat.ne_of_lt (hH1 k e))
        have lf32 := loc_grown lf31 g2 (fun k e => (hG.lt.1 k e).1) hs00 (fun k e => ne_low hs0 (hG.lt.1 k e).1)
        have hc32 := hc31.keep hB0 (grow_below g2 (Below.refl w0.heap.size _) (fun k e => (hG.lt.1 k e).1) hsL)
        refine hK.out _ _ (trivial) (fun hHeld2 => ?_)
        clear hK K
        (try simp only [Act.put, List.setIfInBounds_toArray, List.set_cons_zero, List.set_cons_succ])
        refine wpAnyH_take (i := 6) (oi := ⟨some 33, _, _, _, _, _⟩) (v := ?_) rfl (by kernel_rfl) (by kernel_rfl) (by kernel_rfl) (fun _ _ _ h => h) (Or.inl ⟨by rfl, ?_⟩) (by assumption) ?_
        rotate_left
        · intro w hSw; (try dsimp only at hSw); go_simp <;> (with_reducible rfl)
        (try simp only [Act.put, List.setIfInBounds_toArray, List.set_cons_zero, List.set_cons_succ])
        refine wpAnyH_ready (rs := [7]) (by kernel_rfl) (by simp) ?_
        refine AllReadyH.cons (o := ⟨none, _, _, _, _, _⟩) rfl (fun K hK => ?_) AllReadyH.nil
        have m0 := lb32.cell 0 rfl
        have m1 := lb32.cell 1 rfl
        have m2 := lb32.cell 2 rfl
        have m3 := lb32.cell 3 rfl
        have r0 := lb32.frozen 0
        have r1 := lb32.frozen 1
        have r2 := lb32.frozen 2
        have r3 := lb32.frozen 3
        go_simp
        refine hK.out _ _ (trivial) (fun hHeld2 => ?_)
        clear hK K
        (try simp only [Act.put, List.setIfInBounds_toArray, List.set_cons_zero, List.set_cons_succ])
        refine wpAnyH_done (by kernel_rfl) ?_ _
      rotate_left
      focus
        have lb31 := lb30.alloc (.cells #[.int .i64 ly.Op, .int .i64 ly.A, .int .i64 ly.B, .slice lA ly.Args.length lc] 27)
        have lf31 := lf30.alloc (.cells #[.int .i64 ly.Op, .int .i64 ly.A, .int .i64 ly.B, .slice lA ly.Args.length lc] 27)
        have hc31 := hc30.alloc (.cells #[.int .i64 ly.Op, .int .i64 ly.A, .int .i64 ly.B, .slice lA ly.Args.length lc] 27)
        have bd31 := bd30.only ((Only.refl B u30).alloc (.cells #[.int .i64 ly.Op, .int .i64 ly.A, .int .i64 ly.B, .slice lA ly.Args.length lc] 27)) hB0
        have y31 := lb31.cell 3 rfl
        go_simp
        refine hK.out _ _ (trivial) (fun hHeld2 => ?_)
        clear hK K
        (try simp only [Act.put, List.setIfInBounds_toArray, List.set_cons_zero, List.set_cons_succ])
        refine wpAnyH_ready (rs := [1]) (by kernel_rfl) (by simp) ?_
        refine AllReadyH.cons (o := ⟨some 28, _, _, _, _, _⟩) rfl (fun K hK => ?_) AllReadyH.nil
        skip
        go_simp
        refine hK.out _ _ (trivial) (fun hHeld2 => ?_)
        clear hK K
        (try simp only [Act.put, List.setIfInBounds_toArray, List.set_cons_zero, List.set_cons_succ])
        refine wpAnyH_ready (rs := [5]) (by kernel_rfl) (by simp) ?_
        refine AllReadyH.cons (o := ⟨some 32, _, _, _, _, _⟩) rfl (fun K hK => ?_) AllReadyH.nil
        obtain ⟨us, f, hwf, hG, hH1, hH2⟩ := bd31
        have hsL : w0.heap.size ≤ (u30.alloc (.cells #[.int .i64 ly.Op, .int .i64 ly.A, .int .i64 ly.B, .slice lA ly.Args.length lc] 27)).heap.size := sz_le hs01 hw12 lb31.lt
        refine step_append_elem rfl _ _ 25 rfl 27 i0 (.agg #[.int .i64 0, .int .i64 0, .int .i64 0, .slice none 0 0]) 4 48 Tryz.underlying25 hi0 hz0 hz1 hz2 rfl (by decide) w0.heap.size _ x.Args.length us rfl hG.row u30.heap.size [.int .i64 ly.Op, .int .i64 ly.A, .int .i64 ly.B, .slice lA ly.Args.length lc] rfl (cell_new u30 27 [.int .i64 ly.Op, .int .i64 ly.A, .int .i64 ly.B, .slice lA ly.Args.length lc]) (cond_one rfl) rfl (by omega) (by decide) hsL ?_
        intro v6 w6 g1 g2 g3
        obtain ⟨a6, c6, rfl⟩ := owns_form g1
        have lb32 := loc_grown lb31 g2 (fun k e => (hG.lt.1 k e).1) hs00 (fun k e => Nat.ne_of_lt (hH1 k e))
        have lf32 := loc_grown lf31 g2 (fun k e => (hG.lt.1 k e).1) hs00 (fun k e => ne_low hs0 (hG.lt.1 k e).1)
        have hc32 := hc31.keep hB0 (grow_below g2 (Below.refl w0.heap.size _) (fun k e => (hG.lt.1 k e).1) hsL)
        refine hK.out _ _ (trivial) (fun hHeld2 => ?_)
        clear hK K
        (try simp only [Act.put, List.setIfInBounds_toArray, List.set_cons_zero, List.set_cons_succ])
        refine wpAnyH_take (i := 6) (oi := ⟨some 33, _, _, _, _, _⟩) (v := ?_) rfl (by kernel_rfl) (by kernel_rfl) (by kernel_rfl) (fun _ _ _ h => h) (Or.inl ⟨by rfl, ?_⟩) (by assumption) ?_
        rotate_left
        · intro w hSw; (try dsimp only at hSw); go_simp <;> (with_reducible rfl)
        (try simp only [Act.put, List.setIfInBounds_toArray, List.set_cons_zero, List.set_cons_succ])
        refine wpAnyH_ready (rs := [7]) (by kernel_rfl) (by simp) ?_
        refine AllReadyH.cons (o := ⟨none, _, _, _, _, _⟩) rfl (fun K hK => ?_) AllReadyH.nil
        have m0 := lb32.cell 0 rfl
        have m1 := lb32.cell 1 rfl
        have m2 := lb32.cell 2 rfl
        have m3 := lb32.cell 3 rfl
        have r0 := lb32.frozen 0
        have r1 := lb32.frozen 1
        have r2 := lb32.frozen 2
        have r3 := lb32.frozen 3
        go_simp
        refine hK.out _ _ (trivial) (fun hHeld2 => ?_)
        clear hK K
        (try simp only [Act.put, List.setIfInBounds_toArray, List.set_cons_zero, List.set_cons_succ])
        refine wpAnyH_done (by kernel_rfl) ?_ _
      rotate_left
    rotate_left
    all_goals
      have hal : Below u30.heap.size u30 (u30.alloc (.cells #[.int .i64 ly.Op, .int .i64 ly.A, .int .i64 ly.B, .slice lA ly.Args.length lc] 27)) := (Below.refl _ _).alloc (Nat.le_refl _) _
      have hw31 := lb31.lt
      have hG6 := hG.app (hoe.at hal) hnd (fun k hk => by
        have h8 : w2.heap.size ≤ k := (hrg k hk).1
        exact ⟨by omega, fun hf => by have := hH2 k hf; omega, fun e => by have := hH1 k e; omega⟩) g1 g2 g3
      have lb7 := lb32.set 3 (.slice a6 (x.Args.length + 1) c6)
      have lf7 := lf32.setFar (g := w1.heap.size) (by omega) (by omega) 3 (.slice a6 (x.Args.length + 1) c6)
      have hc7 := hc32.setFar (g := w1.heap.size) (by omega) 3 (.slice a6 (x.Args.length + 1) c6)
      have hG7 := hG6.keepAt (w' := w6.setCell ⟨w1.heap.size, 3, none⟩ (.slice a6 (x.Args.length + 1) c6)) (fun g hg => Below.heap_setCell w6 ⟨w1.heap.size, 3, none⟩ (.slice a6 (x.Args.length + 1) c6) g (by
        show g ≠ w1.heap.size
        rcases g3 with g3 | g3
        · have := hH1 g (g3 ▸ hg)
          omega
        · rw [g3] at hg
          injection hg with hg
          omega)) (fun k hk => Below.heap_setCell w6 ⟨w1.heap.size, 3, none⟩ (.slice a6 (x.Args.length + 1) c6) k (by
        show k ≠ w1.heap.size
        rcases List.mem_append.1 hk with hk | hk
        · have := hH2 k hk
          omega
        · have h8 : w2.heap.size ≤ k := (hrg k hk).1
          omega))
      have hco7 : CondOwn w0.heap.size (w6.setCell ⟨w1.heap.size, 3, none⟩ (.slice a6 (x.Args.length + 1) c6)) (.agg #[.int .i64 x.Op, .int .i64 x.A, .int .i64 x.B, (.slice a6 (x.Args.length + 1) c6)]) ⟨x.Op, x.A, x.B, x.Args ++ [ly]⟩ := ⟨(.slice a6 (x.Args.length + 1) c6), _, _, rfl, hwf, by
        show Grow _ 4 _ _ (.slice a6 (x.Args.length + 1) c6) (x.Args ++ [ly]).length ((x.Args ++ [ly]).flatMap CondD.c) _ _
        rw [List.length_append, List.flatMap_append, flat1]
        exact hG7⟩
      have HSZ := Lib.hid (show sizeD ⟨x.Op, x.A, x.B, x.Args ++ [ly]⟩ ≤ 8 by rw [size_add HLY.out, size_fields]; omega)
      obtain ⟨W7, hW7⟩ : ∃ W, W = w6.setCell ⟨w1.heap.size, 3, none⟩ (.slice a6 (x.Args.length + 1) c6) := ⟨_, rfl⟩
      rw [← hW7] at lb7 lf7 hc7 hco7 ⊢
      generalize (⟨x.Op, x.A, x.B, x.Args ++ [ly]⟩ : CondD) = X at hco7 HSZ
      clear hW7 hG6 hG7 g1 g2 g3 hG lb32 lf32 hc32 lb31 lf31 hc31 lb30 lf30 hc30 m0 m1 m2 m3 r0 r1 r2 r3 hw31
      have y0 := lb7.cell 0 rfl
      have y1 := lb7.cell 1 rfl
      have y2 := lb7.cell 2 rfl
      have y3 := lb7.cell 3 rfl
      have q0 := lf7.cell 0 rfl
      have q1 := lf7.cell 1 rfl
      have q2 := lf7.cell 2 rfl
      have q3 := lf7.cell 3 rfl
      have s0 := lf7.frozen 0
      have s1 := lf7.frozen 1
      have s2 := lf7.frozen 2
      have s3 := lf7.frozen 3
      have HFIN := Lib.hid (fin5 lf7 hc7 hBF hco7 (by omega) (.int .i64 x.Op) (.int .i64 x.A) (.int .i64 x.B) (.slice a6 (x.Args.length + 1) c6))
      clear lf7 hc7 hco7
      go_wp2
      have hfin := HFIN.out
      generalize ((((W7.setCell ⟨w.heap.size, 0, none⟩ (.int .i64 x.Op)).setCell ⟨w.heap.size, 1, none⟩ (.int .i64 x.A)).setCell ⟨w.heap.size, 2, none⟩ (.int .i64 x.B)).setCell ⟨w.heap.size, 3, none⟩ (.slice a6 (x.Args.length + 1) c6)) = WF at hfin ⊢
      obtain ⟨⟨ho', hc', hb'⟩, hco'⟩ := hfin
      obtain ⟨⟨t0, t1, t2, t3⟩, -⟩ := cls_4 hb'
      exact bodyPost_ret (v := .agg #[.int .i64 x.Op, .int .i64 x.A, .int .i64 x.B, .slice a6 (x.Args.length + 1) c6]) (by simp [results, Tryz.results16, go_sem, t0, t1, t2, t3]) rfl (by first | exact ⟨_, X, rfl, hco'.wide (by omega), HSZ.out, ho', hc'⟩ | exact ⟨_, rfl, X, hco'.wide (by omega), HSZ.out, ho', hc'⟩)
  · have e0 : (ni == 0) = false := beq_eq_false_iff_ne.2 n0
    have e1 : (ni == 1) = false := beq_eq_false_iff_ne.2 n1
    have e2 : (ni == 2) = false := beq_eq_false_iff_ne.2 n2
    have e3 : (ni == 3) = false := beq_eq_false_iff_ne.2 n3
    clear hn hn0 n0 n1 n2 n3
    have y0 := lb2.cell 0 rfl
    have y1 := lb2.cell 1 rfl
    have y2 := lb2.cell 2 rfl
    have y3 := lb2.cell 3 rfl
    have q0 := lf2.cell 0 rfl
    have q1 := lf2.cell 1 rfl
    have q2 := lf2.cell 2 rfl
    have q3 := lf2.cell 3 rfl
    have s0 := lf2.frozen 0
    have s1 := lf2.frozen 1
    have s2 := lf2.frozen 2
    have s3 := lf2.frozen 3
    have HFIN := Lib.hid (fin5 lf2 hc2 hBF (CondBd.own (x := x) bd2) (by omega) (.int .i64 x.Op) (.int .i64 x.A) (.int .i64 x.B) (.slice xA x.Args.length xc))
    clear lf2 hc2 bd2
    go_wp2
    have hfin := HFIN.out
    generalize ((((w2.setCell ⟨w.heap.size, 0, none⟩ (.int .i64 x.Op)).setCell ⟨w.heap.size, 1, none⟩ (.int .i64 x.A)).setCell ⟨w.heap.size, 2, none⟩ (.int .i64 x.B)).setCell ⟨w.heap.size, 3, none⟩ (.slice xA x.Args.length xc)) = WF at hfin ⊢
    obtain ⟨⟨ho', hc', hb'⟩, hco'⟩ := hfin
    obtain ⟨⟨t0, t1, t2, t3⟩, -⟩ := cls_4 hb'
    exact bodyPost_ret (v := .agg #[.int .i64 x.Op, .int .i64 x.A, .int .i64 x.B, .slice xA x.Args.length xc]) (by simp [results, Tryz.results16, go_sem, t0, t1, t2, t3]) rfl (by first | exact ⟨_, x, rfl, hco'.wide (by omega), (by omega), ho', hc'⟩ | exact ⟨_, rfl, x, hco'.wide (by omega), (by omega), ho', hc'⟩)
end Go.Proofs.YtmdmkdjeaffhaaaGreatDoor
