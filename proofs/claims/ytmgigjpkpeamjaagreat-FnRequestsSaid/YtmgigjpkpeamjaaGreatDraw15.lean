/- The draws of chapter 15 (conditions): leaves and conditions. No condition but what came in. -/
import Derived.Test.YtmgigjpkpeamjaaGreatMDrawN
import Derived.Test.YtmgigjpkpeamjaaGreatMInts
namespace Go.Proofs.YtmgigjpkpeamjaaGreat
open Go.ChangeShapes Go.WideShapes Go.ChangeAt Go.RowKit
set_option linter.unusedVariables false

/-- A condition that the call has drawn: its blocks lie from L on; its arguments may grow. -/
def CondOwn (L : Nat) (w : World) (u : Value) (x : CondD) : Prop := ∃ v us f, u = .agg #[.int .i64 x.Op, .int .i64 x.A, .int .i64 x.B, v] ∧ ((Lit.int .i64 x.Op).wf = true ∧ (Lit.int .i64 x.A).wf = true ∧ (Lit.int .i64 x.B).wf = true) ∧ Grow 28 4 w L v x.Args.length (x.Args.flatMap CondD.c) us f
theorem CondOwn.keep {L : Nat} {w w' : World} {u : Value} {x : CondD} (h : CondOwn L w u x) (hb : ∀ k, L ≤ k → k < w.heap.size → w'.heap[k]? = w.heap[k]?) : CondOwn L w' u x := by
  obtain ⟨v, us, f, h1, h2, h3⟩ := h
  exact ⟨v, us, f, h1, h2, h3.keep hb⟩
theorem CondOwn.only {L B : Nat} {w w' : World} {u : Value} {x : CondD} (h : CondOwn L w u x) (ho : Only B w w') (hB : B < L) : CondOwn L w' u x := h.keep fun k h1 h2 => ho.block k h2 (by omega)
theorem CondOwn.wide {L L' : Nat} {w : World} {u : Value} {x : CondD} (h : CondOwn L w u x) (hL : L' ≤ L) : CondOwn L' w u x := by
  obtain ⟨v, us, f, h1, h2, h3⟩ := h
  exact ⟨v, us, f, h1, h2, h3.wide hL⟩
theorem CondOwn.read {L : Nat} {w : World} {u : Value} {x : CondD} (h : CondOwn L w u x) : ∃ A c, u = .agg #[.int .i64 x.Op, .int .i64 x.A, .int .i64 x.B, .slice A x.Args.length c] ∧ rdL w w.heap.size (CondD.c x) [.int .i64 x.Op, .int .i64 x.A, .int .i64 x.B, .slice A x.Args.length c] := by
  obtain ⟨v, us, f, rfl, ⟨h1, h2, h3⟩, h4⟩ := h
  obtain ⟨A, c, rfl⟩ := owns_form h4.row
  obtain ⟨fp, g1, g2, g3⟩ := h4.done (fun h0 => by rw [List.length_eq_zero_iff.mp h0]; rfl)
  obtain ⟨o, a, b, es⟩ := x
  exact ⟨A, c, rfl, owE.list (CondD.ow_mk h1 h2 h3 g1) (fun k hk => (g3 k hk).2)⟩
theorem fin4 {w0 wl : World} {B F : Nat} {T : TypeId} {a : Option Addr} {len cap : Nat} {z : List Int} {z0 z1 z2 z3 : Value} (lf : Loc w0 B F T #[z0, z1, z2, z3] wl) (hc : Cur wl B a len cap z) (hBF : B < F) (r0 r1 r2 r3 : Value) :
    Only B w0 ((((wl.setCell ⟨F, 0, none⟩ r0).setCell ⟨F, 1, none⟩ r1).setCell ⟨F, 2, none⟩ r2).setCell ⟨F, 3, none⟩ r3) ∧ Cur ((((wl.setCell ⟨F, 0, none⟩ r0).setCell ⟨F, 1, none⟩ r1).setCell ⟨F, 2, none⟩ r2).setCell ⟨F, 3, none⟩ r3) B a len cap z ∧ ((((wl.setCell ⟨F, 0, none⟩ r0).setCell ⟨F, 1, none⟩ r1).setCell ⟨F, 2, none⟩ r2).setCell ⟨F, 3, none⟩ r3).heap[F]? = some (.cells #[r0, r1, r2, r3] T) :=
  ⟨((((lf.set 0 r0).set 1 r1).set 2 r2).set 3 r3).only, ((((hc.setFar hBF 0 r0).setFar hBF 1 r1).setFar hBF 2 r2).setFar hBF 3 r3), (stt_4 lf.blk r0 r1 r2 r3).1⟩
set_option maxHeartbeats 4000000 in
set_option maxRecDepth 100000 in
theorem leaf_any (w : World) (B : Nat) (a : Option Addr) (len cap : Nat) (z : List Int) (hc : Cur w B a len cap z) :
    Calls Tryz.prog 15 #[.pointer (some ⟨B, 0, none⟩)] w fun e w' => ∃ (u : Value) (x : CondD), e = .returned u ∧ x.Args = [] ∧ CondOwn w.heap.size w' u x ∧ Only B w w' ∧ Cur w' B a len cap z := by
  have hBF := hc.lt
  have lf0 : Loc w B w.heap.size 28 #[.int .i64 0, .int .i64 0, .int .i64 0, .slice none 0 0] (w.alloc (.cells #[.int .i64 0, .int .i64 0, .int .i64 0, .slice none 0 0] 28)) := Loc.mk_new (Only.refl B w) hc.lt
  have hc0 := hc.alloc (.cells #[.int .i64 0, .int .i64 0, .int .i64 0, .slice none 0 0] 28)
  obtain ⟨w0, hw0⟩ : ∃ W, W = w.alloc (.cells #[.int .i64 0, .int .i64 0, .int .i64 0, .slice none 0 0] 28) := ⟨_, rfl⟩
  rw [← hw0] at lf0 hc0
  go_enter Tryz.func15, Tryz.ntmps15
  go_upto_region 1 with fail
  rw [← hw0]
  clear hw0 hc
  go_wp2_with fail
  refine (int_any _ B a len cap z _ 3 _ (by decide) (by decide) (ints_lit w0 B hc0.lt _ _ _ (by decide)) (hc0.alloc _)).mono ?_
  rintro e w1 ⟨age, g0, g1, rfl, ho1, hc1⟩
  have lf1 := (lf0.alloc _).call ho1
  clear lf0 hc0 ho1
  go_wp2_with fail
  refine (below_any w1 B a len cap z 7 (by decide) (by decide) hc1).mono ?_
  rintro e w2 ⟨n, hn, rfl, ho2, hc2⟩
  have lf2 := lf1.call ho2
  have hn0 : (0 : Int) ≤ (n : Int) := by omega
  clear lf1 hc1 ho2
  generalize (n : Int) = ni at hn hn0
  rcases (by omega : ni = 0 ∨ ni = 1 ∨ ni = 2 ∨ ni = 3 ∨ ni = 4 ∨ ni = 5 ∨ ni = 6) with rfl | rfl | rfl | rfl | rfl | rfl | rfl
  all_goals clear hn hn0
  · have q0 := lf2.cell 0 rfl
    have q1 := lf2.cell 1 rfl
    have q2 := lf2.cell 2 rfl
    have q3 := lf2.cell 3 rfl
    have s0 := lf2.frozen 0
    have s1 := lf2.frozen 1
    have s2 := lf2.frozen 2
    have s3 := lf2.frozen 3
    have HFIN := Lib.hid (fin4 lf2 hc2 hBF (.int .i64 1) (.int .i64 0) (.int .i64 0) (.slice none 0 0))
    clear lf2 hc2
    go_wp2
    have hfin := HFIN.out
    generalize ((((w2.setCell ⟨w.heap.size, 0, none⟩ (.int .i64 1)).setCell ⟨w.heap.size, 1, none⟩ (.int .i64 0)).setCell ⟨w.heap.size, 2, none⟩ (.int .i64 0)).setCell ⟨w.heap.size, 3, none⟩ (.slice none 0 0)) = WF at hfin ⊢
    obtain ⟨ho', hc', hb'⟩ := hfin
    obtain ⟨⟨t0, t1, t2, t3⟩, -⟩ := cls_4 hb'
    exact bodyPost_ret (v := .agg #[.int .i64 1, .int .i64 0, .int .i64 0, .slice none 0 0]) (by simp [results, Tryz.results15, go_sem, t0, t1, t2, t3]) rfl ⟨_, ⟨1, 0, 0, []⟩, rfl, rfl, ⟨.slice none 0 0, [], [], rfl, ⟨rfl, rfl, rfl⟩, Grow.nil _ _ _ _⟩, ho', hc'⟩
  · go_wp2_with fail
    refine (below_any w2 B a len cap z 3 (by decide) (by decide) hc2).mono ?_
    rintro e w3 ⟨q, hq, rfl, ho3, hc3⟩
    have lf3 := lf2.call ho3
    clear lf2 hc2 ho3
    have q0 := lf3.cell 0 rfl
    have q1 := lf3.cell 1 rfl
    have q2 := lf3.cell 2 rfl
    have q3 := lf3.cell 3 rfl
    have s0 := lf3.frozen 0
    have s1 := lf3.frozen 1
    have s2 := lf3.frozen 2
    have s3 := lf3.frozen 3
    have HFIN := Lib.hid (fin4 lf3 hc3 hBF (.int .i64 2) (.int .i64 (q : Int)) (.int .i64 age) (.slice none 0 0))
    clear lf3 hc3
    go_wp2
    have hfin := HFIN.out
    generalize ((((w3.setCell ⟨w.heap.size, 0, none⟩ (.int .i64 2)).setCell ⟨w.heap.size, 1, none⟩ (.int .i64 (q : Int))).setCell ⟨w.heap.size, 2, none⟩ (.int .i64 age)).setCell ⟨w.heap.size, 3, none⟩ (.slice none 0 0)) = WF at hfin ⊢
    obtain ⟨ho', hc', hb'⟩ := hfin
    obtain ⟨⟨t0, t1, t2, t3⟩, -⟩ := cls_4 hb'
    exact bodyPost_ret (v := .agg #[.int .i64 2, .int .i64 (q : Int), .int .i64 age, .slice none 0 0]) (by simp [results, Tryz.results15, go_sem, t0, t1, t2, t3]) rfl ⟨_, ⟨2, (q : Int), age, []⟩, rfl, rfl, ⟨.slice none 0 0, [], [], rfl, ⟨rfl, show (Lit.int .i64 (q : Int)).wf = true from wf_i64 (by omega) (by omega), show (Lit.int .i64 age).wf = true from wf_i64 (by omega) (by omega)⟩, Grow.nil _ _ _ _⟩, ho', hc'⟩
  · go_wp2_with fail
    refine (below_any w2 B a len cap z 3 (by decide) (by decide) hc2).mono ?_
    rintro e w3 ⟨q, hq, rfl, ho3, hc3⟩
    have lf3 := lf2.call ho3
    clear lf2 hc2 ho3
    have q0 := lf3.cell 0 rfl
    have q1 := lf3.cell 1 rfl
    have q2 := lf3.cell 2 rfl
    have q3 := lf3.cell 3 rfl
    have s0 := lf3.frozen 0
    have s1 := lf3.frozen 1
    have s2 := lf3.frozen 2
    have s3 := lf3.frozen 3
    have HFIN := Lib.hid (fin4 lf3 hc3 hBF (.int .i64 2) (.int .i64 (q : Int)) (.int .i64 age) (.slice none 0 0))
    clear lf3 hc3
    go_wp2
    have hfin := HFIN.out
    generalize ((((w3.setCell ⟨w.heap.size, 0, none⟩ (.int .i64 2)).setCell ⟨w.heap.size, 1, none⟩ (.int .i64 (q : Int))).setCell ⟨w.heap.size, 2, none⟩ (.int .i64 age)).setCell ⟨w.heap.size, 3, none⟩ (.slice none 0 0)) = WF at hfin ⊢
    obtain ⟨ho', hc', hb'⟩ := hfin
    obtain ⟨⟨t0, t1, t2, t3⟩, -⟩ := cls_4 hb'
    exact bodyPost_ret (v := .agg #[.int .i64 2, .int .i64 (q : Int), .int .i64 age, .slice none 0 0]) (by simp [results, Tryz.results15, go_sem, t0, t1, t2, t3]) rfl ⟨_, ⟨2, (q : Int), age, []⟩, rfl, rfl, ⟨.slice none 0 0, [], [], rfl, ⟨rfl, show (Lit.int .i64 (q : Int)).wf = true from wf_i64 (by omega) (by omega), show (Lit.int .i64 age).wf = true from wf_i64 (by omega) (by omega)⟩, Grow.nil _ _ _ _⟩, ho', hc'⟩
  · have q0 := lf2.cell 0 rfl
    have q1 := lf2.cell 1 rfl
    have q2 := lf2.cell 2 rfl
    have q3 := lf2.cell 3 rfl
    have s0 := lf2.frozen 0
    have s1 := lf2.frozen 1
    have s2 := lf2.frozen 2
    have s3 := lf2.frozen 3
    have HFIN := Lib.hid (fin4 lf2 hc2 hBF (.int .i64 3) (.int .i64 0) (.int .i64 age) (.slice none 0 0))
    clear lf2 hc2
    go_wp2
    have hfin := HFIN.out
    generalize ((((w2.setCell ⟨w.heap.size, 0, none⟩ (.int .i64 3)).setCell ⟨w.heap.size, 1, none⟩ (.int .i64 0)).setCell ⟨w.heap.size, 2, none⟩ (.int .i64 age)).setCell ⟨w.heap.size, 3, none⟩ (.slice none 0 0)) = WF at hfin ⊢
    obtain ⟨ho', hc', hb'⟩ := hfin
    obtain ⟨⟨t0, t1, t2, t3⟩, -⟩ := cls_4 hb'
    exact bodyPost_ret (v := .agg #[.int .i64 3, .int .i64 0, .int .i64 age, .slice none 0 0]) (by simp [results, Tryz.results15, go_sem, t0, t1, t2, t3]) rfl ⟨_, ⟨3, 0, age, []⟩, rfl, rfl, ⟨.slice none 0 0, [], [], rfl, ⟨rfl, rfl, show (Lit.int .i64 age).wf = true from wf_i64 (by omega) (by omega)⟩, Grow.nil _ _ _ _⟩, ho', hc'⟩
  · go_wp2_with fail
    refine (below_any w2 B a len cap z 3 (by decide) (by decide) hc2).mono ?_
    rintro e w3 ⟨q, hq, rfl, ho3, hc3⟩
    have lf3 := lf2.call ho3
    clear lf2 hc2 ho3
    have q0 := lf3.cell 0 rfl
    have q1 := lf3.cell 1 rfl
    have q2 := lf3.cell 2 rfl
    have q3 := lf3.cell 3 rfl
    have s0 := lf3.frozen 0
    have s1 := lf3.frozen 1
    have s2 := lf3.frozen 2
    have s3 := lf3.frozen 3
    have HFIN := Lib.hid (fin4 lf3 hc3 hBF (.int .i64 4) (.int .i64 (1 + (q : Int))) (.int .i64 age) (.slice none 0 0))
    clear lf3 hc3
    go_wp2
    have hfin := HFIN.out
    generalize ((((w3.setCell ⟨w.heap.size, 0, none⟩ (.int .i64 4)).setCell ⟨w.heap.size, 1, none⟩ (.int .i64 (1 + (q : Int)))).setCell ⟨w.heap.size, 2, none⟩ (.int .i64 age)).setCell ⟨w.heap.size, 3, none⟩ (.slice none 0 0)) = WF at hfin ⊢
    obtain ⟨ho', hc', hb'⟩ := hfin
    obtain ⟨⟨t0, t1, t2, t3⟩, -⟩ := cls_4 hb'
    exact bodyPost_ret (v := .agg #[.int .i64 4, .int .i64 (1 + (q : Int)), .int .i64 age, .slice none 0 0]) (by simp [results, Tryz.results15, go_sem, t0, t1, t2, t3]) rfl ⟨_, ⟨4, (1 + (q : Int)), age, []⟩, rfl, rfl, ⟨.slice none 0 0, [], [], rfl, ⟨rfl, show (Lit.int .i64 (1 + (q : Int))).wf = true from wf_i64 (by omega) (by omega), show (Lit.int .i64 age).wf = true from wf_i64 (by omega) (by omega)⟩, Grow.nil _ _ _ _⟩, ho', hc'⟩
  · go_wp2_with fail
    refine (below_any w2 B a len cap z 2 (by decide) (by decide) hc2).mono ?_
    rintro e w3 ⟨q, hq, rfl, ho3, hc3⟩
    have lf3 := lf2.call ho3
    clear lf2 hc2 ho3
    have q0 := lf3.cell 0 rfl
    have q1 := lf3.cell 1 rfl
    have q2 := lf3.cell 2 rfl
    have q3 := lf3.cell 3 rfl
    have s0 := lf3.frozen 0
    have s1 := lf3.frozen 1
    have s2 := lf3.frozen 2
    have s3 := lf3.frozen 3
    have HFIN := Lib.hid (fin4 lf3 hc3 hBF (.int .i64 5) (.int .i64 (1 + (q : Int))) (.int .i64 age) (.slice none 0 0))
    clear lf3 hc3
    go_wp2
    have hfin := HFIN.out
    generalize ((((w3.setCell ⟨w.heap.size, 0, none⟩ (.int .i64 5)).setCell ⟨w.heap.size, 1, none⟩ (.int .i64 (1 + (q : Int)))).setCell ⟨w.heap.size, 2, none⟩ (.int .i64 age)).setCell ⟨w.heap.size, 3, none⟩ (.slice none 0 0)) = WF at hfin ⊢
    obtain ⟨ho', hc', hb'⟩ := hfin
    obtain ⟨⟨t0, t1, t2, t3⟩, -⟩ := cls_4 hb'
    exact bodyPost_ret (v := .agg #[.int .i64 5, .int .i64 (1 + (q : Int)), .int .i64 age, .slice none 0 0]) (by simp [results, Tryz.results15, go_sem, t0, t1, t2, t3]) rfl ⟨_, ⟨5, (1 + (q : Int)), age, []⟩, rfl, rfl, ⟨.slice none 0 0, [], [], rfl, ⟨rfl, show (Lit.int .i64 (1 + (q : Int))).wf = true from wf_i64 (by omega) (by omega), show (Lit.int .i64 age).wf = true from wf_i64 (by omega) (by omega)⟩, Grow.nil _ _ _ _⟩, ho', hc'⟩
  · go_wp2_with fail
    refine (int_any _ B a len cap z _ 3 _ (by decide) (by decide) (ints_lit w2 B hc2.lt _ _ _ (by decide)) (hc2.alloc _)).mono ?_
    rintro e w3 ⟨q, hq0, hq1, rfl, ho3, hc3⟩
    have lf3 := (lf2.alloc _).call ho3
    clear lf2 hc2 ho3
    have q0 := lf3.cell 0 rfl
    have q1 := lf3.cell 1 rfl
    have q2 := lf3.cell 2 rfl
    have q3 := lf3.cell 3 rfl
    have s0 := lf3.frozen 0
    have s1 := lf3.frozen 1
    have s2 := lf3.frozen 2
    have s3 := lf3.frozen 3
    have HFIN := Lib.hid (fin4 lf3 hc3 hBF (.int .i64 6) (.int .i64 q) (.int .i64 0) (.slice none 0 0))
    clear lf3 hc3
    go_wp2
    have hfin := HFIN.out
    generalize ((((w3.setCell ⟨w.heap.size, 0, none⟩ (.int .i64 6)).setCell ⟨w.heap.size, 1, none⟩ (.int .i64 q)).setCell ⟨w.heap.size, 2, none⟩ (.int .i64 0)).setCell ⟨w.heap.size, 3, none⟩ (.slice none 0 0)) = WF at hfin ⊢
    obtain ⟨ho', hc', hb'⟩ := hfin
    obtain ⟨⟨t0, t1, t2, t3⟩, -⟩ := cls_4 hb'
    exact bodyPost_ret (v := .agg #[.int .i64 6, .int .i64 q, .int .i64 0, .slice none 0 0]) (by simp [results, Tryz.results15, go_sem, t0, t1, t2, t3]) rfl ⟨_, ⟨6, q, 0, []⟩, rfl, rfl, ⟨.slice none 0 0, [], [], rfl, ⟨rfl, show (Lit.int .i64 q).wf = true from wf_i64 (by omega) (by omega), rfl⟩, Grow.nil _ _ _ _⟩, ho', hc'⟩
end Go.Proofs.YtmgigjpkpeamjaaGreat
