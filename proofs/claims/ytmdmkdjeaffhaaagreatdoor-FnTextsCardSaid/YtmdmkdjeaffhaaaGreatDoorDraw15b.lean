/- The draws of chapter 15 (conditions): conditions of a depth. No condition but what came in. Written by tools/cond15.py. -/
import Derived.Test.YtmdmkdjeaffhaaaGreatDoorDraw15
namespace Go.Proofs.YtmdmkdjeaffhaaaGreatDoor
open Go.ChangeShapes Go.WideShapes Go.ChangeAt Go.RowKit
set_option linter.unusedVariables false

def bdC : Nat → Int
  | 0 => 1
  | n + 1 => 2 * bdC n + 1
theorem bdC_le : ∀ n : Nat, n ≤ 2 → 1 ≤ bdC n ∧ bdC n ≤ 7
  | 0, _ => by unfold bdC; omega
  | 1, _ => by unfold bdC bdC; omega
  | 2, _ => by unfold bdC bdC bdC; omega
  | n + 3, h => by omega
theorem leaf_size {x : CondD} (h : x.Args = []) : sizeD x = 1 := by
  obtain ⟨o, a, b, es⟩ := x
  obtain rfl : es = [] := h
  rw [sizeD_mk, List.flatMap_nil, szE_nil]
  rfl
theorem CondOwn.far {L F : Nat} {w : World} {u : Value} {x : CondD} (h : CondOwn L w u x) (hF : F < L) (i : Nat) (r : Value) : CondOwn L (w.setCell ⟨F, i, none⟩ r) u x := h.keep fun k h1 _ => Below.heap_setCell w ⟨F, i, none⟩ r k (by show k ≠ F; omega)
theorem fin5 {w0 wl : World} {B F L : Nat} {T : TypeId} {a : Option Addr} {len cap : Nat} {z : List Int} {z0 z1 z2 z3 : Value} {u : Value} {x : CondD} (lf : Loc w0 B F T #[z0, z1, z2, z3] wl) (hc : Cur wl B a len cap z) (hBF : B < F) (hu : CondOwn L wl u x) (hL : F < L) (r0 r1 r2 r3 : Value) :
    (Only B w0 ((((wl.setCell ⟨F, 0, none⟩ r0).setCell ⟨F, 1, none⟩ r1).setCell ⟨F, 2, none⟩ r2).setCell ⟨F, 3, none⟩ r3) ∧ Cur ((((wl.setCell ⟨F, 0, none⟩ r0).setCell ⟨F, 1, none⟩ r1).setCell ⟨F, 2, none⟩ r2).setCell ⟨F, 3, none⟩ r3) B a len cap z ∧ ((((wl.setCell ⟨F, 0, none⟩ r0).setCell ⟨F, 1, none⟩ r1).setCell ⟨F, 2, none⟩ r2).setCell ⟨F, 3, none⟩ r3).heap[F]? = some (.cells #[r0, r1, r2, r3] T)) ∧
    CondOwn L ((((wl.setCell ⟨F, 0, none⟩ r0).setCell ⟨F, 1, none⟩ r1).setCell ⟨F, 2, none⟩ r2).setCell ⟨F, 3, none⟩ r3) u x :=
  ⟨fin4 lf hc hBF r0 r1 r2 r3, (((hu.far hL 0 r0).far hL 1 r1).far hL 2 r2).far hL 3 r3⟩
theorem own_not {L : Nat} {w : World} {v : Value} {us : List Value} {f : List Nat} {x : CondD} (h : Grow 27 4 w L v 1 (CondD.c x) us f) : CondOwn L w (.agg #[.int .i64 7, .int .i64 0, .int .i64 0, v]) (notD x) :=
  ⟨v, us, f, rfl, ⟨rfl, rfl, rfl⟩, by show Grow _ 4 w L v 1 ([x].flatMap CondD.c) us f; rw [flat1]; exact h⟩
theorem own_two {L : Nat} {w : World} {v : Value} {us : List Value} {f : List Nat} {o : Int} {x y : CondD} (ho : (Lit.int .i64 o).wf = true) (h : Grow 27 4 w L v 2 (CondD.c x ++ CondD.c y) us f) : CondOwn L w (.agg #[.int .i64 o, .int .i64 0, .int .i64 0, v]) (twoD o x y) :=
  ⟨v, us, f, rfl, ⟨ho, rfl, rfl⟩, by show Grow _ 4 w L v 2 ([x, y].flatMap CondD.c) us f; rw [flat2]; exact h⟩
theorem far4 {w : World} {F g : Nat} {o : Obj} (hne : g ≠ F) (h : w.heap[g]? = some o) (r0 r1 r2 r3 : Value) : ((((w.setCell ⟨F, 0, none⟩ r0).setCell ⟨F, 1, none⟩ r1).setCell ⟨F, 2, none⟩ r2).setCell ⟨F, 3, none⟩ r3).heap[g]? = some o :=
  (Below.heap_setCell _ ⟨F, 3, none⟩ r3 g hne).trans ((Below.heap_setCell _ ⟨F, 2, none⟩ r2 g hne).trans ((Below.heap_setCell _ ⟨F, 1, none⟩ r1 g hne).trans ((Below.heap_setCell _ ⟨F, 0, none⟩ r0 g hne).trans h)))
theorem two_le {o b1 b2 : Int} {x y : CondD} (h1 : sizeD x ≤ b1) (h2 : sizeD y ≤ b1) (h : b2 = 2 * b1 + 1) : sizeD (twoD o x y) ≤ b2 := by rw [twoD_size]; omega
theorem agg_same {p q r : Int} {A A' : Option Addr} {n c c' : Nat} (h : Value.agg #[.int .i64 p, .int .i64 q, .int .i64 r, .slice A n c] = .agg #[.int .i64 p, .int .i64 q, .int .i64 r, .slice A' n c']) : A' = A ∧ c' = c := by
  simp at h
  exact ⟨h.1.symm, h.2.symm⟩
theorem agg_last {p q r : Int} {A : Option Addr} {n c : Nat} {v : Value} (h : Value.agg #[.int .i64 p, .int .i64 q, .int .i64 r, v] = .agg #[.int .i64 p, .int .i64 q, .int .i64 r, .slice A n c]) : v = .slice A n c := by
  simp at h
  exact h
set_option maxHeartbeats 8000000 in
set_option maxRecDepth 100000 in
theorem cond_any (B : Nat) (a : Option Addr) (len cap : Nat) (z : List Int) : ∀ (d : Nat) (w : World), d ≤ 2 → Cur w B a len cap z →
    Calls Tryz.prog 28 #[.pointer (some ⟨B, 0, none⟩), .int .i64 (d : Int)] w fun e w' => ∃ (u : Value) (x : CondD), e = .returned u ∧ CondOwn w.heap.size w' u x ∧ sizeD x ≤ bdC d ∧ Only B w w' ∧ Cur w' B a len cap z
  | 0, w, hd, hc => by
    have hBF := hc.lt
    have lf0 : Loc w B w.heap.size 27 #[.int .i64 0, .int .i64 0, .int .i64 0, .slice none 0 0] (w.alloc (.cells #[.int .i64 0, .int .i64 0, .int .i64 0, .slice none 0 0] 27)) := Loc.mk_new (Only.refl B w) hc.lt
    have hc0 := hc.alloc (.cells #[.int .i64 0, .int .i64 0, .int .i64 0, .slice none 0 0] 27)
    obtain ⟨w0, hw0⟩ : ∃ W, W = w.alloc (.cells #[.int .i64 0, .int .i64 0, .int .i64 0, .slice none 0 0] 27) := ⟨_, rfl⟩
    have hs0 : w0.heap.size = w.heap.size + 1 := by rw [hw0]; simp
    rw [← hw0] at lf0 hc0
    clear hc
    go_enter Tryz.func28, Tryz.ntmps28
    go_upto_region 1 with fail
    rw [← hw0]
    clear hw0
    have lf1 := lf0
    have hc1 := hc0
    obtain ⟨w1, hw1⟩ : ∃ W, W = w0 := ⟨_, rfl⟩
    rw [← hw1] at lf1 hc1 hs0 ⊢
    clear lf0 hc0 hw1
    go_wp2_with fail
    refine (leaf_any w1 B a len cap z hc1).mono ?_
    rintro e w2 ⟨u, x, rfl, hx, hco, ho2, hc2⟩
    obtain ⟨uA, uc, rfl, -⟩ := hco.read
    have lf2 := lf1.call ho2
    have HX := Lib.hid hx
    clear lf1 hc1 ho2 hx
    have q0 := lf2.cell 0 rfl
    have q1 := lf2.cell 1 rfl
    have q2 := lf2.cell 2 rfl
    have q3 := lf2.cell 3 rfl
    have s0 := lf2.frozen 0
    have s1 := lf2.frozen 1
    have s2 := lf2.frozen 2
    have s3 := lf2.frozen 3
    have HFIN := Lib.hid (fin5 lf2 hc2 hBF hco (by omega) (.int .i64 x.Op) (.int .i64 x.A) (.int .i64 x.B) (.slice uA x.Args.length uc))
    clear lf2 hc2 hco
    go_wp2
    have hfin := HFIN.out
    generalize ((((w2.setCell ⟨w.heap.size, 0, none⟩ (.int .i64 x.Op)).setCell ⟨w.heap.size, 1, none⟩ (.int .i64 x.A)).setCell ⟨w.heap.size, 2, none⟩ (.int .i64 x.B)).setCell ⟨w.heap.size, 3, none⟩ (.slice uA x.Args.length uc)) = WF at hfin ⊢
    obtain ⟨⟨ho', hc', hb'⟩, hco'⟩ := hfin
    obtain ⟨⟨t0, t1, t2, t3⟩, -⟩ := cls_4 hb'
    exact bodyPost_ret (v := .agg #[.int .i64 x.Op, .int .i64 x.A, .int .i64 x.B, .slice uA x.Args.length uc]) (by simp [results, Tryz.results28, go_sem, t0, t1, t2, t3]) rfl ⟨_, x, rfl, hco'.wide (by omega), (by have := leaf_size HX.out; have := (bdC_le 0 hd).1; omega), ho', hc'⟩
  | d + 1, w, hd, hc => by
    have IH := Lib.hid (fun (W : World) (h : Cur W B a len cap z) => cond_any B a len cap z d W (by omega) h)
    have hbd : bdC (d + 1) = 2 * bdC d + 1 := rfl
    have hb1 := bdC_le d (by omega)
    have hlt : ¬ (((d + 1 : Nat) : Int) < 1) := by omega
    have hsub : IntKind.i64.wrap (((d + 1 : Nat) : Int) - 1) = (d : Int) := by rw [IntKind.wrap_i64]; omega
    generalize bdC (d + 1) = b2 at hbd
    generalize bdC d = b1 at hbd hb1 IH
    obtain ⟨dn, hdn⟩ : ∃ dn : Int, ((d + 1 : Nat) : Int) = dn := ⟨_, rfl⟩
    obtain ⟨dm, hdm⟩ : ∃ dm : Int, (d : Int) = dm := ⟨_, rfl⟩
    have hd0 : dn = dm + 1 := by omega
    have hdm0 : 0 ≤ dm ∧ dm ≤ 1 := by omega
    rw [hdn] at hlt ⊢
    rw [hdm] at IH
    clear hsub hdn hdm
    subst hd0
    have hwr : IntKind.i64.wrap dm = dm := by rw [IntKind.wrap_i64]; omega
    have hBF := hc.lt
    have lf0 : Loc w B w.heap.size 27 #[.int .i64 0, .int .i64 0, .int .i64 0, .slice none 0 0] (w.alloc (.cells #[.int .i64 0, .int .i64 0, .int .i64 0, .slice none 0 0] 27)) := Loc.mk_new (Only.refl B w) hc.lt
    have hc0 := hc.alloc (.cells #[.int .i64 0, .int .i64 0, .int .i64 0, .slice none 0 0] 27)
    obtain ⟨w0, hw0⟩ : ∃ W, W = w.alloc (.cells #[.int .i64 0, .int .i64 0, .int .i64 0, .slice none 0 0] 27) := ⟨_, rfl⟩
    have hs0 : w0.heap.size = w.heap.size + 1 := by rw [hw0]; simp
    rw [← hw0] at lf0 hc0
    clear hc
    go_enter Tryz.func28, Tryz.ntmps28
    go_upto_region 1 with fail
    rw [← hw0]
    clear hw0
    go_wp2_with fail
    refine (once_any w0 B a len cap z 3 (by decide) (by decide) hc0).mono ?_
    rintro e w1 ⟨q, rfl, ho1, hc1⟩
    have lf1 := lf0.call ho1
    have hs1 : w.heap.size + 1 ≤ w1.heap.size := by have := ho1.size; omega
    clear lf0 hc0 ho1 hs0
    cases q
    · go_wp2_with fail
      refine (below_any w1 B a len cap z 5 (by decide) (by decide) hc1).mono ?_
      rintro e w2 ⟨n, hn, rfl, ho2, hc2⟩
      have lf2 := lf1.call ho2
      have hs2 : w.heap.size + 1 ≤ w2.heap.size := by have := ho2.size; omega
      have hn0 : (0 : Int) ≤ (n : Int) := by omega
      clear lf1 hc1 ho2 hs1
      generalize (n : Int) = ni at hn hn0
      rcases (by omega : ni = 0 ∨ ni = 1 ∨ ni = 2 ∨ ni = 3 ∨ ni = 4) with rfl | rfl | rfl | rfl | rfl
      all_goals
        clear hn hn0
        go_wp2_with fail
        refine (IH.out w2 hc2).mono ?_
        rintro e w3 ⟨u1, x1, rfl, hco1, hsz1, ho3, hc3⟩
        obtain ⟨A1, c1, rfl, hr1⟩ := hco1.read
        have lf3 := lf2.call ho3
        have hs3 : w.heap.size + 1 ≤ w3.heap.size := by have := ho3.size; omega
        clear lf2 hc2
      · go_wp2_with fail
        refine (spec_condNotG w3 w3.heap.size x1 _ hr1 (Nat.le_refl _) (by omega)).mono ?_
        rintro e w4 ⟨v, us, f, rfl, hg, b4⟩
        have hco := own_not hg
        obtain ⟨uA, uc, e9, -⟩ := hco.read
        obtain rfl : v = .slice uA (notD x1).Args.length uc := agg_last e9
        have lf4 := lf3.call (Below.only b4)
        have hc4 := hc3.only b4
        have hsz : sizeD (notD x1) ≤ b2 := by rw [notD_size]; omega
        obtain ⟨x, hx⟩ : ∃ x, notD x1 = x := ⟨_, rfl⟩
        rw [hx] at hco hsz
        rw [hx]
        clear hg hr1 hco1 lf3 hc3 hx
        have q0 := lf4.cell 0 rfl
        have q1 := lf4.cell 1 rfl
        have q2 := lf4.cell 2 rfl
        have q3 := lf4.cell 3 rfl
        have s0 := lf4.frozen 0
        have s1 := lf4.frozen 1
        have s2 := lf4.frozen 2
        have s3 := lf4.frozen 3
        have HFIN := Lib.hid (fin5 lf4 hc4 hBF hco (by omega) (.int .i64 7) (.int .i64 0) (.int .i64 0) (.slice uA x.Args.length uc))
        clear lf4 hc4 hco
        go_wp2
        have hfin := HFIN.out
        generalize ((((w4.setCell ⟨w.heap.size, 0, none⟩ (.int .i64 7)).setCell ⟨w.heap.size, 1, none⟩ (.int .i64 0)).setCell ⟨w.heap.size, 2, none⟩ (.int .i64 0)).setCell ⟨w.heap.size, 3, none⟩ (.slice uA x.Args.length uc)) = WF at hfin ⊢
        obtain ⟨⟨ho', hc', hb'⟩, hco'⟩ := hfin
        obtain ⟨⟨t0, t1, t2, t3⟩, -⟩ := cls_4 hb'
        exact bodyPost_ret (v := .agg #[.int .i64 7, .int .i64 0, .int .i64 0, .slice uA x.Args.length uc]) (by simp [results, Tryz.results28, go_sem, t0, t1, t2, t3]) rfl ⟨_, x, rfl, hco'.wide (by omega), hsz, ho', hc'⟩
      · have hB2 : B < w2.heap.size := by omega
        have lb : Loc w3 B w3.heap.size 27 #[.int .i64 x1.Op, .int .i64 x1.A, .int .i64 x1.B, .slice A1 x1.Args.length c1] (w3.alloc (.cells #[.int .i64 x1.Op, .int .i64 x1.A, .int .i64 x1.B, .slice A1 x1.Args.length c1] 27)) := Loc.mk_new (Only.refl B w3) hc3.lt
        have lfV := lf3.alloc (.cells #[.int .i64 x1.Op, .int .i64 x1.A, .int .i64 x1.B, .slice A1 x1.Args.length c1] 27)
        have hcV := hc3.alloc (.cells #[.int .i64 x1.Op, .int .i64 x1.A, .int .i64 x1.B, .slice A1 x1.Args.length c1] 27)
        have coV := hco1.only ((Only.refl B w3).alloc (.cells #[.int .i64 x1.Op, .int .i64 x1.A, .int .i64 x1.B, .slice A1 x1.Args.length c1] 27)) hB2
        obtain ⟨V, hV⟩ : ∃ V, V = w3.alloc (.cells #[.int .i64 x1.Op, .int .i64 x1.A, .int .i64 x1.B, .slice A1 x1.Args.length c1] 27) := ⟨_, rfl⟩
        rw [← hV] at lb lfV hcV coV
        clear hr1 hco1 lf3 hc3
        go_upto_region 9 with fail
        rw [← hV]
        clear hV
        have lbD := lb.drew
        have lfD := lfV.drew
        have hcD : Cur V.drew B a len cap z := hcV.drewN 1
        have coD : CondOwn w2.heap.size V.drew _ x1 := coV.keep (fun _ _ _ => rfl)
        have CT := Lib.hid (fun (W : World) (y : CondD) (us vs : List Value) (h1 : rdL W W.heap.size (CondD.c x1) us) (h2 : rdL W W.heap.size (CondD.c y) vs) (hy : sizeD y ≤ b1) => spec_condAndG W W.heap.size x1 us y vs h1 h2 (Nat.le_refl _) (by omega) (by omega))
        clear lb lfV hcV coV
        refine wp_region_held_drew (S := fun uu => uu.cell? ⟨w3.heap.size, 0, none⟩ = some (.int .i64 x1.Op) ∧ uu.cell? ⟨w3.heap.size, 1, none⟩ = some (.int .i64 x1.A) ∧ uu.cell? ⟨w3.heap.size, 2, none⟩ = some (.int .i64 x1.B) ∧ uu.cell? ⟨w3.heap.size, 3, none⟩ = some (.slice A1 x1.Args.length c1)) (by kernel_rfl) (⟨lbD.cell 0 rfl, lbD.cell 1 rfl, lbD.cell 2 rfl, lbD.cell 3 rfl⟩) (fun hHeld => ?_)
        refine wpAnyH_take (i := 0) (oi := ⟨some 31, _, _, _, _, _⟩) (v := ?_) rfl (by kernel_rfl) (by kernel_rfl) (by kernel_rfl) (fun _ _ _ h => h) (Or.inl ⟨by rfl, ?_⟩) (by assumption) ?_
        rotate_left
        · intro w hSw; (try dsimp only at hSw); go_simp <;> (with_reducible rfl)
        (try simp only [Act.put, List.setIfInBounds_toArray, List.set_cons_zero, List.set_cons_succ])
        refine wpAnyH_take (i := 1) (oi := ⟨some 32, _, _, _, _, _⟩) (v := ?_) rfl (by kernel_rfl) (by kernel_rfl) (by kernel_rfl) (fun _ _ _ h => h) (Or.inl ⟨by rfl, ?_⟩) (by assumption) ?_
        rotate_left
        · intro w hSw; (try dsimp only at hSw); go_simp <;> (with_reducible rfl)
        (try simp only [Act.put, List.setIfInBounds_toArray, List.set_cons_zero, List.set_cons_succ])
        refine wpAnyH_take (i := 2) (oi := ⟨some 33, _, _, _, _, _⟩) (v := ?_) rfl (by kernel_rfl) (by kernel_rfl) (by kernel_rfl) (fun _ _ _ h => h) (Or.inl ⟨by rfl, ?_⟩) (by assumption) ?_
        rotate_left
        · intro w hSw; (try dsimp only at hSw); go_simp <;> (with_reducible rfl)
        (try simp only [Act.put, List.setIfInBounds_toArray, List.set_cons_zero, List.set_cons_succ])
        refine wpAnyH_take (i := 3) (oi := ⟨some 34, _, _, _, _, _⟩) (v := ?_) rfl (by kernel_rfl) (by kernel_rfl) (by kernel_rfl) (fun _ _ _ h => h) (Or.inl ⟨by rfl, ?_⟩) (by assumption) ?_
        rotate_left
        · intro w hSw; (try dsimp only at hSw); go_simp <;> (with_reducible rfl)
        (try simp only [Act.put, List.setIfInBounds_toArray, List.set_cons_zero, List.set_cons_succ])
        refine wpAnyH_ready (rs := [4]) (by kernel_rfl) (by simp) ?_
        refine AllReadyH.cons (o := ⟨some 35, _, _, _, _, _⟩) rfl (fun K hK => ?_) AllReadyH.nil
        go_simp
        (with_reducible refine (IH.out _ hcD).mono ?_)
        rintro e35 u35 ⟨y2, x2, rfl, hco2, hsz2, ho35, hc35⟩
        obtain ⟨A2, c2, rfl, hr2⟩ := hco2.read
        have lb35 := lbD.call ho35
        have lf35 := lfD.call ho35
        have co35 := coD.only ho35 hB2
        obtain ⟨A1', c1', e1, hr1'⟩ := co35.read
        obtain ⟨rfl, rfl⟩ := agg_same e1
        refine hK.out _ _ (⟨lb35.cell 0 rfl, lb35.cell 1 rfl, lb35.cell 2 rfl, lb35.cell 3 rfl⟩) (fun hHeld2 => ?_)
        clear hK K
        (try simp only [Act.put, List.setIfInBounds_toArray, List.set_cons_zero, List.set_cons_succ])
        refine wpAnyH_ready (rs := [5]) (by kernel_rfl) (by simp) ?_
        refine AllReadyH.cons (o := ⟨some 36, _, _, _, _, _⟩) rfl (fun K hK => ?_) AllReadyH.nil
        go_simp
        (with_reducible refine (CT.out _ x2 _ _ hr1' hr2 hsz2).mono ?_)
        rintro e36 u36 ⟨v, us, f, rfl, hg, b36⟩
        have hco := own_two (o := 8) rfl hg
        obtain ⟨uA, uc, e9, -⟩ := hco.read
        obtain rfl := agg_last e9
        have lb36 := lb35.call (Below.only b36)
        have lf36 := lf35.call (Below.only b36)
        have hc36 := hc35.only b36
        have hsz : sizeD (twoD 8 x1 x2) ≤ b2 := two_le hsz1 hsz2 hbd
        generalize twoD 8 x1 x2 = x at hco hsz ⊢
        have hsV := ho35.size
        refine hK.out _ _ (⟨lb36.cell 0 rfl, lb36.cell 1 rfl, lb36.cell 2 rfl, lb36.cell 3 rfl⟩) (fun hHeld2 => ?_)
        clear hK K
        (try simp only [Act.put, List.setIfInBounds_toArray, List.set_cons_zero, List.set_cons_succ])
        refine wpAnyH_ready (rs := [6]) (by kernel_rfl) (by simp) ?_
        refine AllReadyH.cons (o := ⟨none, _, _, _, _, _⟩) rfl (fun K hK => ?_) AllReadyH.nil
        have q0 := lf36.cell 0 rfl
        have q1 := lf36.cell 1 rfl
        have q2 := lf36.cell 2 rfl
        have q3 := lf36.cell 3 rfl
        have s0 := lf36.frozen 0
        have s1 := lf36.frozen 1
        have s2 := lf36.frozen 2
        have s3 := lf36.frozen 3
        have hne : w3.heap.size ≠ w.heap.size := Nat.ne_of_gt (by omega)
        have hf4 := far4 hne lb36.blk (.int .i64 8) (.int .i64 0) (.int .i64 0) (.slice uA x.Args.length uc)
        go_simp
        refine hK.out _ _ (⟨blk_cell hf4 0 rfl, blk_cell hf4 1 rfl, blk_cell hf4 2 rfl, blk_cell hf4 3 rfl⟩) (fun hHeld2 => ?_)
        clear hK K
        (try simp only [Act.put, List.setIfInBounds_toArray, List.set_cons_zero, List.set_cons_succ])
        refine wpAnyH_done (by kernel_rfl) ?_ _
        have hL : w.heap.size < u35.heap.size := by have := lb35.lt; omega
        have HFIN := Lib.hid (fin5 lf36 hc36 hBF hco hL (.int .i64 8) (.int .i64 0) (.int .i64 0) (.slice uA x.Args.length uc))
        clear lf36 hc36 hco q0 q1 q2 q3 s0 s1 s2 s3 hf4 lb36
        go_wp2
        have hfin := HFIN.out
        generalize ((((u36.setCell ⟨w.heap.size, 0, none⟩ (.int .i64 8)).setCell ⟨w.heap.size, 1, none⟩ (.int .i64 0)).setCell ⟨w.heap.size, 2, none⟩ (.int .i64 0)).setCell ⟨w.heap.size, 3, none⟩ (.slice uA x.Args.length uc)) = WF at hfin ⊢
        obtain ⟨⟨ho', hc', hb'⟩, hco'⟩ := hfin
        obtain ⟨⟨t0, t1, t2, t3⟩, -⟩ := cls_4 hb'
        exact bodyPost_ret (v := .agg #[.int .i64 8, .int .i64 0, .int .i64 0, .slice uA x.Args.length uc]) (by simp [results, Tryz.results28, go_sem, t0, t1, t2, t3]) rfl ⟨_, x, rfl, hco'.wide (by omega), hsz, ho', hc'⟩
      · have hB2 : B < w2.heap.size := by omega
        have lb : Loc w3 B w3.heap.size 27 #[.int .i64 x1.Op, .int .i64 x1.A, .int .i64 x1.B, .slice A1 x1.Args.length c1] (w3.alloc (.cells #[.int .i64 x1.Op, .int .i64 x1.A, .int .i64 x1.B, .slice A1 x1.Args.length c1] 27)) := Loc.mk_new (Only.refl B w3) hc3.lt
        have lfV := lf3.alloc (.cells #[.int .i64 x1.Op, .int .i64 x1.A, .int .i64 x1.B, .slice A1 x1.Args.length c1] 27)
        have hcV := hc3.alloc (.cells #[.int .i64 x1.Op, .int .i64 x1.A, .int .i64 x1.B, .slice A1 x1.Args.length c1] 27)
        have coV := hco1.only ((Only.refl B w3).alloc (.cells #[.int .i64 x1.Op, .int .i64 x1.A, .int .i64 x1.B, .slice A1 x1.Args.length c1] 27)) hB2
        obtain ⟨V, hV⟩ : ∃ V, V = w3.alloc (.cells #[.int .i64 x1.Op, .int .i64 x1.A, .int .i64 x1.B, .slice A1 x1.Args.length c1] 27) := ⟨_, rfl⟩
        rw [← hV] at lb lfV hcV coV
        clear hr1 hco1 lf3 hc3
        go_upto_region 9 with fail
        rw [← hV]
        clear hV
        have lbD := lb.drew
        have lfD := lfV.drew
        have hcD : Cur V.drew B a len cap z := hcV.drewN 1
        have coD : CondOwn w2.heap.size V.drew _ x1 := coV.keep (fun _ _ _ => rfl)
        have CT := Lib.hid (fun (W : World) (y : CondD) (us vs : List Value) (h1 : rdL W W.heap.size (CondD.c x1) us) (h2 : rdL W W.heap.size (CondD.c y) vs) (hy : sizeD y ≤ b1) => spec_condAndG W W.heap.size x1 us y vs h1 h2 (Nat.le_refl _) (by omega) (by omega))
        clear lb lfV hcV coV
        refine wp_region_held_drew (S := fun uu => uu.cell? ⟨w3.heap.size, 0, none⟩ = some (.int .i64 x1.Op) ∧ uu.cell? ⟨w3.heap.size, 1, none⟩ = some (.int .i64 x1.A) ∧ uu.cell? ⟨w3.heap.size, 2, none⟩ = some (.int .i64 x1.B) ∧ uu.cell? ⟨w3.heap.size, 3, none⟩ = some (.slice A1 x1.Args.length c1)) (by kernel_rfl) (⟨lbD.cell 0 rfl, lbD.cell 1 rfl, lbD.cell 2 rfl, lbD.cell 3 rfl⟩) (fun hHeld => ?_)
        refine wpAnyH_take (i := 0) (oi := ⟨some 31, _, _, _, _, _⟩) (v := ?_) rfl (by kernel_rfl) (by kernel_rfl) (by kernel_rfl) (fun _ _ _ h => h) (Or.inl ⟨by rfl, ?_⟩) (by assumption) ?_
        rotate_left
        · intro w hSw; (try dsimp only at hSw); go_simp <;> (with_reducible rfl)
        (try simp only [Act.put, List.setIfInBounds_toArray, List.set_cons_zero, List.set_cons_succ])
        refine wpAnyH_take (i := 1) (oi := ⟨some 32, _, _, _, _, _⟩) (v := ?_) rfl (by kernel_rfl) (by kernel_rfl) (by kernel_rfl) (fun _ _ _ h => h) (Or.inl ⟨by rfl, ?_⟩) (by assumption) ?_
        rotate_left
        · intro w hSw; (try dsimp only at hSw); go_simp <;> (with_reducible rfl)
        (try simp only [Act.put, List.setIfInBounds_toArray, List.set_cons_zero, List.set_cons_succ])
        refine wpAnyH_take (i := 2) (oi := ⟨some 33, _, _, _, _, _⟩) (v := ?_) rfl (by kernel_rfl) (by kernel_rfl) (by kernel_rfl) (fun _ _ _ h => h) (Or.inl ⟨by rfl, ?_⟩) (by assumption) ?_
        rotate_left
        · intro w hSw; (try dsimp only at hSw); go_simp <;> (with_reducible rfl)
        (try simp only [Act.put, List.setIfInBounds_toArray, List.set_cons_zero, List.set_cons_succ])
        refine wpAnyH_take (i := 3) (oi := ⟨some 34, _, _, _, _, _⟩) (v := ?_) rfl (by kernel_rfl) (by kernel_rfl) (by kernel_rfl) (fun _ _ _ h => h) (Or.inl ⟨by rfl, ?_⟩) (by assumption) ?_
        rotate_left
        · intro w hSw; (try dsimp only at hSw); go_simp <;> (with_reducible rfl)
        (try simp only [Act.put, List.setIfInBounds_toArray, List.set_cons_zero, List.set_cons_succ])
        refine wpAnyH_ready (rs := [4]) (by kernel_rfl) (by simp) ?_
        refine AllReadyH.cons (o := ⟨some 35, _, _, _, _, _⟩) rfl (fun K hK => ?_) AllReadyH.nil
        go_simp
        (with_reducible refine (IH.out _ hcD).mono ?_)
        rintro e35 u35 ⟨y2, x2, rfl, hco2, hsz2, ho35, hc35⟩
        obtain ⟨A2, c2, rfl, hr2⟩ := hco2.read
        have lb35 := lbD.call ho35
        have lf35 := lfD.call ho35
        have co35 := coD.only ho35 hB2
        obtain ⟨A1', c1', e1, hr1'⟩ := co35.read
        obtain ⟨rfl, rfl⟩ := agg_same e1
        refine hK.out _ _ (⟨lb35.cell 0 rfl, lb35.cell 1 rfl, lb35.cell 2 rfl, lb35.cell 3 rfl⟩) (fun hHeld2 => ?_)
        clear hK K
        (try simp only [Act.put, List.setIfInBounds_toArray, List.set_cons_zero, List.set_cons_succ])
        refine wpAnyH_ready (rs := [5]) (by kernel_rfl) (by simp) ?_
        refine AllReadyH.cons (o := ⟨some 36, _, _, _, _, _⟩) rfl (fun K hK => ?_) AllReadyH.nil
        go_simp
        (with_reducible refine (CT.out _ x2 _ _ hr1' hr2 hsz2).mono ?_)
        rintro e36 u36 ⟨v, us, f, rfl, hg, b36⟩
        have hco := own_two (o := 8) rfl hg
        obtain ⟨uA, uc, e9, -⟩ := hco.read
        obtain rfl := agg_last e9
        have lb36 := lb35.call (Below.only b36)
        have lf36 := lf35.call (Below.only b36)
        have hc36 := hc35.only b36
        have hsz : sizeD (twoD 8 x1 x2) ≤ b2 := two_le hsz1 hsz2 hbd
        generalize twoD 8 x1 x2 = x at hco hsz ⊢
        have hsV := ho35.size
        refine hK.out _ _ (⟨lb36.cell 0 rfl, lb36.cell 1 rfl, lb36.cell 2 rfl, lb36.cell 3 rfl⟩) (fun hHeld2 => ?_)
        clear hK K
        (try simp only [Act.put, List.setIfInBounds_toArray, List.set_cons_zero, List.set_cons_succ])
        refine wpAnyH_ready (rs := [6]) (by kernel_rfl) (by simp) ?_
        refine AllReadyH.cons (o := ⟨none, _, _, _, _, _⟩) rfl (fun K hK => ?_) AllReadyH.nil
        have q0 := lf36.cell 0 rfl
        have q1 := lf36.cell 1 rfl
        have q2 := lf36.cell 2 rfl
        have q3 := lf36.cell 3 rfl
        have s0 := lf36.frozen 0
        have s1 := lf36.frozen 1
        have s2 := lf36.frozen 2
        have s3 := lf36.frozen 3
        have hne : w3.heap.size ≠ w.heap.size := Nat.ne_of_gt (by omega)
        have hf4 := far4 hne lb36.blk (.int .i64 8) (.int .i64 0) (.int .i64 0) (.slice uA x.Args.length uc)
        go_simp
        refine hK.out _ _ (⟨blk_cell hf4 0 rfl, blk_cell hf4 1 rfl, blk_cell hf4 2 rfl, blk_cell hf4 3 rfl⟩) (fun hHeld2 => ?_)
        clear hK K
        (try simp only [Act.put, List.setIfInBounds_toArray, List.set_cons_zero, List.set_cons_succ])
        refine wpAnyH_done (by kernel_rfl) ?_ _
        have hL : w.heap.size < u35.heap.size := by have := lb35.lt; omega
        have HFIN := Lib.hid (fin5 lf36 hc36 hBF hco hL (.int .i64 8) (.int .i64 0) (.int .i64 0) (.slice uA x.Args.length uc))
        clear lf36 hc36 hco q0 q1 q2 q3 s0 s1 s2 s3 hf4 lb36
        go_wp2
        have hfin := HFIN.out
        generalize ((((u36.setCell ⟨w.heap.size, 0, none⟩ (.int .i64 8)).setCell ⟨w.heap.size, 1, none⟩ (.int .i64 0)).setCell ⟨w.heap.size, 2, none⟩ (.int .i64 0)).setCell ⟨w.heap.size, 3, none⟩ (.slice uA x.Args.length uc)) = WF at hfin ⊢
        obtain ⟨⟨ho', hc', hb'⟩, hco'⟩ := hfin
        obtain ⟨⟨t0, t1, t2, t3⟩, -⟩ := cls_4 hb'
        exact bodyPost_ret (v := .agg #[.int .i64 8, .int .i64 0, .int .i64 0, .slice uA x.Args.length uc]) (by simp [results, Tryz.results28, go_sem, t0, t1, t2, t3]) rfl ⟨_, x, rfl, hco'.wide (by omega), hsz, ho', hc'⟩
      · have hB2 : B < w2.heap.size := by omega
        have lb : Loc w3 B w3.heap.size 27 #[.int .i64 x1.Op, .int .i64 x1.A, .int .i64 x1.B, .slice A1 x1.Args.length c1] (w3.alloc (.cells #[.int .i64 x1.Op, .int .i64 x1.A, .int .i64 x1.B, .slice A1 x1.Args.length c1] 27)) := Loc.mk_new (Only.refl B w3) hc3.lt
        have lfV := lf3.alloc (.cells #[.int .i64 x1.Op, .int .i64 x1.A, .int .i64 x1.B, .slice A1 x1.Args.length c1] 27)
        have hcV := hc3.alloc (.cells #[.int .i64 x1.Op, .int .i64 x1.A, .int .i64 x1.B, .slice A1 x1.Args.length c1] 27)
        have coV := hco1.only ((Only.refl B w3).alloc (.cells #[.int .i64 x1.Op, .int .i64 x1.A, .int .i64 x1.B, .slice A1 x1.Args.length c1] 27)) hB2
        obtain ⟨V, hV⟩ : ∃ V, V = w3.alloc (.cells #[.int .i64 x1.Op, .int .i64 x1.A, .int .i64 x1.B, .slice A1 x1.Args.length c1] 27) := ⟨_, rfl⟩
        rw [← hV] at lb lfV hcV coV
        clear hr1 hco1 lf3 hc3
        go_upto_region 11 with fail
        rw [← hV]
        clear hV
        have lbD := lb.drew
        have lfD := lfV.drew
        have hcD : Cur V.drew B a len cap z := hcV.drewN 1
        have coD : CondOwn w2.heap.size V.drew _ x1 := coV.keep (fun _ _ _ => rfl)
        have CT := Lib.hid (fun (W : World) (y : CondD) (us vs : List Value) (h1 : rdL W W.heap.size (CondD.c x1) us) (h2 : rdL W W.heap.size (CondD.c y) vs) (hy : sizeD y ≤ b1) => spec_condOrG W W.heap.size x1 us y vs h1 h2 (Nat.le_refl _) (by omega) (by omega))
        clear lb lfV hcV coV
        refine wp_region_held_drew (S := fun uu => uu.cell? ⟨w3.heap.size, 0, none⟩ = some (.int .i64 x1.Op) ∧ uu.cell? ⟨w3.heap.size, 1, none⟩ = some (.int .i64 x1.A) ∧ uu.cell? ⟨w3.heap.size, 2, none⟩ = some (.int .i64 x1.B) ∧ uu.cell? ⟨w3.heap.size, 3, none⟩ = some (.slice A1 x1.Args.length c1)) (by kernel_rfl) (⟨lbD.cell 0 rfl, lbD.cell 1 rfl, lbD.cell 2 rfl, lbD.cell 3 rfl⟩) (fun hHeld => ?_)
        refine wpAnyH_take (i := 0) (oi := ⟨some 41, _, _, _, _, _⟩) (v := ?_) rfl (by kernel_rfl) (by kernel_rfl) (by kernel_rfl) (fun _ _ _ h => h) (Or.inl ⟨by rfl, ?_⟩) (by assumption) ?_
        rotate_left
        · intro w hSw; (try dsimp only at hSw); go_simp <;> (with_reducible rfl)
        (try simp only [Act.put, List.setIfInBounds_toArray, List.set_cons_zero, List.set_cons_succ])
        refine wpAnyH_take (i := 1) (oi := ⟨some 42, _, _, _, _, _⟩) (v := ?_) rfl (by kernel_rfl) (by kernel_rfl) (by kernel_rfl) (fun _ _ _ h => h) (Or.inl ⟨by rfl, ?_⟩) (by assumption) ?_
        rotate_left
        · intro w hSw; (try dsimp only at hSw); go_simp <;> (with_reducible rfl)
        (try simp only [Act.put, List.setIfInBounds_toArray, List.set_cons_zero, List.set_cons_succ])
        refine wpAnyH_take (i := 2) (oi := ⟨some 43, _, _, _, _, _⟩) (v := ?_) rfl (by kernel_rfl) (by kernel_rfl) (by kernel_rfl) (fun _ _ _ h => h) (Or.inl ⟨by rfl, ?_⟩) (by assumption) ?_
        rotate_left
        · intro w hSw; (try dsimp only at hSw); go_simp <;> (with_reducible rfl)
        (try simp only [Act.put, List.setIfInBounds_toArray, List.set_cons_zero, List.set_cons_succ])
        refine wpAnyH_take (i := 3) (oi := ⟨some 44, _, _, _, _, _⟩) (v := ?_) rfl (by kernel_rfl) (by kernel_rfl) (by kernel_rfl) (fun _ _ _ h => h) (Or.inl ⟨by rfl, ?_⟩) (by assumption) ?_
        rotate_left
        · intro w hSw; (try dsimp only at hSw); go_simp <;> (with_reducible rfl)
        (try simp only [Act.put, List.setIfInBounds_toArray, List.set_cons_zero, List.set_cons_succ])
        refine wpAnyH_ready (rs := [4]) (by kernel_rfl) (by simp) ?_
        refine AllReadyH.cons (o := ⟨some 45, _, _, _, _, _⟩) rfl (fun K hK => ?_) AllReadyH.nil
        go_simp
        (with_reducible refine (IH.out _ hcD).mono ?_)
        rintro e35 u35 ⟨y2, x2, rfl, hco2, hsz2, ho35, hc35⟩
        obtain ⟨A2, c2, rfl, hr2⟩ := hco2.read
        have lb35 := lbD.call ho35
        have lf35 := lfD.call ho35
        have co35 := coD.only ho35 hB2
        obtain ⟨A1', c1', e1, hr1'⟩ := co35.read
        obtain ⟨rfl, rfl⟩ := agg_same e1
        refine hK.out _ _ (⟨lb35.cell 0 rfl, lb35.cell 1 rfl, lb35.cell 2 rfl, lb35.cell 3 rfl⟩) (fun hHeld2 => ?_)
        clear hK K
        (try simp only [Act.put, List.setIfInBounds_toArray, List.set_cons_zero, List.set_cons_succ])
        refine wpAnyH_ready (rs := [5]) (by kernel_rfl) (by simp) ?_
        refine AllReadyH.cons (o := ⟨some 46, _, _, _, _, _⟩) rfl (fun K hK => ?_) AllReadyH.nil
        go_simp
        (with_reducible refine (CT.out _ x2 _ _ hr1' hr2 hsz2).mono ?_)
        rintro e36 u36 ⟨v, us, f, rfl, hg, b36⟩
        have hco := own_two (o := 9) rfl hg
        obtain ⟨uA, uc, e9, -⟩ := hco.read
        obtain rfl := agg_last e9
        have lb36 := lb35.call (Below.only b36)
        have lf36 := lf35.call (Below.only b36)
        have hc36 := hc35.only b36
        have hsz : sizeD (twoD 9 x1 x2) ≤ b2 := two_le hsz1 hsz2 hbd
        generalize twoD 9 x1 x2 = x at hco hsz ⊢
        have hsV := ho35.size
        refine hK.out _ _ (⟨lb36.cell 0 rfl, lb36.cell 1 rfl, lb36.cell 2 rfl, lb36.cell 3 rfl⟩) (fun hHeld2 => ?_)
        clear hK K
        (try simp only [Act.put, List.setIfInBounds_toArray, List.set_cons_zero, List.set_cons_succ])
        refine wpAnyH_ready (rs := [6]) (by kernel_rfl) (by simp) ?_
        refine AllReadyH.cons (o := ⟨none, _, _, _, _, _⟩) rfl (fun K hK => ?_) AllReadyH.nil
        have q0 := lf36.cell 0 rfl
        have q1 := lf36.cell 1 rfl
        have q2 := lf36.cell 2 rfl
        have q3 := lf36.cell 3 rfl
        have s0 := lf36.frozen 0
        have s1 := lf36.frozen 1
        have s2 := lf36.frozen 2
        have s3 := lf36.frozen 3
        have hne : w3.heap.size ≠ w.heap.size := Nat.ne_of_gt (by omega)
        have hf4 := far4 hne lb36.blk (.int .i64 9) (.int .i64 0) (.int .i64 0) (.slice uA x.Args.length uc)
        go_simp
        refine hK.out _ _ (⟨blk_cell hf4 0 rfl, blk_cell hf4 1 rfl, blk_cell hf4 2 rfl, blk_cell hf4 3 rfl⟩) (fun hHeld2 => ?_)
        clear hK K
        (try simp only [Act.put, List.setIfInBounds_toArray, List.set_cons_zero, List.set_cons_succ])
        refine wpAnyH_done (by kernel_rfl) ?_ _
        have hL : w.heap.size < u35.heap.size := by have := lb35.lt; omega
        have HFIN := Lib.hid (fin5 lf36 hc36 hBF hco hL (.int .i64 9) (.int .i64 0) (.int .i64 0) (.slice uA x.Args.length uc))
        clear lf36 hc36 hco q0 q1 q2 q3 s0 s1 s2 s3 hf4 lb36
        go_wp2
        have hfin := HFIN.out
        generalize ((((u36.setCell ⟨w.heap.size, 0, none⟩ (.int .i64 9)).setCell ⟨w.heap.size, 1, none⟩ (.int .i64 0)).setCell ⟨w.heap.size, 2, none⟩ (.int .i64 0)).setCell ⟨w.heap.size, 3, none⟩ (.slice uA x.Args.length uc)) = WF at hfin ⊢
        obtain ⟨⟨ho', hc', hb'⟩, hco'⟩ := hfin
        obtain ⟨⟨t0, t1, t2, t3⟩, -⟩ := cls_4 hb'
        exact bodyPost_ret (v := .agg #[.int .i64 9, .int .i64 0, .int .i64 0, .slice uA x.Args.length uc]) (by simp [results, Tryz.results28, go_sem, t0, t1, t2, t3]) rfl ⟨_, x, rfl, hco'.wide (by omega), hsz, ho', hc'⟩
      · have hB2 : B < w2.heap.size := by omega
        have lb : Loc w3 B w3.heap.size 27 #[.int .i64 x1.Op, .int .i64 x1.A, .int .i64 x1.B, .slice A1 x1.Args.length c1] (w3.alloc (.cells #[.int .i64 x1.Op, .int .i64 x1.A, .int .i64 x1.B, .slice A1 x1.Args.length c1] 27)) := Loc.mk_new (Only.refl B w3) hc3.lt
        have lfV := lf3.alloc (.cells #[.int .i64 x1.Op, .int .i64 x1.A, .int .i64 x1.B, .slice A1 x1.Args.length c1] 27)
        have hcV := hc3.alloc (.cells #[.int .i64 x1.Op, .int .i64 x1.A, .int .i64 x1.B, .slice A1 x1.Args.length c1] 27)
        have coV := hco1.only ((Only.refl B w3).alloc (.cells #[.int .i64 x1.Op, .int .i64 x1.A, .int .i64 x1.B, .slice A1 x1.Args.length c1] 27)) hB2
        obtain ⟨V, hV⟩ : ∃ V, V = w3.alloc (.cells #[.int .i64 x1.Op, .int .i64 x1.A, .int .i64 x1.B, .slice A1 x1.Args.length c1] 27) := ⟨_, rfl⟩
        rw [← hV] at lb lfV hcV coV
        clear hr1 hco1 lf3 hc3
        go_upto_region 11 with fail
        rw [← hV]
        clear hV
        have lbD := lb.drew
        have lfD := lfV.drew
        have hcD : Cur V.drew B a len cap z := hcV.drewN 1
        have coD : CondOwn w2.heap.size V.drew _ x1 := coV.keep (fun _ _ _ => rfl)
        have CT := Lib.hid (fun (W : World) (y : CondD) (us vs : List Value) (h1 : rdL W W.heap.size (CondD.c x1) us) (h2 : rdL W W.heap.size (CondD.c y) vs) (hy : sizeD y ≤ b1) => spec_condOrG W W.heap.size x1 us y vs h1 h2 (Nat.le_refl _) (by omega) (by omega))
        clear lb lfV hcV coV
        refine wp_region_held_drew (S := fun uu => uu.cell? ⟨w3.heap.size, 0, none⟩ = some (.int .i64 x1.Op) ∧ uu.cell? ⟨w3.heap.size, 1, none⟩ = some (.int .i64 x1.A) ∧ uu.cell? ⟨w3.heap.size, 2, none⟩ = some (.int .i64 x1.B) ∧ uu.cell? ⟨w3.heap.size, 3, none⟩ = some (.slice A1 x1.Args.length c1)) (by kernel_rfl) (⟨lbD.cell 0 rfl, lbD.cell 1 rfl, lbD.cell 2 rfl, lbD.cell 3 rfl⟩) (fun hHeld => ?_)
        refine wpAnyH_take (i := 0) (oi := ⟨some 41, _, _, _, _, _⟩) (v := ?_) rfl (by kernel_rfl) (by kernel_rfl) (by kernel_rfl) (fun _ _ _ h => h) (Or.inl ⟨by rfl, ?_⟩) (by assumption) ?_
        rotate_left
        · intro w hSw; (try dsimp only at hSw); go_simp <;> (with_reducible rfl)
        (try simp only [Act.put, List.setIfInBounds_toArray, List.set_cons_zero, List.set_cons_succ])
        refine wpAnyH_take (i := 1) (oi := ⟨some 42, _, _, _, _, _⟩) (v := ?_) rfl (by kernel_rfl) (by kernel_rfl) (by kernel_rfl) (fun _ _ _ h => h) (Or.inl ⟨by rfl, ?_⟩) (by assumption) ?_
        rotate_left
        · intro w hSw; (try dsimp only at hSw); go_simp <;> (with_reducible rfl)
        (try simp only [Act.put, List.setIfInBounds_toArray, List.set_cons_zero, List.set_cons_succ])
        refine wpAnyH_take (i := 2) (oi := ⟨some 43, _, _, _, _, _⟩) (v := ?_) rfl (by kernel_rfl) (by kernel_rfl) (by kernel_rfl) (fun _ _ _ h => h) (Or.inl ⟨by rfl, ?_⟩) (by assumption) ?_
        rotate_left
        · intro w hSw; (try dsimp only at hSw); go_simp <;> (with_reducible rfl)
        (try simp only [Act.put, List.setIfInBounds_toArray, List.set_cons_zero, List.set_cons_succ])
        refine wpAnyH_take (i := 3) (oi := ⟨some 44, _, _, _, _, _⟩) (v := ?_) rfl (by kernel_rfl) (by kernel_rfl) (by kernel_rfl) (fun _ _ _ h => h) (Or.inl ⟨by rfl, ?_⟩) (by assumption) ?_
        rotate_left
        · intro w hSw; (try dsimp only at hSw); go_simp <;> (with_reducible rfl)
        (try simp only [Act.put, List.setIfInBounds_toArray, List.set_cons_zero, List.set_cons_succ])
        refine wpAnyH_ready (rs := [4]) (by kernel_rfl) (by simp) ?_
        refine AllReadyH.cons (o := ⟨some 45, _, _, _, _, _⟩) rfl (fun K hK => ?_) AllReadyH.nil
        go_simp
        (with_reducible refine (IH.out _ hcD).mono ?_)
        rintro e35 u35 ⟨y2, x2, rfl, hco2, hsz2, ho35, hc35⟩
        obtain ⟨A2, c2, rfl, hr2⟩ := hco2.read
        have lb35 := lbD.call ho35
        have lf35 := lfD.call ho35
        have co35 := coD.only ho35 hB2
        obtain ⟨A1', c1', e1, hr1'⟩ := co35.read
        obtain ⟨rfl, rfl⟩ := agg_same e1
        refine hK.out _ _ (⟨lb35.cell 0 rfl, lb35.cell 1 rfl, lb35.cell 2 rfl, lb35.cell 3 rfl⟩) (fun hHeld2 => ?_)
        clear hK K
        (try simp only [Act.put, List.setIfInBounds_toArray, List.set_cons_zero, List.set_cons_succ])
        refine wpAnyH_ready (rs := [5]) (by kernel_rfl) (by simp) ?_
        refine AllReadyH.cons (o := ⟨some 46, _, _, _, _, _⟩) rfl (fun K hK => ?_) AllReadyH.nil
        go_simp
        (with_reducible refine (CT.out _ x2 _ _ hr1' hr2 hsz2).mono ?_)
        rintro e36 u36 ⟨v, us, f, rfl, hg, b36⟩
        have hco := own_two (o := 9) rfl hg
        obtain ⟨uA, uc, e9, -⟩ := hco.read
        obtain rfl := agg_last e9
        have lb36 := lb35.call (Below.only b36)
        have lf36 := lf35.call (Below.only b36)
        have hc36 := hc35.only b36
        have hsz : sizeD (twoD 9 x1 x2) ≤ b2 := two_le hsz1 hsz2 hbd
        generalize twoD 9 x1 x2 = x at hco hsz ⊢
        have hsV := ho35.size
        refine hK.out _ _ (⟨lb36.cell 0 rfl, lb36.cell 1 rfl, lb36.cell 2 rfl, lb36.cell 3 rfl⟩) (fun hHeld2 => ?_)
        clear hK K
        (try simp only [Act.put, List.setIfInBounds_toArray, List.set_cons_zero, List.set_cons_succ])
        refine wpAnyH_ready (rs := [6]) (by kernel_rfl) (by simp) ?_
        refine AllReadyH.cons (o := ⟨none, _, _, _, _, _⟩) rfl (fun K hK => ?_) AllReadyH.nil
        have q0 := lf36.cell 0 rfl
        have q1 := lf36.cell 1 rfl
        have q2 := lf36.cell 2 rfl
        have q3 := lf36.cell 3 rfl
        have s0 := lf36.frozen 0
        have s1 := lf36.frozen 1
        have s2 := lf36.frozen 2
        have s3 := lf36.frozen 3
        have hne : w3.heap.size ≠ w.heap.size := Nat.ne_of_gt (by omega)
        have hf4 := far4 hne lb36.blk (.int .i64 9) (.int .i64 0) (.int .i64 0) (.slice uA x.Args.length uc)
        go_simp
        refine hK.out _ _ (⟨blk_cell hf4 0 rfl, blk_cell hf4 1 rfl, blk_cell hf4 2 rfl, blk_cell hf4 3 rfl⟩) (fun hHeld2 => ?_)
        clear hK K
        (try simp only [Act.put, List.setIfInBounds_toArray, List.set_cons_zero, List.set_cons_succ])
        refine wpAnyH_done (by kernel_rfl) ?_ _
        have hL : w.heap.size < u35.heap.size := by have := lb35.lt; omega
        have HFIN := Lib.hid (fin5 lf36 hc36 hBF hco hL (.int .i64 9) (.int .i64 0) (.int .i64 0) (.slice uA x.Args.length uc))
        clear lf36 hc36 hco q0 q1 q2 q3 s0 s1 s2 s3 hf4 lb36
        go_wp2
        have hfin := HFIN.out
        generalize ((((u36.setCell ⟨w.heap.size, 0, none⟩ (.int .i64 9)).setCell ⟨w.heap.size, 1, none⟩ (.int .i64 0)).setCell ⟨w.heap.size, 2, none⟩ (.int .i64 0)).setCell ⟨w.heap.size, 3, none⟩ (.slice uA x.Args.length uc)) = WF at hfin ⊢
        obtain ⟨⟨ho', hc', hb'⟩, hco'⟩ := hfin
        obtain ⟨⟨t0, t1, t2, t3⟩, -⟩ := cls_4 hb'
        exact bodyPost_ret (v := .agg #[.int .i64 9, .int .i64 0, .int .i64 0, .slice uA x.Args.length uc]) (by simp [results, Tryz.results28, go_sem, t0, t1, t2, t3]) rfl ⟨_, x, rfl, hco'.wide (by omega), hsz, ho', hc'⟩
    · have hs0 := hs1
      go_wp2_with fail
      refine (leaf_any w1 B a len cap z hc1).mono ?_
      rintro e w2 ⟨u, x, rfl, hx, hco, ho2, hc2⟩
      obtain ⟨uA, uc, rfl, -⟩ := hco.read
      have lf2 := lf1.call ho2
      have HX := Lib.hid hx
      clear lf1 hc1 ho2 hx
      have q0 := lf2.cell 0 rfl
      have q1 := lf2.cell 1 rfl
      have q2 := lf2.cell 2 rfl
      have q3 := lf2.cell 3 rfl
      have s0 := lf2.frozen 0
      have s1 := lf2.frozen 1
      have s2 := lf2.frozen 2
      have s3 := lf2.frozen 3
      have HFIN := Lib.hid (fin5 lf2 hc2 hBF hco (by omega) (.int .i64 x.Op) (.int .i64 x.A) (.int .i64 x.B) (.slice uA x.Args.length uc))
      clear lf2 hc2 hco
      go_wp2
      have hfin := HFIN.out
      generalize ((((w2.setCell ⟨w.heap.size, 0, none⟩ (.int .i64 x.Op)).setCell ⟨w.heap.size, 1, none⟩ (.int .i64 x.A)).setCell ⟨w.heap.size, 2, none⟩ (.int .i64 x.B)).setCell ⟨w.heap.size, 3, none⟩ (.slice uA x.Args.length uc)) = WF at hfin ⊢
      obtain ⟨⟨ho', hc', hb'⟩, hco'⟩ := hfin
      obtain ⟨⟨t0, t1, t2, t3⟩, -⟩ := cls_4 hb'
      exact bodyPost_ret (v := .agg #[.int .i64 x.Op, .int .i64 x.A, .int .i64 x.B, .slice uA x.Args.length uc]) (by simp [results, Tryz.results28, go_sem, t0, t1, t2, t3]) rfl ⟨_, x, rfl, hco'.wide (by omega), (by have := leaf_size HX.out; omega), ho', hc'⟩
end Go.Proofs.YtmdmkdjeaffhaaaGreatDoor
