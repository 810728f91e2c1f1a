/- The draws of chapter 15 (conditions): two conditions. No condition but what came in. Written by tools/eqc15.py. -/
import Derived.Test.YtoeiampanchabaaDraw15c
namespace Go.Proofs.Ytoeiampanchabaa
open Go.ChangeShapes Go.WideShapes Go.ChangeAt Go.RowKit
set_option linter.unusedVariables false
set_option linter.unusedSimpArgs false

/-- A condition whose blocks lie from L on. -/
def CondMem (L : Nat) (w : World) (x : CondD) (A : Option Addr) (c : Nat) : Prop := ∃ fp, owE w (CondD.c x) [.int .i64 x.Op, .int .i64 x.A, .int .i64 x.B, .slice A x.Args.length c] fp ∧ ∀ k ∈ fp, L ≤ k
theorem CondMem.keep {L : Nat} {w w' : World} {x : CondD} {A : Option Addr} {c : Nat} (h : CondMem L w x A c) (hb : ∀ k, L ≤ k → k < w.heap.size → w'.heap[k]? = w.heap[k]?) : CondMem L w' x A c := by
  obtain ⟨fp, h1, h2⟩ := h
  exact ⟨fp, h1.keep fun k hk => hb k (h2 k hk) (owE.lt h1 k hk), h2⟩
theorem CondMem.read {L : Nat} {w : World} {x : CondD} {A : Option Addr} {c : Nat} (h : CondMem L w x A c) : rdL w w.heap.size (CondD.c x) [.int .i64 x.Op, .int .i64 x.A, .int .i64 x.B, .slice A x.Args.length c] := by
  obtain ⟨fp, h1, h2⟩ := h
  exact owE.list h1 (owE.lt h1)
theorem CondMem.far4 {L F : Nat} {w : World} {x : CondD} {A : Option Addr} {c : Nat} (h : CondMem L w x A c) (hF : F < L) (r0 r1 r2 r3 : Value) : CondMem L ((((w.setCell ⟨F, 0, none⟩ r0).setCell ⟨F, 1, none⟩ r1).setCell ⟨F, 2, none⟩ r2).setCell ⟨F, 3, none⟩ r3) x A c := by
  obtain ⟨fp, h1, h2⟩ := h
  exact ⟨fp, h1.keep fun k hk => by
    have hne : k ≠ F := by have := h2 k hk; omega
    exact (Below.heap_setCell _ ⟨F, 3, none⟩ r3 k hne).trans ((Below.heap_setCell _ ⟨F, 2, none⟩ r2 k hne).trans ((Below.heap_setCell _ ⟨F, 1, none⟩ r1 k hne).trans (Below.heap_setCell _ ⟨F, 0, none⟩ r0 k hne))), h2⟩
theorem CondOwn.mem {L : Nat} {w : World} {x : CondD} {A : Option Addr} {c : Nat} (h : CondOwn L w (.agg #[.int .i64 x.Op, .int .i64 x.A, .int .i64 x.B, .slice A x.Args.length c]) x) : CondMem L w x A c := by
  obtain ⟨fp, h1, _, h3⟩ := own_fp h
  exact ⟨fp, h1, fun k hk => (h3 k hk).1⟩
theorem CondMem.wide {L L' : Nat} {w : World} {x : CondD} {A : Option Addr} {c : Nat} (h : CondMem L w x A c) (hL : L' ≤ L) : CondMem L' w x A c := by
  obtain ⟨fp, h1, h2⟩ := h
  exact ⟨fp, h1, fun k hk => Nat.le_trans hL (h2 k hk)⟩
/-- A drawn condition, as it may be read. -/
def CondIn (L : Nat) (w : World) (u : Value) (x : CondD) : Prop := sizeD x ≤ 8 ∧ ∃ A c, u = .agg #[.int .i64 x.Op, .int .i64 x.A, .int .i64 x.B, .slice A x.Args.length c] ∧ CondMem L w x A c
theorem set4 {w : World} {F : Nat} {T : TypeId} {z0 z1 z2 z3 : Value} {L : Nat} {w0 : World} (h : w.heap[F]? = some (.cells #[z0, z1, z2, z3] T)) (hb : Below L w0 w) (hF : L ≤ F) (r0 r1 r2 r3 : Value) :
    ((((w.setCell ⟨F, 0, none⟩ r0).setCell ⟨F, 1, none⟩ r1).setCell ⟨F, 2, none⟩ r2).setCell ⟨F, 3, none⟩ r3).heap[F]? = some (.cells #[r0, r1, r2, r3] T) ∧ Below L w0 ((((w.setCell ⟨F, 0, none⟩ r0).setCell ⟨F, 1, none⟩ r1).setCell ⟨F, 2, none⟩ r2).setCell ⟨F, 3, none⟩ r3) :=
  ⟨(stt_4 h r0 r1 r2 r3).1, (((hb.setCell (p := ⟨F, 0, none⟩) hF r0).setCell (p := ⟨F, 1, none⟩) hF r1).setCell (p := ⟨F, 2, none⟩) hF r2).setCell (p := ⟨F, 3, none⟩) hF r3⟩
set_option maxHeartbeats 8000000 in
set_option maxRecDepth 100000 in
theorem draw_equalConds (w : World) (a : Option Addr) (len cap : Nat) (z : List Int) (hr : IsRow .u8 w a len cap z) :
    Calls Try.prog 38 #[.slice a len cap] w fun e w' => ∃ u x v y, e = .returned (.tuple #[u, v]) ∧ CondIn w.heap.size w' u x ∧ CondIn w.heap.size w' v y ∧ Below w.heap.size w w' := by
  obtain ⟨W0, hW0⟩ : ∃ W0, W0 = (w.alloc (.cells #[.int .i64 0, .int .i64 0, .int .i64 0, .slice none 0 0] 26)).alloc (.cells #[.int .i64 0, .int .i64 0, .int .i64 0, .slice none 0 0] 26) := ⟨_, rfl⟩
  have hb0 : Below w.heap.size w W0 := by rw [hW0]; go_grown
  have hs0 : W0.heap.size = w.heap.size + 2 := by rw [hW0]; simp
  have hk2 : W0.heap[w.heap.size]? = some (.cells #[.int .i64 0, .int .i64 0, .int .i64 0, .slice none 0 0] 26) := by rw [hW0]; exact blk_keep (C := w.heap.size + 1) (blk_new _ _ _) (by go_grown) (by omega)
  have hk3 : W0.heap[w.heap.size + 1]? = some (.cells #[.int .i64 0, .int .i64 0, .int .i64 0, .slice none 0 0] 26) := by rw [hW0]; exact blk_new_at _ _ (by simp)
  have hr0 := hr.below hb0
  go_enter Try.func38, Try.ntmps38
  go_upto_region 1 with fail
  rw [← hW0]
  clear hW0
  go_wp2_with fail
  refine (new_any W0 a len cap z hr0).mono ?_
  rintro e w1 ⟨B, rfl, hB, hb1, hc1⟩
  have l2 : Loc w B w.heap.size 26 #[.int .i64 0, .int .i64 0, .int .i64 0, .slice none 0 0] w1 := Loc.early hb0 hb1 hk2 (Nat.le_refl _) (blk_lt hk2) hB
  have l3 : Loc w B (w.heap.size + 1) 26 #[.int .i64 0, .int .i64 0, .int .i64 0, .slice none 0 0] w1 := Loc.early hb0 hb1 hk3 (by omega) (blk_lt hk3) hB
  have hBw : w.heap.size + 1 < B := by omega
  have hBl := hc1.lt
  clear hk2 hk3 hr0 hr hb1
  go_wp2_with fail
  refine (any_any w1 B a len cap z hc1).mono ?_
  rintro e w2 ⟨u, x, rfl, hco, hsz, ho2, hc2⟩
  obtain ⟨o, p, q, es⟩ := x
  obtain ⟨xA, xc, rfl, -⟩ := hco.read
  dsimp only at hco ⊢
  have l2b := (l2.call ho2).alloc (.cells #[.int .i64 o, .int .i64 p, .int .i64 q, .slice xA es.length xc] 26)
  have l3b := (l3.call ho2).alloc (.cells #[.int .i64 o, .int .i64 p, .int .i64 q, .slice xA es.length xc] 26)
  have hcV := hc2.alloc (.cells #[.int .i64 o, .int .i64 p, .int .i64 q, .slice xA es.length xc] 26)
  have hal : Below w2.heap.size w2 (w2.alloc (.cells #[.int .i64 o, .int .i64 p, .int .i64 q, .slice xA es.length xc] 26)) := (Below.refl _ _).alloc (Nat.le_refl _) _
  have hcoV := hco.keep (w' := w2.alloc (.cells #[.int .i64 o, .int .i64 p, .int .i64 q, .slice xA es.length xc] 26)) (fun k _ hk => hal.block k hk)
  have hX : (w2.alloc (.cells #[.int .i64 o, .int .i64 p, .int .i64 q, .slice xA es.length xc] 26)).heap[w2.heap.size]? = some (.cells #[.int .i64 o, .int .i64 p, .int .i64 q, .slice xA es.length xc] 26) := blk_new _ _ _
  have hs2 : w1.heap.size ≤ w2.heap.size := ho2.size
  obtain ⟨V, hV⟩ : ∃ V, V = w2.alloc (.cells #[.int .i64 o, .int .i64 p, .int .i64 q, .slice xA es.length xc] 26) := ⟨_, rfl⟩
  rw [← hV] at l2b l3b hcV hcoV hX
  clear l2 l3 hc1 hc2 ho2 hco hal
  go_upto_region 3 with fail
  rw [← hV]
  clear hV
  go_wp2_with fail
  refine (once_any V B a len cap z 2 (by decide) (by decide) hcV).mono ?_
  rintro e w3 ⟨t, rfl, ho3, hc3⟩
  have l2c := l2b.call ho3
  have l3c := l3b.call ho3
  have hco3 := hcoV.only ho3 hBl
  have hX3 : w3.heap[w2.heap.size]? = some (.cells #[.int .i64 o, .int .i64 p, .int .i64 q, .slice xA es.length xc] 26) := (ho3.block _ (blk_lt hX) (by omega)).trans hX
  clear l2b l3b hcV hcoV hX ho3
  cases t
  · skip
    go_upto_region 5 with fail
    have l2d := l2c.drew
    have l3d := l3c.drew
    have hcd : Cur w3.drew B a len cap z := hc3.drewN 1
    have hcod : CondOwn w1.heap.size w3.drew _ _ := hco3.keep (fun _ _ _ => rfl)
    have hs3 : w1.heap.size ≤ w3.drew.heap.size := by have := blk_lt hX3; show w1.heap.size ≤ w3.heap.size; omega
    have hXd : w3.drew.heap[w2.heap.size]? = some (.cells #[.int .i64 o, .int .i64 p, .int .i64 q, .slice xA es.length xc] 26) := hX3
    clear l2c l3c hc3 hco3 hX3
    have hBX : w2.heap.size ≠ B := by omega
    have hX2 : w2.heap.size ≠ w.heap.size := by omega
    have hX3 : w2.heap.size ≠ w.heap.size + 1 := by omega
    refine wp_region_held_drew (S := fun uu => uu.cell? ⟨w2.heap.size, 0, none⟩ = some (.int .i64 o) ∧ uu.cell? ⟨w2.heap.size, 1, none⟩ = some (.int .i64 p) ∧ uu.cell? ⟨w2.heap.size, 2, none⟩ = some (.int .i64 q) ∧ uu.cell? ⟨w2.heap.size, 3, none⟩ = some (.slice xA es.length xc)) (by kernel_rfl) (⟨blk_cell hXd 0 rfl, blk_cell hXd 1 rfl, blk_cell hXd 2 rfl, blk_cell hXd 3 rfl⟩) (fun hHeld => ?_)
    refine wpAnyH_take (i := 0) (oi := ⟨some 15, _, _, _, _, _⟩) (v := ?_) rfl (by kernel_rfl) (by kernel_rfl) (by kernel_rfl) (fun _ _ _ h => h) (Or.inl ⟨by rfl, ?_⟩) (by assumption) ?_
    rotate_left
    · intro w hSw; (try dsimp only at hSw); go_simp <;> (with_reducible rfl)
    (try simp only [Act.put, List.setIfInBounds_toArray, List.set_cons_zero, List.set_cons_succ])
    refine wpAnyH_take (i := 1) (oi := ⟨some 16, _, _, _, _, _⟩) (v := ?_) rfl (by kernel_rfl) (by kernel_rfl) (by kernel_rfl) (fun _ _ _ h => h) (Or.inl ⟨by rfl, ?_⟩) (by assumption) ?_
    rotate_left
    · intro w hSw; (try dsimp only at hSw); go_simp <;> (with_reducible rfl)
    (try simp only [Act.put, List.setIfInBounds_toArray, List.set_cons_zero, List.set_cons_succ])
    refine wpAnyH_ready (rs := [2]) (by kernel_rfl) (by simp) ?_
    refine AllReadyH.cons (o := ⟨some 17, _, _, _, _, _⟩) rfl (fun K hK => ?_) AllReadyH.nil
    go_simp
    (with_reducible refine (any_any _ B a len cap z hcd).mono ?_)
    rintro e17 u17 ⟨v, y, rfl, hco2, hsz2, ho17, hc17⟩
    obtain ⟨o', p', q', es'⟩ := y
    obtain ⟨yA, yc, rfl, -⟩ := hco2.read
    have l2e := l2d.call ho17
    have l3e := l3d.call ho17
    have hmx := CondOwn.mem (x := ⟨o, p, q, es⟩) (hcod.only ho17 hBl)
    have hmy := (CondOwn.mem (x := ⟨o', p', q', es'⟩) hco2).wide hs3
    have hXe := (ho17.block _ (blk_lt hXd) hBX).trans hXd
    refine hK.out _ _ (⟨blk_cell hXe 0 rfl, blk_cell hXe 1 rfl, blk_cell hXe 2 rfl, blk_cell hXe 3 rfl⟩) (fun hHeld2 => ?_)
    clear hK K
    (try simp only [Act.put, List.setIfInBounds_toArray, List.set_cons_zero, List.set_cons_succ])
    refine wpAnyH_ready (rs := [3]) (by kernel_rfl) (by simp) ?_
    refine AllReadyH.cons (o := ⟨none, _, _, _, _, _⟩) rfl (fun K hK => ?_) AllReadyH.nil
    have q0 := l2e.cell 0 rfl
    have q1 := l2e.cell 1 rfl
    have q2 := l2e.cell 2 rfl
    have q3 := l2e.cell 3 rfl
    have s0 := l2e.frozen 0
    have s1 := l2e.frozen 1
    have s2 := l2e.frozen 2
    have s3 := l2e.frozen 3
    have hXf := far4 hX2 hXe (.int .i64 o) (.int .i64 p) (.int .i64 q) (.slice xA es.length xc)
    go_simp
    refine hK.out _ _ (⟨blk_cell hXf 0 rfl, blk_cell hXf 1 rfl, blk_cell hXf 2 rfl, blk_cell hXf 3 rfl⟩) (fun hHeld2 => ?_)
    clear hK K
    (try simp only [Act.put, List.setIfInBounds_toArray, List.set_cons_zero, List.set_cons_succ])
    refine wpAnyH_ready (rs := [4]) (by kernel_rfl) (by simp) ?_
    refine AllReadyH.cons (o := ⟨none, _, _, _, _, _⟩) rfl (fun K hK => ?_) AllReadyH.nil
    have hl3 := far4 (Nat.succ_ne_self w.heap.size) l3e.blk (.int .i64 o) (.int .i64 p) (.int .i64 q) (.slice xA es.length xc)
    obtain ⟨⟨p0, p1, p2, p3⟩, r0, r1, r2, r3⟩ := cls_4 hl3
    have hXg := far4 hX3 hXf (.int .i64 o') (.int .i64 p') (.int .i64 q') (.slice yA es'.length yc)
    go_simp
    refine hK.out _ _ (⟨blk_cell hXg 0 rfl, blk_cell hXg 1 rfl, blk_cell hXg 2 rfl, blk_cell hXg 3 rfl⟩) (fun hHeld2 => ?_)
    clear hK K
    (try simp only [Act.put, List.setIfInBounds_toArray, List.set_cons_zero, List.set_cons_succ])
    refine wpAnyH_done (by kernel_rfl) ?_ _
    have hbU : Below w.heap.size w u17 := l2e.only.below (Nat.le_refl _) (by omega)
    have h1 := set4 l2e.blk hbU (Nat.le_refl _) (.int .i64 o) (.int .i64 p) (.int .i64 q) (.slice xA es.length xc)
    have hx1 := hmx.far4 (F := w.heap.size) (by omega) (.int .i64 o) (.int .i64 p) (.int .i64 q) (.slice xA es.length xc)
    have hy1 := hmy.far4 (F := w.heap.size) (by omega) (.int .i64 o) (.int .i64 p) (.int .i64 q) (.slice xA es.length xc)
    have HH1 := Lib.hid (And.intro h1 (And.intro hx1 (And.intro hy1 hl3)))
    have HSZ := Lib.hid (And.intro hsz hsz2)
    clear h1 hx1 hy1 hl3 p0 p1 p2 p3 r0 r1 r2 r3 q0 q1 q2 q3 s0 s1 s2 s3 hXe hXf hXg hmx hmy l2e l3e hbU l2d l3d hcd hXd
    go_wp2
    obtain ⟨h1, hx1, hy1, hl3⟩ := HH1.out
    generalize ((((u17.setCell ⟨w.heap.size, 0, none⟩ (.int .i64 o)).setCell ⟨w.heap.size, 1, none⟩ (.int .i64 p)).setCell ⟨w.heap.size, 2, none⟩ (.int .i64 q)).setCell ⟨w.heap.size, 3, none⟩ (.slice xA es.length xc)) = WA at h1 hx1 hy1 hl3 ⊢
    have h2 := set4 hl3 h1.2 (Nat.le_succ _) (.int .i64 o') (.int .i64 p') (.int .i64 q') (.slice yA es'.length yc)
    have hx2 := hx1.far4 (F := w.heap.size + 1) (by omega) (.int .i64 o') (.int .i64 p') (.int .i64 q') (.slice yA es'.length yc)
    have hy2 := hy1.far4 (F := w.heap.size + 1) (by omega) (.int .i64 o') (.int .i64 p') (.int .i64 q') (.slice yA es'.length yc)
    have h1' := far4 (F := w.heap.size + 1) (Nat.ne_of_lt (Nat.lt_succ_self w.heap.size)) h1.1 (.int .i64 o') (.int .i64 p') (.int .i64 q') (.slice yA es'.length yc)
    generalize ((((WA.setCell ⟨w.heap.size + 1, 0, none⟩ (.int .i64 o')).setCell ⟨w.heap.size + 1, 1, none⟩ (.int .i64 p')).setCell ⟨w.heap.size + 1, 2, none⟩ (.int .i64 q')).setCell ⟨w.heap.size + 1, 3, none⟩ (.slice yA es'.length yc)) = WB at h2 hx2 hy2 h1' ⊢
    obtain ⟨⟨t0, t1, t2, t3⟩, -⟩ := cls_4 h1'
    obtain ⟨⟨t4, t5, t6, t7⟩, -⟩ := cls_4 h2.1
    have FIN : ∃ u x v y, Ending.returned (.tuple #[.agg #[.int .i64 o, .int .i64 p, .int .i64 q, .slice xA es.length xc], .agg #[.int .i64 o', .int .i64 p', .int .i64 q', .slice yA es'.length yc]]) = .returned (.tuple #[u, v]) ∧ CondIn w.heap.size WB u x ∧ CondIn w.heap.size WB v y ∧ Below w.heap.size w WB := ⟨_, ⟨o, p, q, es⟩, _, ⟨o', p', q', es'⟩, rfl, ⟨HSZ.out.1, _, _, rfl, hx2.wide (by omega)⟩, ⟨HSZ.out.2, _, _, rfl, hy2.wide (by omega)⟩, h2.2⟩
    exact bodyPost_ret (v := .tuple #[.agg #[.int .i64 o, .int .i64 p, .int .i64 q, .slice xA es.length xc], .agg #[.int .i64 o', .int .i64 p', .int .i64 q', .slice yA es'.length yc]]) (by simp [results, Try.results38, go_sem, t0, t1, t2, t3, t4, t5, t6, t7]) rfl (by first | exact FIN | (obtain ⟨k1, k2, k3, k4, k5, k6, k7, k8⟩ := FIN; exact ⟨k1, k2, k3, k5, k6, ⟨k4, k7⟩, k8⟩))
  · skip
    go_upto_region 4 with fail
    have l2d := l2c.drew
    have l3d := l3c.drew
    have hcd : Cur w3.drew B a len cap z := hc3.drewN 1
    have hcod : CondOwn w1.heap.size w3.drew _ _ := hco3.keep (fun _ _ _ => rfl)
    have hs3 : w1.heap.size ≤ w3.drew.heap.size := by have := blk_lt hX3; show w1.heap.size ≤ w3.heap.size; omega
    have hXd : w3.drew.heap[w2.heap.size]? = some (.cells #[.int .i64 o, .int .i64 p, .int .i64 q, .slice xA es.length xc] 26) := hX3
    clear l2c l3c hc3 hco3 hX3
    have hrx := (CondOwn.mem (x := ⟨o, p, q, es⟩) hcod).read
    have hsx : sizeD ⟨o, p, q, es⟩ ≤ 1073741824 := by omega
    have hBX : w2.heap.size ≠ B := by omega
    have hX2 : w2.heap.size ≠ w.heap.size := by omega
    have hX3 : w2.heap.size ≠ w.heap.size + 1 := by omega
    refine wp_region_held_drew (S := fun uu => uu.cell? ⟨w2.heap.size, 0, none⟩ = some (.int .i64 o) ∧ uu.cell? ⟨w2.heap.size, 1, none⟩ = some (.int .i64 p) ∧ uu.cell? ⟨w2.heap.size, 2, none⟩ = some (.int .i64 q) ∧ uu.cell? ⟨w2.heap.size, 3, none⟩ = some (.slice xA es.length xc)) (by kernel_rfl) (⟨blk_cell hXd 0 rfl, blk_cell hXd 1 rfl, blk_cell hXd 2 rfl, blk_cell hXd 3 rfl⟩) (fun hHeld => ?_)
    refine wpAnyH_take (i := 0) (oi := ⟨some 12, _, _, _, _, _⟩) (v := ?_) rfl (by kernel_rfl) (by kernel_rfl) (by kernel_rfl) (fun _ _ _ h => h) (Or.inl ⟨by rfl, ?_⟩) (by assumption) ?_
    rotate_left
    · intro w hSw; (try dsimp only at hSw); go_simp <;> (with_reducible rfl)
    (try simp only [Act.put, List.setIfInBounds_toArray, List.set_cons_zero, List.set_cons_succ])
    refine wpAnyH_take (i := 1) (oi := ⟨some 13, _, _, _, _, _⟩) (v := ?_) rfl (by kernel_rfl) (by kernel_rfl) (by kernel_rfl) (fun _ _ _ h => h) (Or.inl ⟨by rfl, ?_⟩) (by assumption) ?_
    rotate_left
    · intro w hSw; (try dsimp only at hSw); go_simp <;> (with_reducible rfl)
    (try simp only [Act.put, List.setIfInBounds_toArray, List.set_cons_zero, List.set_cons_succ])
    refine wpAnyH_ready (rs := [2]) (by kernel_rfl) (by simp) ?_
    refine AllReadyH.cons (o := ⟨some 14, _, _, _, _, _⟩) rfl (fun K hK => ?_) AllReadyH.nil
    go_simp
    (with_reducible refine (spec_copy ⟨o, p, q, es⟩ _ _ _ hrx (Nat.le_refl _) hsx).mono ?_)
    rintro e14 u14 ⟨ys, fp, rfl, hoy, nd, rg, b14⟩
    obtain ⟨k3, f3, rfl, hf3, z0, z1, z2, ho3⟩ := CondD.ow hoy
    obtain ⟨yA, yc, rfl, -, -⟩ := ho3.form
    have l2e := l2d.call (Below.only b14)
    have l3e := l3d.call (Below.only b14)
    have hmx := CondOwn.mem (x := ⟨o, p, q, es⟩) (hcod.keep (w' := u14) (fun k _ hk => b14.block k hk))
    have hmy : CondMem w1.heap.size u14 ⟨o, p, q, es⟩ yA yc := ⟨fp, hoy, fun k hk => Nat.le_trans hs3 (rg k hk).1⟩
    have hXe := blk_keep hXd b14 (blk_lt hXd)
    refine hK.out _ _ (⟨blk_cell hXe 0 rfl, blk_cell hXe 1 rfl, blk_cell hXe 2 rfl, blk_cell hXe 3 rfl⟩) (fun hHeld2 => ?_)
    clear hK K
    (try simp only [Act.put, List.setIfInBounds_toArray, List.set_cons_zero, List.set_cons_succ])
    refine wpAnyH_ready (rs := [3]) (by kernel_rfl) (by simp) ?_
    refine AllReadyH.cons (o := ⟨none, _, _, _, _, _⟩) rfl (fun K hK => ?_) AllReadyH.nil
    have q0 := l2e.cell 0 rfl
    have q1 := l2e.cell 1 rfl
    have q2 := l2e.cell 2 rfl
    have q3 := l2e.cell 3 rfl
    have s0 := l2e.frozen 0
    have s1 := l2e.frozen 1
    have s2 := l2e.frozen 2
    have s3 := l2e.frozen 3
    have hXf := far4 hX2 hXe (.int .i64 o) (.int .i64 p) (.int .i64 q) (.slice xA es.length xc)
    go_simp
    refine hK.out _ _ (⟨blk_cell hXf 0 rfl, blk_cell hXf 1 rfl, blk_cell hXf 2 rfl, blk_cell hXf 3 rfl⟩) (fun hHeld2 => ?_)
    clear hK K
    (try simp only [Act.put, List.setIfInBounds_toArray, List.set_cons_zero, List.set_cons_succ])
    refine wpAnyH_ready (rs := [4]) (by kernel_rfl) (by simp) ?_
    refine AllReadyH.cons (o := ⟨none, _, _, _, _, _⟩) rfl (fun K hK => ?_) AllReadyH.nil
    have hl3 := far4 (Nat.succ_ne_self w.heap.size) l3e.blk (.int .i64 o) (.int .i64 p) (.int .i64 q) (.slice xA es.length xc)
    obtain ⟨⟨p0, p1, p2, p3⟩, r0, r1, r2, r3⟩ := cls_4 hl3
    have hXg := far4 hX3 hXf (.int .i64 o) (.int .i64 p) (.int .i64 q) (.slice yA es.length yc)
    go_simp
    refine hK.out _ _ (⟨blk_cell hXg 0 rfl, blk_cell hXg 1 rfl, blk_cell hXg 2 rfl, blk_cell hXg 3 rfl⟩) (fun hHeld2 => ?_)
    clear hK K
    (try simp only [Act.put, List.setIfInBounds_toArray, List.set_cons_zero, List.set_cons_succ])
    refine wpAnyH_done (by kernel_rfl) ?_ _
    have hbU : Below w.heap.size w u14 := l2e.only.below (Nat.le_refl _) (by omega)
    have h1 := set4 l2e.blk hbU (Nat.le_refl _) (.int .i64 o) (.int .i64 p) (.int .i64 q) (.slice xA es.length xc)
    have hx1 := hmx.far4 (F := w.heap.size) (by omega) (.int .i64 o) (.int .i64 p) (.int .i64 q) (.slice xA es.length xc)
    have hy1 := hmy.far4 (F := w.heap.size) (by omega) (.int .i64 o) (.int .i64 p) (.int .i64 q) (.slice xA es.length xc)
    have HH1 := Lib.hid (And.intro h1 (And.intro hx1 (And.intro hy1 hl3)))
    have HSZ := Lib.hid (And.intro hsz hsz)
    clear h1 hx1 hy1 hl3 p0 p1 p2 p3 r0 r1 r2 r3 q0 q1 q2 q3 s0 s1 s2 s3 hXe hXf hXg hmx hmy l2e l3e hbU l2d l3d hcd hXd
    go_wp2
    obtain ⟨h1, hx1, hy1, hl3⟩ := HH1.out
    generalize ((((u14.setCell ⟨w.heap.size, 0, none⟩ (.int .i64 o)).setCell ⟨w.heap.size, 1, none⟩ (.int .i64 p)).setCell ⟨w.heap.size, 2, none⟩ (.int .i64 q)).setCell ⟨w.heap.size, 3, none⟩ (.slice xA es.length xc)) = WA at h1 hx1 hy1 hl3 ⊢
    have h2 := set4 hl3 h1.2 (Nat.le_succ _) (.int .i64 o) (.int .i64 p) (.int .i64 q) (.slice yA es.length yc)
    have hx2 := hx1.far4 (F := w.heap.size + 1) (by omega) (.int .i64 o) (.int .i64 p) (.int .i64 q) (.slice yA es.length yc)
    have hy2 := hy1.far4 (F := w.heap.size + 1) (by omega) (.int .i64 o) (.int .i64 p) (.int .i64 q) (.slice yA es.length yc)
    have h1' := far4 (F := w.heap.size + 1) (Nat.ne_of_lt (Nat.lt_succ_self w.heap.size)) h1.1 (.int .i64 o) (.int .i64 p) (.int .i64 q) (.slice yA es.length yc)
    generalize ((((WA.setCell ⟨w.heap.size + 1, 0, none⟩ (.int .i64 o)).setCell ⟨w.heap.size + 1, 1, none⟩ (.int .i64 p)).setCell ⟨w.heap.size + 1, 2, none⟩ (.int .i64 q)).setCell ⟨w.heap.size + 1, 3, none⟩ (.slice yA es.length yc)) = WB at h2 hx2 hy2 h1' ⊢
    obtain ⟨⟨t0, t1, t2, t3⟩, -⟩ := cls_4 h1'
    obtain ⟨⟨t4, t5, t6, t7⟩, -⟩ := cls_4 h2.1
    have FIN : ∃ u x v y, Ending.returned (.tuple #[.agg #[.int .i64 o, .int .i64 p, .int .i64 q, .slice xA es.length xc], .agg #[.int .i64 o, .int .i64 p, .int .i64 q, .slice yA es.length yc]]) = .returned (.tuple #[u, v]) ∧ CondIn w.heap.size WB u x ∧ CondIn w.heap.size WB v y ∧ Below w.heap.size w WB := ⟨_, ⟨o, p, q, es⟩, _, ⟨o, p, q, es⟩, rfl, ⟨HSZ.out.1, _, _, rfl, hx2.wide (by omega)⟩, ⟨HSZ.out.2, _, _, rfl, hy2.wide (by omega)⟩, h2.2⟩
    exact bodyPost_ret (v := .tuple #[.agg #[.int .i64 o, .int .i64 p, .int .i64 q, .slice xA es.length xc], .agg #[.int .i64 o, .int .i64 p, .int .i64 q, .slice yA es.length yc]]) (by simp [results, Try.results38, go_sem, t0, t1, t2, t3, t4, t5, t6, t7]) rfl (by first | exact FIN | (obtain ⟨k1, k2, k3, k4, k5, k6, k7, k8⟩ := FIN; exact ⟨k1, k2, k3, k5, k6, ⟨k4, k7⟩, k8⟩))
set_option maxHeartbeats 4000000 in
set_option maxRecDepth 100000 in
theorem draw_condAnd (w : World) (a : Option Addr) (len cap : Nat) (z : List Int) (hr : IsRow .u8 w a len cap z) :
    Calls Try.prog 13 #[.slice a len cap] w fun e w' => ∃ u x v y, e = .returned (.tuple #[u, v]) ∧ CondIn w.heap.size w' u x ∧ CondIn w.heap.size w' v y ∧ Below w.heap.size w w' := by
  obtain ⟨W0, hW0⟩ : ∃ W0, W0 = (w.alloc (.cells #[.int .i64 0, .int .i64 0, .int .i64 0, .slice none 0 0] 26)).alloc (.cells #[.int .i64 0, .int .i64 0, .int .i64 0, .slice none 0 0] 26) := ⟨_, rfl⟩
  have hb0 : Below w.heap.size w W0 := by rw [hW0]; go_grown
  have hs0 : W0.heap.size = w.heap.size + 2 := by rw [hW0]; simp
  have hk2 : W0.heap[w.heap.size]? = some (.cells #[.int .i64 0, .int .i64 0, .int .i64 0, .slice none 0 0] 26) := by rw [hW0]; exact blk_keep (C := w.heap.size + 1) (blk_new _ _ _) (by go_grown) (by omega)
  have hk3 : W0.heap[w.heap.size + 1]? = some (.cells #[.int .i64 0, .int .i64 0, .int .i64 0, .slice none 0 0] 26) := by rw [hW0]; exact blk_new_at _ _ (by simp)
  have hr0 := hr.below hb0
  go_enter Try.func13, Try.ntmps13
  go_upto_region 1 with fail
  rw [← hW0]
  clear hW0
  go_wp2_with fail
  refine (draw_equalConds W0 a len cap z hr0).mono ?_
  rintro e w1 ⟨u, x, v, y, rfl, ⟨hsx, xA, xc, rfl, hmx⟩, ⟨hsy, yA, yc, rfl, hmy⟩, hb1⟩
  have l2 := blk_keep hk2 hb1 (by omega)
  have l3 := blk_keep hk3 hb1 (by omega)
  have hbU := hb0.trans (hb1.mono hb0.size)
  obtain ⟨⟨q0, q1, q2, q3⟩, s0, s1, s2, s3⟩ := cls_4 l2
  obtain ⟨⟨p0, p1, p2, p3⟩, r0, r1, r2, r3⟩ := cls_4 l3
  have h1 := set4 l2 hbU (Nat.le_refl _) (.int .i64 x.Op) (.int .i64 x.A) (.int .i64 x.B) (.slice xA x.Args.length xc)
  have hx1 := hmx.far4 (F := w.heap.size) (by omega) (.int .i64 x.Op) (.int .i64 x.A) (.int .i64 x.B) (.slice xA x.Args.length xc)
  have hy1 := hmy.far4 (F := w.heap.size) (by omega) (.int .i64 x.Op) (.int .i64 x.A) (.int .i64 x.B) (.slice xA x.Args.length xc)
  have hl3 := far4 (Nat.succ_ne_self w.heap.size) l3 (.int .i64 x.Op) (.int .i64 x.A) (.int .i64 x.B) (.slice xA x.Args.length xc)
  have HH1 := Lib.hid (And.intro h1 (And.intro hx1 (And.intro hy1 hl3)))
  have HSZ := Lib.hid (And.intro hsx hsy)
  clear h1 hx1 hy1 hl3 hmx hmy l2 l3 hbU hk2 hk3 hr0 hr
  go_wp2
  obtain ⟨h1, hx1, hy1, hl3⟩ := HH1.out
  generalize ((((w1.setCell ⟨w.heap.size, 0, none⟩ (.int .i64 x.Op)).setCell ⟨w.heap.size, 1, none⟩ (.int .i64 x.A)).setCell ⟨w.heap.size, 2, none⟩ (.int .i64 x.B)).setCell ⟨w.heap.size, 3, none⟩ (.slice xA x.Args.length xc)) = WA at h1 hx1 hy1 hl3 ⊢
  have h2 := set4 hl3 h1.2 (Nat.le_succ _) (.int .i64 y.Op) (.int .i64 y.A) (.int .i64 y.B) (.slice yA y.Args.length yc)
  have hx2 := hx1.far4 (F := w.heap.size + 1) (by omega) (.int .i64 y.Op) (.int .i64 y.A) (.int .i64 y.B) (.slice yA y.Args.length yc)
  have hy2 := hy1.far4 (F := w.heap.size + 1) (by omega) (.int .i64 y.Op) (.int .i64 y.A) (.int .i64 y.B) (.slice yA y.Args.length yc)
  have h1' := far4 (F := w.heap.size + 1) (Nat.ne_of_lt (Nat.lt_succ_self w.heap.size)) h1.1 (.int .i64 y.Op) (.int .i64 y.A) (.int .i64 y.B) (.slice yA y.Args.length yc)
  generalize ((((WA.setCell ⟨w.heap.size + 1, 0, none⟩ (.int .i64 y.Op)).setCell ⟨w.heap.size + 1, 1, none⟩ (.int .i64 y.A)).setCell ⟨w.heap.size + 1, 2, none⟩ (.int .i64 y.B)).setCell ⟨w.heap.size + 1, 3, none⟩ (.slice yA y.Args.length yc)) = WB at h2 hx2 hy2 h1' ⊢
  obtain ⟨⟨t0, t1, t2, t3⟩, -⟩ := cls_4 h1'
  obtain ⟨⟨t4, t5, t6, t7⟩, -⟩ := cls_4 h2.1
  have FIN : ∃ u x' v y', Ending.returned (.tuple #[.agg #[.int .i64 x.Op, .int .i64 x.A, .int .i64 x.B, .slice xA x.Args.length xc], .agg #[.int .i64 y.Op, .int .i64 y.A, .int .i64 y.B, .slice yA y.Args.length yc]]) = .returned (.tuple #[u, v]) ∧ CondIn w.heap.size WB u x' ∧ CondIn w.heap.size WB v y' ∧ Below w.heap.size w WB := ⟨_, x, _, y, rfl, ⟨HSZ.out.1, _, _, rfl, hx2.wide (by omega)⟩, ⟨HSZ.out.2, _, _, rfl, hy2.wide (by omega)⟩, h2.2⟩
  exact bodyPost_ret (v := .tuple #[.agg #[.int .i64 x.Op, .int .i64 x.A, .int .i64 x.B, .slice xA x.Args.length xc], .agg #[.int .i64 y.Op, .int .i64 y.A, .int .i64 y.B, .slice yA y.Args.length yc]]) (by simp [results, Try.results13, go_sem, t0, t1, t2, t3, t4, t5, t6, t7]) rfl (by first | exact FIN | (obtain ⟨k1, k2, k3, k4, k5, k6, k7, k8⟩ := FIN; exact ⟨k1, k2, k3, k5, k6, ⟨k4, k7⟩, k8⟩))
end Go.Proofs.Ytoeiampanchabaa
