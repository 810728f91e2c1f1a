/- The draws of chapter 17's inputs: a leaf in a world of facts; a fact; a request and a time. -/
import Derived.Test.YtmgigjpkpeamjaaGreatDraw17b
import Derived.Test.YtmgigjpkpeamjaaGreatDraw15
namespace Go.Proofs.YtmgigjpkpeamjaaGreat
open Go.ChangeShapes Go.WideShapes Go.ChangeAt Go.RowKit
set_option linter.unusedVariables false

set_option maxHeartbeats 16000000 in
set_option maxRecDepth 100000 in
theorem draw_leafHolds (w : World) (a : Option Addr) (len cap : Nat) (z : List Int) (hr : IsRow .u8 w a len cap z) :
    Calls Tryz.prog 5 #[.slice a len cap] w fun e w' => ∃ (u : Value) (ls : List IncludesD) (v : Value) (xs : List FactD) (o A' B' : Int) (ca : Option Addr) (cn cc : Nat) (q : RequestD), e = .returned (.tuple #[u, v, .agg #[.int .i64 o, .int .i64 A', .int .i64 B', .slice ca cn cc], q.val]) ∧ PairsIn w' u ls ∧ Stored w' v xs ∧ Below w.heap.size w w' := by
  obtain ⟨W0, hW0⟩ : ∃ W0, W0 = (w.alloc (.cells #[.int .i64 0, .int .i64 0, .int .i64 0, .slice none 0 0] 28)).alloc (.cells #[.int .i64 0, .int .i64 0, .int .i64 0, .int .i64 0, .int .i64 0, .int .i64 0] 30) := ⟨_, rfl⟩
  have b0 : Below w.heap.size w W0 := by rw [hW0]; go_grown
  have z0 : W0.heap.size = w.heap.size + 2 := by rw [hW0]; simp
  have hA : W0.heap[w.heap.size]? = some (.cells #[.int .i64 0, .int .i64 0, .int .i64 0, .slice none 0 0] 28) := by rw [hW0]; exact blk_keep (C := w.heap.size + 1) (blk_new _ _ _) (by go_grown) (by omega)
  have hA' : W0.heap[w.heap.size + 1]? = some (.cells #[.int .i64 0, .int .i64 0, .int .i64 0, .int .i64 0, .int .i64 0, .int .i64 0] 30) := by rw [hW0]; exact blk_new_at _ _ (by simp)
  go_enter Tryz.func5, Tryz.ntmps5
  go_wp2_with fail
  rw [← hW0]
  clear hW0
  refine (new_any _ a len cap z (hr.below b0)).mono ?_
  rintro e w1 ⟨B, rfl, hB, hb1, hc1⟩
  have l4 : Loc w B w.heap.size 28 #[.int .i64 0, .int .i64 0, .int .i64 0, .slice none 0 0] w1 := Loc.early b0 hb1 hA (Nat.le_refl _) (by omega) hB
  have l6 : Loc w B (w.heap.size + 1) 30 #[.int .i64 0, .int .i64 0, .int .i64 0, .int .i64 0, .int .i64 0, .int .i64 0] w1 := Loc.early b0 hb1 hA' (by omega) (by omega) hB
  have hBw : w.heap.size + 2 ≤ B := by omega
  have hs1 : w.heap.size + 2 ≤ w1.heap.size := by have := hc1.lt; omega
  have hB1 := hc1.lt
  clear hA hA' hb1 b0 hr hB z0
  go_wp2_with fail
  refine (case_any w1 B a len cap z hc1).mono ?_
  rintro e w2 ⟨u, ls, v, xs, ⟨p, d, g, k, ob, n⟩, rfl, -, ⟨hl, hd⟩, ⟨hml, hmw, hown⟩, ho2, hc2⟩
  rw [RequestD.val_mk]
  have hmw := Lib.hid hmw
  have l4b := l4.call ho2
  have l6b := l6.call ho2
  clear l4 l6 ho2 hc1
  go_wp2_with fail
  obtain ⟨W3, hW3⟩ : ∃ W : World, W = w2.alloc (.cells #[.int .i64 p, .int .i64 d, .int .i64 g, .int .i64 k, .int .i64 ob, .int .i64 n] 30) := ⟨_, rfl⟩
  rw [← hW3]
  have lq3 : Loc w B w2.heap.size 30 #[.int .i64 p, .int .i64 d, .int .i64 g, .int .i64 k, .int .i64 ob, .int .i64 n] W3 := by rw [hW3]; exact Loc.mk_new l4b.only hc2.lt
  have l4c : Loc w B w.heap.size 28 #[.int .i64 0, .int .i64 0, .int .i64 0, .slice none 0 0] W3 := by rw [hW3]; exact l4b.alloc _
  have l6c : Loc w B (w.heap.size + 1) 30 #[.int .i64 0, .int .i64 0, .int .i64 0, .int .i64 0, .int .i64 0, .int .i64 0] W3 := by rw [hW3]; exact l6b.alloc _
  have hc3 : Cur W3 B a len cap z := by rw [hW3]; exact hc2.alloc _
  have o3 : Only B w2 W3 := by rw [hW3]; exact (Only.refl _ _).alloc _
  have hFq1 : w.heap.size + 1 < w2.heap.size := l6b.lt
  clear hW3 l4b l6b hc2
  generalize hF : w2.heap.size = F at lq3 hFq1 ⊢
  refine (leaf_any W3 B a len cap z hc3).mono ?_
  rintro e w4 ⟨U, ⟨co, cA, cB, cs⟩, rfl, -, hco, ho4, hc4⟩
  obtain ⟨ca, cc, rfl, -⟩ := hco.read
  dsimp only
  have lq4 := lq3.call ho4
  have l4d := l4c.call ho4
  have l6d := l6c.call ho4
  have o4 := o3.trans ho4
  clear lq3 l4c l6c o3 ho4 hc3 hco
  go_wp2_with fail
  obtain ⟨W5, hW5⟩ : ∃ W : World, W = w4.alloc (.cells #[.int .i64 co, .int .i64 cA, .int .i64 cB, .slice ca cs.length cc] 28) := ⟨_, rfl⟩
  rw [← hW5]
  have lx5 : Loc w B w4.heap.size 28 #[.int .i64 co, .int .i64 cA, .int .i64 cB, .slice ca cs.length cc] W5 := by rw [hW5]; exact Loc.mk_new lq4.only hc4.lt
  have lq5 : Loc w B F 30 #[.int .i64 p, .int .i64 d, .int .i64 g, .int .i64 k, .int .i64 ob, .int .i64 n] W5 := by rw [hW5]; exact lq4.alloc _
  have l4e : Loc w B w.heap.size 28 #[.int .i64 0, .int .i64 0, .int .i64 0, .slice none 0 0] W5 := by rw [hW5]; exact l4d.alloc _
  have l6e : Loc w B (w.heap.size + 1) 30 #[.int .i64 0, .int .i64 0, .int .i64 0, .int .i64 0, .int .i64 0, .int .i64 0] W5 := by rw [hW5]; exact l6d.alloc _
  have hc5 : Cur W5 B a len cap z := by rw [hW5]; exact hc4.alloc _
  have o5 : Only B w2 W5 := by rw [hW5]; exact o4.alloc _
  have hGq1 : F < w4.heap.size := lq4.lt
  clear hW5 lq4 l4d l6d o4 hc4
  generalize w4.heap.size = G at lx5 hGq1 ⊢
  refine (once_any W5 B a len cap z 8 (by decide) (by decide) hc5).mono ?_
  rintro e w6 ⟨b, rfl, ho6, hc6⟩
  have lx6 := lx5.call ho6
  have lq6 := lq5.call ho6
  have l4f := l4e.call ho6
  have l6f := l6e.call ho6
  have o6 := o5.trans ho6
  clear lx5 lq5 l4e l6e o5 ho6 hc5
  cases b
  · go_upto_region 6 with fail
    have hd6 := (hd.only o6 hB1).wide (Nat.le_refl _) (hi' := w6.heap.size) o6.size
    have hw6 := (hown.only o6 hB1).wide (Nat.le_refl _) (hi' := w6.heap.size) o6.size
    have hx1 := ((((lx6.setFar (Nat.le_refl _) (by omega) 0 (.int .i64 co)).setFar (Nat.le_refl _) (by omega) 1 (.int .i64 cA)).setFar (Nat.le_refl _) (by omega) 2 (.int .i64 cB)).setFar (Nat.le_refl _) (by omega) 3 (.slice ca cs.length cc)).drew
    have hx2 := ((((((((((lx6.setFar (Nat.le_refl _) (by omega) 0 (.int .i64 co)).setFar (Nat.le_refl _) (by omega) 1 (.int .i64 cA)).setFar (Nat.le_refl _) (by omega) 2 (.int .i64 cB)).setFar (Nat.le_refl _) (by omega) 3 (.slice ca cs.length cc)).setFar (Nat.le_succ _) (by omega) 0 (.int .i64 p)).setFar (Nat.le_succ _) (by omega) 1 (.int .i64 d)).setFar (Nat.le_succ _) (by omega) 2 (.int .i64 g)).setFar (Nat.le_succ _) (by omega) 3 (.int .i64 k)).setFar (Nat.le_succ _) (by omega) 4 (.int .i64 ob)).setFar (Nat.le_succ _) (by omega) 5 (.int .i64 n)).drew
    have hq1 := ((((lq6.setFar (Nat.le_refl _) (by omega) 0 (.int .i64 co)).setFar (Nat.le_refl _) (by omega) 1 (.int .i64 cA)).setFar (Nat.le_refl _) (by omega) 2 (.int .i64 cB)).setFar (Nat.le_refl _) (by omega) 3 (.slice ca cs.length cc)).drew
    have hq2 := ((((((((((lq6.setFar (Nat.le_refl _) (by omega) 0 (.int .i64 co)).setFar (Nat.le_refl _) (by omega) 1 (.int .i64 cA)).setFar (Nat.le_refl _) (by omega) 2 (.int .i64 cB)).setFar (Nat.le_refl _) (by omega) 3 (.slice ca cs.length cc)).setFar (Nat.le_succ _) (by omega) 0 (.int .i64 p)).setFar (Nat.le_succ _) (by omega) 1 (.int .i64 d)).setFar (Nat.le_succ _) (by omega) 2 (.int .i64 g)).setFar (Nat.le_succ _) (by omega) 3 (.int .i64 k)).setFar (Nat.le_succ _) (by omega) 4 (.int .i64 ob)).setFar (Nat.le_succ _) (by omega) 5 (.int .i64 n)).drew
    have h61 := ((((l6f.setFar (Nat.le_refl _) (by omega) 0 (.int .i64 co)).setFar (Nat.le_refl _) (by omega) 1 (.int .i64 cA)).setFar (Nat.le_refl _) (by omega) 2 (.int .i64 cB)).setFar (Nat.le_refl _) (by omega) 3 (.slice ca cs.length cc)).drew
    have hon := ((((((((((l4f.set 0 (.int .i64 co)).set 1 (.int .i64 cA)).set 2 (.int .i64 cB)).set 3 (.slice ca cs.length cc)).setFar (Nat.le_succ _) (by omega) 0 (.int .i64 p)).setFar (Nat.le_succ _) (by omega) 1 (.int .i64 d)).setFar (Nat.le_succ _) (by omega) 2 (.int .i64 g)).setFar (Nat.le_succ _) (by omega) 3 (.int .i64 k)).setFar (Nat.le_succ _) (by omega) 4 (.int .i64 ob)).setFar (Nat.le_succ _) (by omega) 5 (.int .i64 n)).drew
    have hd7 := (OwnC.read ((((((((((hd6.setOther (g := w.heap.size) (.inl (by omega)) 0 (.int .i64 co)).setOther (g := w.heap.size) (.inl (by omega)) 1 (.int .i64 cA)).setOther (g := w.heap.size) (.inl (by omega)) 2 (.int .i64 cB)).setOther (g := w.heap.size) (.inl (by omega)) 3 (.slice ca cs.length cc)).setOther (g := w.heap.size + 1) (.inl (by omega)) 0 (.int .i64 p)).setOther (g := w.heap.size + 1) (.inl (by omega)) 1 (.int .i64 d)).setOther (g := w.heap.size + 1) (.inl (by omega)) 2 (.int .i64 g)).setOther (g := w.heap.size + 1) (.inl (by omega)) 3 (.int .i64 k)).setOther (g := w.heap.size + 1) (.inl (by omega)) 4 (.int .i64 ob)).setOther (g := w.heap.size + 1) (.inl (by omega)) 5 (.int .i64 n))).drewN 1
    have hw7 := (OwnC.read ((((((((((hw6.setOther (g := w.heap.size) (.inl (by omega)) 0 (.int .i64 co)).setOther (g := w.heap.size) (.inl (by omega)) 1 (.int .i64 cA)).setOther (g := w.heap.size) (.inl (by omega)) 2 (.int .i64 cB)).setOther (g := w.heap.size) (.inl (by omega)) 3 (.slice ca cs.length cc)).setOther (g := w.heap.size + 1) (.inl (by omega)) 0 (.int .i64 p)).setOther (g := w.heap.size + 1) (.inl (by omega)) 1 (.int .i64 d)).setOther (g := w.heap.size + 1) (.inl (by omega)) 2 (.int .i64 g)).setOther (g := w.heap.size + 1) (.inl (by omega)) 3 (.int .i64 k)).setOther (g := w.heap.size + 1) (.inl (by omega)) 4 (.int .i64 ob)).setOther (g := w.heap.size + 1) (.inl (by omega)) 5 (.int .i64 n))).drewN 1
    have hsz : w6.heap.size ≤ ((((((((((w6.setCell ⟨w.heap.size, 0, none⟩ (.int .i64 co)).setCell ⟨w.heap.size, 1, none⟩ (.int .i64 cA)).setCell ⟨w.heap.size, 2, none⟩ (.int .i64 cB)).setCell ⟨w.heap.size, 3, none⟩ (.slice ca cs.length cc)).setCell ⟨w.heap.size + 1, 0, none⟩ (.int .i64 p)).setCell ⟨w.heap.size + 1, 1, none⟩ (.int .i64 d)).setCell ⟨w.heap.size + 1, 2, none⟩ (.int .i64 g)).setCell ⟨w.heap.size + 1, 3, none⟩ (.int .i64 k)).setCell ⟨w.heap.size + 1, 4, none⟩ (.int .i64 ob)).setCell ⟨w.heap.size + 1, 5, none⟩ (.int .i64 n)).drew.heap.size := by simp [World.setCell, World.drew]
    have H := Lib.hid (⟨⟨hl, hd7.more hsz⟩, ⟨hml, hmw.out, hw7.more hsz⟩, hon.only.below (Nat.le_refl _) (by omega)⟩ : PairsIn ((((((((((w6.setCell ⟨w.heap.size, 0, none⟩ (.int .i64 co)).setCell ⟨w.heap.size, 1, none⟩ (.int .i64 cA)).setCell ⟨w.heap.size, 2, none⟩ (.int .i64 cB)).setCell ⟨w.heap.size, 3, none⟩ (.slice ca cs.length cc)).setCell ⟨w.heap.size + 1, 0, none⟩ (.int .i64 p)).setCell ⟨w.heap.size + 1, 1, none⟩ (.int .i64 d)).setCell ⟨w.heap.size + 1, 2, none⟩ (.int .i64 g)).setCell ⟨w.heap.size + 1, 3, none⟩ (.int .i64 k)).setCell ⟨w.heap.size + 1, 4, none⟩ (.int .i64 ob)).setCell ⟨w.heap.size + 1, 5, none⟩ (.int .i64 n)).drew u ls ∧ Stored ((((((((((w6.setCell ⟨w.heap.size, 0, none⟩ (.int .i64 co)).setCell ⟨w.heap.size, 1, none⟩ (.int .i64 cA)).setCell ⟨w.heap.size, 2, none⟩ (.int .i64 cB)).setCell ⟨w.heap.size, 3, none⟩ (.slice ca cs.length cc)).setCell ⟨w.heap.size + 1, 0, none⟩ (.int .i64 p)).setCell ⟨w.heap.size + 1, 1, none⟩ (.int .i64 d)).setCell ⟨w.heap.size + 1, 2, none⟩ (.int .i64 g)).setCell ⟨w.heap.size + 1, 3, none⟩ (.int .i64 k)).setCell ⟨w.heap.size + 1, 4, none⟩ (.int .i64 ob)).setCell ⟨w.heap.size + 1, 5, none⟩ (.int .i64 n)).drew v xs ∧ Below w.heap.size w ((((((((((w6.setCell ⟨w.heap.size, 0, none⟩ (.int .i64 co)).setCell ⟨w.heap.size, 1, none⟩ (.int .i64 cA)).setCell ⟨w.heap.size, 2, none⟩ (.int .i64 cB)).setCell ⟨w.heap.size, 3, none⟩ (.slice ca cs.length cc)).setCell ⟨w.heap.size + 1, 0, none⟩ (.int .i64 p)).setCell ⟨w.heap.size + 1, 1, none⟩ (.int .i64 d)).setCell ⟨w.heap.size + 1, 2, none⟩ (.int .i64 g)).setCell ⟨w.heap.size + 1, 3, none⟩ (.int .i64 k)).setCell ⟨w.heap.size + 1, 4, none⟩ (.int .i64 ob)).setCell ⟨w.heap.size + 1, 5, none⟩ (.int .i64 n)).drew)
    have r0 := l4f.cell 0 rfl
    have rf0 := l4f.frozen 0
    have r1 := l4f.cell 1 rfl
    have rf1 := l4f.frozen 1
    have r2 := l4f.cell 2 rfl
    have rf2 := l4f.frozen 2
    have r3 := l4f.cell 3 rfl
    have rf3 := l4f.frozen 3
    have s0 := l6f.cell 0 rfl
    have sf0 := l6f.frozen 0
    have s1 := l6f.cell 1 rfl
    have sf1 := l6f.frozen 1
    have s2 := l6f.cell 2 rfl
    have sf2 := l6f.frozen 2
    have s3 := l6f.cell 3 rfl
    have sf3 := l6f.frozen 3
    have s4 := l6f.cell 4 rfl
    have sf4 := l6f.frozen 4
    have s5 := l6f.cell 5 rfl
    have sf5 := l6f.frozen 5
    have x0 := lx6.cell 0 rfl
    have x1 := lx6.cell 1 rfl
    have x2 := lx6.cell 2 rfl
    have x3 := lx6.cell 3 rfl
    have q0 := lq6.cell 0 rfl
    have q1 := lq6.cell 1 rfl
    have q2 := lq6.cell 2 rfl
    have q3 := lq6.cell 3 rfl
    have q4 := lq6.cell 4 rfl
    have q5 := lq6.cell 5 rfl
    have HS := Lib.hid (fun W (h : Loc w B G 28 #[.int .i64 co, .int .i64 cA, .int .i64 cB, .slice ca cs.length cc] W) (h2 : Loc w B F 30 #[.int .i64 p, .int .i64 d, .int .i64 g, .int .i64 k, .int .i64 ob, .int .i64 n] W) => And.intro (cls_4 h.blk).1 h2.cells6)
    have k0 := HS.out _ lx6.drew lq6.drew
    have k1 := HS.out _ hx1 hq1
    have k2 := HS.out _ hx2 hq2
    clear hx1 hx2 hq1 hq2 h61 hon hd7 hw7 hd6 hw6 hc6 o6 hd hown HS
    go_region_held3 (fun w' => (w'.cell? ⟨G, 0, none⟩ = some (.int .i64 co) ∧ w'.cell? ⟨G, 1, none⟩ = some (.int .i64 cA) ∧ w'.cell? ⟨G, 2, none⟩ = some (.int .i64 cB) ∧ w'.cell? ⟨G, 3, none⟩ = some (.slice ca cs.length cc)) ∧ (w'.cell? ⟨F, 0, none⟩ = some (.int .i64 p) ∧ w'.cell? ⟨F, 1, none⟩ = some (.int .i64 d) ∧ w'.cell? ⟨F, 2, none⟩ = some (.int .i64 g) ∧ w'.cell? ⟨F, 3, none⟩ = some (.int .i64 k) ∧ w'.cell? ⟨F, 4, none⟩ = some (.int .i64 ob) ∧ w'.cell? ⟨F, 5, none⟩ = some (.int .i64 n)))
      (first | with_reducible exact k0 | with_reducible exact k1 | with_reducible exact k2)
      (fail)
    go_wp2
    refine bodyPost_ret (v := .tuple #[u, v, .agg #[.int .i64 co, .int .i64 cA, .int .i64 cB, .slice ca cs.length cc], .agg #[.int .i64 p, .int .i64 d, .int .i64 g, .int .i64 k, .int .i64 ob, .int .i64 n]]) (by simp [results, Tryz.results5, go_sem, r0, r1, r2, r3, s0, s1, s2, s3, s4, s5]) rfl ?_
    exact ⟨u, ls, v, xs, co, cA, cB, ca, _, cc, ⟨p, d, g, k, ob, n⟩, rfl, H.out.1, H.out.2.1, H.out.2.2⟩
  · go_wp2_with fail
    refine (below_any w6 B a len cap z 11 (by decide) (by decide) hc6).mono ?_
    rintro e w7 ⟨r, hr, rfl, ho7, hc7⟩
    have lx7 := lx6.call ho7
    have lq7 := lq6.call ho7
    have l47 := l4f.call ho7
    have l67 := l6f.call ho7
    have o7 := o6.trans ho7
    clear lx6 lq6 l4f l6f o6 ho7 hc6
    have c0 := lx7.cell 0 rfl
    have f0 := lx7.frozen 0
    go_upto_region 6 with fail
    obtain ⟨W8, hW8⟩ : ∃ W : World, W = w7.setCell ⟨G, 0, none⟩ (.int .i64 (r : Int)) := ⟨_, rfl⟩
    rw [← hW8]
    have lx8 : Loc w B G 28 #[.int .i64 (r : Int), .int .i64 cA, .int .i64 cB, .slice ca cs.length cc] W8 := by rw [hW8]; exact lx7.set 0 _
    have lq8 : Loc w B F 30 #[.int .i64 p, .int .i64 d, .int .i64 g, .int .i64 k, .int .i64 ob, .int .i64 n] W8 := by rw [hW8]; exact lq7.setFar (by omega) (by omega) _ _
    have l48 : Loc w B w.heap.size 28 #[.int .i64 0, .int .i64 0, .int .i64 0, .slice none 0 0] W8 := by rw [hW8]; exact l47.setFar (by omega) (by omega) _ _
    have l68 : Loc w B (w.heap.size + 1) 30 #[.int .i64 0, .int .i64 0, .int .i64 0, .int .i64 0, .int .i64 0, .int .i64 0] W8 := by rw [hW8]; exact l67.setFar (by omega) (by omega) _ _
    have o8 : Only B w2 W8 := by rw [hW8]; exact o7.setNew (by show w2.heap.size ≤ G; omega) _
    have hc6 := hc7
    clear hW8 lx7 lq7 l47 l67 o7 hc7 c0 f0
    have hd6 := (hd.only o8 hB1).wide (Nat.le_refl _) (hi' := W8.heap.size) o8.size
    have hw6 := (hown.only o8 hB1).wide (Nat.le_refl _) (hi' := W8.heap.size) o8.size
    have hx1 := ((((lx8.setFar (Nat.le_refl _) (by omega) 0 (.int .i64 (r : Int))).setFar (Nat.le_refl _) (by omega) 1 (.int .i64 cA)).setFar (Nat.le_refl _) (by omega) 2 (.int .i64 cB)).setFar (Nat.le_refl _) (by omega) 3 (.slice ca cs.length cc)).drew
    have hx2 := ((((((((((lx8.setFar (Nat.le_refl _) (by omega) 0 (.int .i64 (r : Int))).setFar (Nat.le_refl _) (by omega) 1 (.int .i64 cA)).setFar (Nat.le_refl _) (by omega) 2 (.int .i64 cB)).setFar (Nat.le_refl _) (by omega) 3 (.slice ca cs.length cc)).setFar (Nat.le_succ _) (by omega) 0 (.int .i64 p)).setFar (Nat.le_succ _) (by omega) 1 (.int .i64 d)).setFar (Nat.le_succ _) (by omega) 2 (.int .i64 g)).setFar (Nat.le_succ _) (by omega) 3 (.int .i64 k)).setFar (Nat.le_succ _) (by omega) 4 (.int .i64 ob)).setFar (Nat.le_succ _) (by omega) 5 (.int .i64 n)).drew
    have hq1 := ((((lq8.setFar (Nat.le_refl _) (by omega) 0 (.int .i64 (r : Int))).setFar (Nat.le_refl _) (by omega) 1 (.int .i64 cA)).setFar (Nat.le_refl _) (by omega) 2 (.int .i64 cB)).setFar (Nat.le_refl _) (by omega) 3 (.slice ca cs.length cc)).drew
    have hq2 := ((((((((((lq8.setFar (Nat.le_refl _) (by omega) 0 (.int .i64 (r : Int))).setFar (Nat.le_refl _) (by omega) 1 (.int .i64 cA)).setFar (Nat.le_refl _) (by omega) 2 (.int .i64 cB)).setFar (Nat.le_refl _) (by omega) 3 (.slice ca cs.length cc)).setFar (Nat.le_succ _) (by omega) 0 (.int .i64 p)).setFar (Nat.le_succ _) (by omega) 1 (.int .i64 d)).setFar (Nat.le_succ _) (by omega) 2 (.int .i64 g)).setFar (Nat.le_succ _) (by omega) 3 (.int .i64 k)).setFar (Nat.le_succ _) (by omega) 4 (.int .i64 ob)).setFar (Nat.le_succ _) (by omega) 5 (.int .i64 n)).drew
    have h61 := ((((l68.setFar (Nat.le_refl _) (by omega) 0 (.int .i64 (r : Int))).setFar (Nat.le_refl _) (by omega) 1 (.int .i64 cA)).setFar (Nat.le_refl _) (by omega) 2 (.int .i64 cB)).setFar (Nat.le_refl _) (by omega) 3 (.slice ca cs.length cc)).drew
    have hon := ((((((((((l48.set 0 (.int .i64 (r : Int))).set 1 (.int .i64 cA)).set 2 (.int .i64 cB)).set 3 (.slice ca cs.length cc)).setFar (Nat.le_succ _) (by omega) 0 (.int .i64 p)).setFar (Nat.le_succ _) (by omega) 1 (.int .i64 d)).setFar (Nat.le_succ _) (by omega) 2 (.int .i64 g)).setFar (Nat.le_succ _) (by omega) 3 (.int .i64 k)).setFar (Nat.le_succ _) (by omega) 4 (.int .i64 ob)).setFar (Nat.le_succ _) (by omega) 5 (.int .i64 n)).drew
    have hd7 := (OwnC.read ((((((((((hd6.setOther (g := w.heap.size) (.inl (by omega)) 0 (.int .i64 (r : Int))).setOther (g := w.heap.size) (.inl (by omega)) 1 (.int .i64 cA)).setOther (g := w.heap.size) (.inl (by omega)) 2 (.int .i64 cB)).setOther (g := w.heap.size) (.inl (by omega)) 3 (.slice ca cs.length cc)).setOther (g := w.heap.size + 1) (.inl (by omega)) 0 (.int .i64 p)).setOther (g := w.heap.size + 1) (.inl (by omega)) 1 (.int .i64 d)).setOther (g := w.heap.size + 1) (.inl (by omega)) 2 (.int .i64 g)).setOther (g := w.heap.size + 1) (.inl (by omega)) 3 (.int .i64 k)).setOther (g := w.heap.size + 1) (.inl (by omega)) 4 (.int .i64 ob)).setOther (g := w.heap.size + 1) (.inl (by omega)) 5 (.int .i64 n))).drewN 1
    have hw7 := (OwnC.read ((((((((((hw6.setOther (g := w.heap.size) (.inl (by omega)) 0 (.int .i64 (r : Int))).setOther (g := w.heap.size) (.inl (by omega)) 1 (.int .i64 cA)).setOther (g := w.heap.size) (.inl (by omega)) 2 (.int .i64 cB)).setOther (g := w.heap.size) (.inl (by omega)) 3 (.slice ca cs.length cc)).setOther (g := w.heap.size + 1) (.inl (by omega)) 0 (.int .i64 p)).setOther (g := w.heap.size + 1) (.inl (by omega)) 1 (.int .i64 d)).setOther (g := w.heap.size + 1) (.inl (by omega)) 2 (.int .i64 g)).setOther (g := w.heap.size + 1) (.inl (by omega)) 3 (.int .i64 k)).setOther (g := w.heap.size + 1) (.inl (by omega)) 4 (.int .i64 ob)).setOther (g := w.heap.size + 1) (.inl (by omega)) 5 (.int .i64 n))).drewN 1
    have hsz : W8.heap.size ≤ ((((((((((W8.setCell ⟨w.heap.size, 0, none⟩ (.int .i64 (r : Int))).setCell ⟨w.heap.size, 1, none⟩ (.int .i64 cA)).setCell ⟨w.heap.size, 2, none⟩ (.int .i64 cB)).setCell ⟨w.heap.size, 3, none⟩ (.slice ca cs.length cc)).setCell ⟨w.heap.size + 1, 0, none⟩ (.int .i64 p)).setCell ⟨w.heap.size + 1, 1, none⟩ (.int .i64 d)).setCell ⟨w.heap.size + 1, 2, none⟩ (.int .i64 g)).setCell ⟨w.heap.size + 1, 3, none⟩ (.int .i64 k)).setCell ⟨w.heap.size + 1, 4, none⟩ (.int .i64 ob)).setCell ⟨w.heap.size + 1, 5, none⟩ (.int .i64 n)).drew.heap.size := by simp [World.setCell, World.drew]
    have H := Lib.hid (⟨⟨hl, hd7.more hsz⟩, ⟨hml, hmw.out, hw7.more hsz⟩, hon.only.below (Nat.le_refl _) (by omega)⟩ : PairsIn ((((((((((W8.setCell ⟨w.heap.size, 0, none⟩ (.int .i64 (r : Int))).setCell ⟨w.heap.size, 1, none⟩ (.int .i64 cA)).setCell ⟨w.heap.size, 2, none⟩ (.int .i64 cB)).setCell ⟨w.heap.size, 3, none⟩ (.slice ca cs.length cc)).setCell ⟨w.heap.size + 1, 0, none⟩ (.int .i64 p)).setCell ⟨w.heap.size + 1, 1, none⟩ (.int .i64 d)).setCell ⟨w.heap.size + 1, 2, none⟩ (.int .i64 g)).setCell ⟨w.heap.size + 1, 3, none⟩ (.int .i64 k)).setCell ⟨w.heap.size + 1, 4, none⟩ (.int .i64 ob)).setCell ⟨w.heap.size + 1, 5, none⟩ (.int .i64 n)).drew u ls ∧ Stored ((((((((((W8.setCell ⟨w.heap.size, 0, none⟩ (.int .i64 (r : Int))).setCell ⟨w.heap.size, 1, none⟩ (.int .i64 cA)).setCell ⟨w.heap.size, 2, none⟩ (.int .i64 cB)).setCell ⟨w.heap.size, 3, none⟩ (.slice ca cs.length cc)).setCell ⟨w.heap.size + 1, 0, none⟩ (.int .i64 p)).setCell ⟨w.heap.size + 1, 1, none⟩ (.int .i64 d)).setCell ⟨w.heap.size + 1, 2, none⟩ (.int .i64 g)).setCell ⟨w.heap.size + 1, 3, none⟩ (.int .i64 k)).setCell ⟨w.heap.size + 1, 4, none⟩ (.int .i64 ob)).setCell ⟨w.heap.size + 1, 5, none⟩ (.int .i64 n)).drew v xs ∧ Below w.heap.size w ((((((((((W8.setCell ⟨w.heap.size, 0, none⟩ (.int .i64 (r : Int))).setCell ⟨w.heap.size, 1, none⟩ (.int .i64 cA)).setCell ⟨w.heap.size, 2, none⟩ (.int .i64 cB)).setCell ⟨w.heap.size, 3, none⟩ (.slice ca cs.length cc)).setCell ⟨w.heap.size + 1, 0, none⟩ (.int .i64 p)).setCell ⟨w.heap.size + 1, 1, none⟩ (.int .i64 d)).setCell ⟨w.heap.size + 1, 2, none⟩ (.int .i64 g)).setCell ⟨w.heap.size + 1, 3, none⟩ (.int .i64 k)).setCell ⟨w.heap.size + 1, 4, none⟩ (.int .i64 ob)).setCell ⟨w.heap.size + 1, 5, none⟩ (.int .i64 n)).drew)
    have r0 := l48.cell 0 rfl
    have rf0 := l48.frozen 0
    have r1 := l48.cell 1 rfl
    have rf1 := l48.frozen 1
    have r2 := l48.cell 2 rfl
    have rf2 := l48.frozen 2
    have r3 := l48.cell 3 rfl
    have rf3 := l48.frozen 3
    have s0 := l68.cell 0 rfl
    have sf0 := l68.frozen 0
    have s1 := l68.cell 1 rfl
    have sf1 := l68.frozen 1
    have s2 := l68.cell 2 rfl
    have sf2 := l68.frozen 2
    have s3 := l68.cell 3 rfl
    have sf3 := l68.frozen 3
    have s4 := l68.cell 4 rfl
    have sf4 := l68.frozen 4
    have s5 := l68.cell 5 rfl
    have sf5 := l68.frozen 5
    have x0 := lx8.cell 0 rfl
    have x1 := lx8.cell 1 rfl
    have x2 := lx8.cell 2 rfl
    have x3 := lx8.cell 3 rfl
    have q0 := lq8.cell 0 rfl
    have q1 := lq8.cell 1 rfl
    have q2 := lq8.cell 2 rfl
    have q3 := lq8.cell 3 rfl
    have q4 := lq8.cell 4 rfl
    have q5 := lq8.cell 5 rfl
    have HS := Lib.hid (fun W (h : Loc w B G 28 #[.int .i64 (r : Int), .int .i64 cA, .int .i64 cB, .slice ca cs.length cc] W) (h2 : Loc w B F 30 #[.int .i64 p, .int .i64 d, .int .i64 g, .int .i64 k, .int .i64 ob, .int .i64 n] W) => And.intro (cls_4 h.blk).1 h2.cells6)
    have k0 := HS.out _ lx8.drew lq8.drew
    have k1 := HS.out _ hx1 hq1
    have k2 := HS.out _ hx2 hq2
    clear hx1 hx2 hq1 hq2 h61 hon hd7 hw7 hd6 hw6 hc6 o8 hd hown HS
    go_region_held3 (fun w' => (w'.cell? ⟨G, 0, none⟩ = some (.int .i64 (r : Int)) ∧ w'.cell? ⟨G, 1, none⟩ = some (.int .i64 cA) ∧ w'.cell? ⟨G, 2, none⟩ = some (.int .i64 cB) ∧ w'.cell? ⟨G, 3, none⟩ = some (.slice ca cs.length cc)) ∧ (w'.cell? ⟨F, 0, none⟩ = some (.int .i64 p) ∧ w'.cell? ⟨F, 1, none⟩ = some (.int .i64 d) ∧ w'.cell? ⟨F, 2, none⟩ = some (.int .i64 g) ∧ w'.cell? ⟨F, 3, none⟩ = some (.int .i64 k) ∧ w'.cell? ⟨F, 4, none⟩ = some (.int .i64 ob) ∧ w'.cell? ⟨F, 5, none⟩ = some (.int .i64 n)))
      (first | with_reducible exact k0 | with_reducible exact k1 | with_reducible exact k2)
      (fail)
    go_wp2
    refine bodyPost_ret (v := .tuple #[u, v, .agg #[.int .i64 (r : Int), .int .i64 cA, .int .i64 cB, .slice ca cs.length cc], .agg #[.int .i64 p, .int .i64 d, .int .i64 g, .int .i64 k, .int .i64 ob, .int .i64 n]]) (by simp [results, Tryz.results5, go_sem, r0, r1, r2, r3, s0, s1, s2, s3, s4, s5]) rfl ?_
    exact ⟨u, ls, v, xs, (r : Int), cA, cB, ca, _, cc, ⟨p, d, g, k, ob, n⟩, rfl, H.out.1, H.out.2.1, H.out.2.2⟩
theorem draw_isFact (w : World) (a : Option Addr) (len cap : Nat) (z : List Int) (hr : IsRow .u8 w a len cap z) :
    Calls Tryz.prog 6 #[.slice a len cap] w fun e w' => ∃ x : FactD, e = .returned x.val ∧ x.wf ∧ Below w.heap.size w w' := by
  go_enter Tryz.func6, Tryz.ntmps6
  go_wp2_with fail
  refine (new_any _ a len cap z (hr.below ((Below.refl _ _).alloc (Nat.le_refl _) _))).mono ?_
  rintro e w1 ⟨B, rfl, hB, hb1, hc1⟩
  have hR : Loc w B w.heap.size 34 #[.int .i64 0, .int .i64 0, .int .i64 0, .int .i64 0, .int .i64 0, .int .i64 0] w1 := Loc.early ((Below.refl _ _).alloc (Nat.le_refl _) _) hb1 (blk_new _ _ _) (Nat.le_refl _) (by simp) hB
  have hBw : w.heap.size ≤ B := by rw [size_alloc] at hB; omega
  clear hb1 hr hB
  go_wp2_with fail
  refine (anyFact_any w1 B a len cap z hc1).mono ?_
  rintro e w2 ⟨⟨k, s, v, i, t, u⟩, hx, rfl, ho2, hc2⟩
  rw [FactD.val_mk]
  have hR2 := hR.call ho2
  have H := Lib.hid ((((((((hR2.set 0 (.int .i64 k)).set 1 (.int .i64 s)).set 2 (.int .i64 v)).set 3 (.int .i64 i)).set 4 (.int .i64 t)).set 5 (.int .i64 u)).only.below (Nat.le_refl _) hBw) : Below w.heap.size w _)
  have HX := Lib.hid hx
  obtain ⟨r0, r1, r2, r3, r4, r5⟩ := hR2.cells6
  have g0 := hR2.frozen 0
  have g1 := hR2.frozen 1
  have g2 := hR2.frozen 2
  have g3 := hR2.frozen 3
  have g4 := hR2.frozen 4
  have g5 := hR2.frozen 5
  clear hR ho2 hc2 hc1 hR2 hx
  go_wp2
  refine bodyPost_ret (v := .agg #[.int .i64 k, .int .i64 s, .int .i64 v, .int .i64 i, .int .i64 t, .int .i64 u]) (by simp [results, Tryz.results6, go_sem, r0, r1, r2, r3, r4, r5]) rfl ?_
  exact ⟨⟨k, s, v, i, t, u⟩, rfl, HX.out, H.out⟩
set_option maxHeartbeats 4000000 in
theorem draw_atTime (w : World) (a : Option Addr) (len cap : Nat) (z : List Int) (hr : IsRow .u8 w a len cap z) :
    Calls Tryz.prog 8 #[.slice a len cap] w fun e w' => ∃ (q : RequestD) (t : Int), e = .returned (.tuple #[q.val, .int .i64 t]) ∧ (-9223372036854775808 ≤ t ∧ t ≤ 9223372036854775807) ∧ q.wf ∧ Below w.heap.size w w' := by
  go_enter Tryz.func8, Tryz.ntmps8
  go_wp2_with fail
  refine (new_any _ a len cap z (hr.below ((Below.refl _ _).alloc (Nat.le_refl _) _))).mono ?_
  rintro e w1 ⟨B, rfl, hB, hb1, hc1⟩
  have hR : Loc w B w.heap.size 30 #[.int .i64 0, .int .i64 0, .int .i64 0, .int .i64 0, .int .i64 0, .int .i64 0] w1 := Loc.early ((Below.refl _ _).alloc (Nat.le_refl _) _) hb1 (blk_new _ _ _) (Nat.le_refl _) (by simp) hB
  have hBw : w.heap.size ≤ B := by rw [size_alloc] at hB; omega
  clear hb1 hr hB
  go_wp2_with fail
  refine (anyReq_any w1 B a len cap z hc1).mono ?_
  rintro e w2 ⟨⟨p, d, g, k, ob, n⟩, hx, rfl, ho2, hc2⟩
  rw [RequestD.val_mk]
  have hR2 := hR.call ho2
  clear hR ho2 hc1
  go_upto_region 3 with fail
  obtain ⟨W3, hW3⟩ : ∃ W : World, W = w2.alloc (.cells #[.int .i64 p, .int .i64 d, .int .i64 g, .int .i64 k, .int .i64 ob, .int .i64 n] 30) := ⟨_, rfl⟩
  rw [← hW3]
  have lf3 : Loc w B w2.heap.size 30 #[.int .i64 p, .int .i64 d, .int .i64 g, .int .i64 k, .int .i64 ob, .int .i64 n] W3 := by rw [hW3]; exact Loc.mk_new hR2.only hc2.lt
  have lr3 : Loc w B w.heap.size 30 #[.int .i64 0, .int .i64 0, .int .i64 0, .int .i64 0, .int .i64 0, .int .i64 0] W3 := by rw [hW3]; exact hR2.alloc _
  have hc3 : Cur W3 B a len cap z := by rw [hW3]; exact hc2.alloc _
  have hFR : w2.heap.size ≠ w.heap.size := by have := hR2.lt; omega
  have HX := Lib.hid hx
  clear hW3 hR2 hc2 hx
  generalize w2.heap.size = F at lf3 hFR ⊢
  have ld := lf3.drew
  have lrd := lr3.drew
  have hcd : Cur W3.drew B a len cap z := hc3.drewN 1
  have kd := ld.cells6
  go_region_held3 (fun w' => w'.cell? ⟨F, 0, none⟩ = some (.int .i64 p) ∧ w'.cell? ⟨F, 1, none⟩ = some (.int .i64 d) ∧ w'.cell? ⟨F, 2, none⟩ = some (.int .i64 g) ∧ w'.cell? ⟨F, 3, none⟩ = some (.int .i64 k) ∧ w'.cell? ⟨F, 4, none⟩ = some (.int .i64 ob) ∧ w'.cell? ⟨F, 5, none⟩ = some (.int .i64 n))
    (first | with_reducible exact kd | with_reducible exact k4 | with_reducible exact k5)
    (first | (go_at_call 27; (with_reducible refine (time_any _ B a len cap z hcd).mono ?_); rintro e4 w4 ⟨t, ht0, ht1, rfl, ho4, hc4⟩; have l4 := ld.call ho4; have lr4 := lrd.call ho4; have k4 := l4.cells6; have k5 := (((((((l4.setFar (Nat.le_refl _) hFR 0 (.int .i64 p)).setFar (Nat.le_refl _) hFR 1 (.int .i64 d)).setFar (Nat.le_refl _) hFR 2 (.int .i64 g)).setFar (Nat.le_refl _) hFR 3 (.int .i64 k)).setFar (Nat.le_refl _) hFR 4 (.int .i64 ob)).setFar (Nat.le_refl _) hFR 5 (.int .i64 n))).cells6; obtain ⟨r0, r1, r2, r3, r4, r5⟩ := lr4.cells6; have g0 := lr4.frozen 0; have g1 := lr4.frozen 1; have g2 := lr4.frozen 2; have g3 := lr4.frozen 3; have g4 := lr4.frozen 4; have g5 := lr4.frozen 5))
  have H := Lib.hid (((((((lr4.set 0 (.int .i64 p)).set 1 (.int .i64 d)).set 2 (.int .i64 g)).set 3 (.int .i64 k)).set 4 (.int .i64 ob)).set 5 (.int .i64 n)).only.below (Nat.le_refl _) hBw)
  go_wp2
  refine bodyPost_ret (v := .tuple #[.agg #[.int .i64 p, .int .i64 d, .int .i64 g, .int .i64 k, .int .i64 ob, .int .i64 n], .int .i64 t]) (by simp [results, Tryz.results8, go_sem, r0, r1, r2, r3, r4, r5]) rfl ?_
  exact ⟨⟨p, d, g, k, ob, n⟩, t, rfl, ⟨ht0, ht1⟩, HX.out, H.out⟩
end Go.Proofs.YtmgigjpkpeamjaaGreat
