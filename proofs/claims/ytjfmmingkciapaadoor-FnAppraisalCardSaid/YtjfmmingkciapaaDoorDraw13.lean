/- The draws of chapter 13's inputs: rules. -/
import Derived.Test.YtjfmmingkciapaaDoorTri
import Derived.Test.YtjfmmingkciapaaDoorDraws
import Derived.Test.YtjfmmingkciapaaDoorGround
import Derived.Handy
namespace Go.Proofs.YtjfmmingkciapaaDoor
open Go.ChangeShapes Go.WideShapes Go.ChangeAt Go.RowKit
set_option linter.unusedVariables false

theorem below_of_grown {w w' : World} {L : Nat} {x : Option Nat} (hg : w.grownBy w' x) (hx : ∀ k, x = some k → L ≤ k) (hL : L ≤ w.heap.size) : Below L w w' :=
  ⟨hg.os, hg.tape, hg.output, hg.size, fun k hk => hg.block k (by omega) fun e => by have := hx k e.symm; omega⟩
theorem Loc.grown {w0 w w' : World} {B f : Nat} {T : TypeId} {cs : Array Value} {x : Option Nat} (h : Loc w0 B f T cs w) (hg : w.grownBy w' x) (hx : ∀ k, x = some k → w0.heap.size ≤ k) (hf : x = some f → False) : Loc w0 B f T cs w' :=
  ⟨grown_only hg hx h.only (Nat.le_refl _), h.new, h.ne, (hg.block f h.lt fun e => hf e.symm).trans h.blk⟩
theorem Loc.cells4 {w0 w : World} {B f : Nat} {T : TypeId} {v0 v1 v2 v3 : Value} (h : Loc w0 B f T #[v0, v1, v2, v3] w) : w.cell? ⟨f, 0, none⟩ = some v0 ∧ w.cell? ⟨f, 1, none⟩ = some v1 ∧ w.cell? ⟨f, 2, none⟩ = some v2 ∧ w.cell? ⟨f, 3, none⟩ = some v3 :=
  ⟨h.cell 0 rfl, h.cell 1 rfl, h.cell 2 rfl, h.cell 3 rfl⟩
theorem wf_snoc {l : List Int} {k : Nat} (h : ∀ x ∈ l, (Lit.int .i64 x).wf = true) (hk : k < 6) : ∀ x ∈ l ++ [(k : Int)], (Lit.int .i64 x).wf = true := fun x hx => by
  rcases List.mem_append.1 hx with hx | hx
  · exact h x hx
  · obtain rfl := List.mem_singleton.1 hx
    exact wf_i64 (by omega) (by omega)
theorem Only.trans' {B R : Nat} {a b c : World} (h : Only B a b) (t : Touch [R] b c) (hR : a.heap.size ≤ R) : Only B a c :=
  ⟨t.os.trans h.os, t.tape.trans h.tape, t.output.trans h.output, Nat.le_trans h.size t.size, fun k hk hn => (t.block k (Nat.lt_of_lt_of_le hk h.size) (by rw [List.mem_singleton]; omega)).trans (h.block k hk hn)⟩
set_option maxHeartbeats 8000000 in
set_option maxRecDepth 100000 in
theorem allowed_any (w : World) (B : Nat) (a : Option Addr) (len cap : Nat) (z : List Int) (hc : Cur w B a len cap z) :
    Calls Tryd.prog 17 #[.pointer (some ⟨B, 0, none⟩)] w fun e w' => ∃ (ver : Int) (v1 v2 v3 : Value) (g o b : List Int), e = .returned (.agg #[.int .i64 ver, v1, v2, v3]) ∧ (0 ≤ ver ∧ ver < 4) ∧ (g.length ≤ 6 ∧ o.length ≤ 6 ∧ b.length ≤ 6) ∧ (∃ F, Tri 3 w' w.heap.size F v1 v2 v3 g o b) ∧ Only B w w' ∧ Cur w' B a len cap z := by
  obtain ⟨i0, hi0, hz0, hz1, hz2⟩ := info_parts infoIntS
  have hlt := hc.lt
  have lR0 : Loc w B w.heap.size 26 #[.int .i64 0, .slice none 0 0, .slice none 0 0, .slice none 0 0] (w.alloc (.cells #[.int .i64 0, .slice none 0 0, .slice none 0 0, .slice none 0 0] 26)) := Loc.mk_new (Only.refl _ _) hlt
  have hc0 := hc.alloc (.cells #[.int .i64 0, .slice none 0 0, .slice none 0 0, .slice none 0 0] 26)
  go_enter Tryd.func17, Tryd.ntmps17
  go_wp2_with fail
  refine (below_any _ B a len cap z 4 (by decide) (by decide) hc0).mono ?_
  rintro e w1 ⟨ver, hver, rfl, ho1, hc1⟩
  have lR1 := lR0.call ho1
  obtain ⟨W2, hW2⟩ : ∃ W2, W2 = w1.alloc (.cells #[.int .i64 (ver : Int), .slice none 0 0, .slice none 0 0, .slice none 0 0] 26) := ⟨_, rfl⟩
  have lF2 : Loc w B w1.heap.size 26 #[.int .i64 (ver : Int), .slice none 0 0, .slice none 0 0, .slice none 0 0] W2 := by rw [hW2]; exact Loc.mk_new lR1.only hc1.lt
  have lR2 : Loc w B w.heap.size 26 #[.int .i64 0, .slice none 0 0, .slice none 0 0, .slice none 0 0] W2 := by rw [hW2]; exact lR1.alloc _
  have hc2 : Cur W2 B a len cap z := by rw [hW2]; exact hc1.alloc _
  have hRF1 := lR1.lt
  have hz2' : W2.heap.size = w1.heap.size + 1 := by rw [hW2]; simp
  clear lR0 hc0 ho1 hc1 lR1
  go_upto_region 2 with fail
  rw [← hW2]
  clear hW2
  obtain ⟨L, hL⟩ : ∃ L, W2.heap.size = L := ⟨_, rfl⟩
  obtain ⟨F, hF⟩ : ∃ F, w1.heap.size = F := ⟨_, rfl⟩
  rw [hF] at lF2 hRF1 hz2' ⊢
  rw [hL] at hz2'
  have hT2 : Tri 3 W2 L F (.slice none 0 0) (.slice none 0 0) (.slice none 0 0) [] [] [] := Tri.none W2 L F
  have hL0 : w.heap.size ≤ L := by omega
  have hBL : B < L := by omega
  have hBF : B < F := by omega
  have hRF : w.heap.size ≠ F := by omega
  have hRL : w.heap.size < L := by omega
  clear hF
  go_wp2
  go_loopw [4] (fun i wr => ∃ (k : Nat) (v1 v2 v3 : Value) (g o b : List Int), k ≤ 6 ∧ i = .int .i64 (k : Int) ∧ Hid (g.length ≤ k ∧ o.length ≤ k ∧ b.length ≤ k) ∧ Hid (Loc w B F 26 #[.int .i64 (ver : Int), v1, v2, v3] wr) ∧ Hid (Loc w B w.heap.size 26 #[.int .i64 0, .slice none 0 0, .slice none 0 0, .slice none 0 0] wr) ∧ Hid (Tri 3 wr L F v1 v2 v3 g o b) ∧ Hid (Cur wr B a len cap z)) (fun i _ => 6 - (intOf i).toNat)
  case atStart => exact ⟨0, .slice none 0 0, .slice none 0 0, .slice none 0 0, [], [], [], Nat.zero_le _, rfl, Lib.hid ⟨Nat.le_refl _, Nat.le_refl _, Nat.le_refl _⟩, Lib.hid lF2, Lib.hid lR2, Lib.hid hT2, Lib.hid hc2⟩
  case round =>
    obtain ⟨k, v1, v2, v3, g, o, b, hk, rfl, HLn, HF, HR, HT, HCr⟩ := hrel
    obtain ⟨hn1, hn2, hn3⟩ := HLn.out
    obtain ⟨a1, k1, rfl, -⟩ := id HT.out.o1.read.form
    obtain ⟨a2, k2, rfl, -⟩ := id HT.out.o2.read.form
    obtain ⟨a3, k3, rfl, -⟩ := id HT.out.o3.read.form
    by_cases hlt6 : k < 6
    · have hlt6i : (k : Int) < 6 := by omega
      go_wp2_with fail
      refine (below_any wr B a len cap z 5 (by decide) (by decide) HCr.out).mono ?_
      rintro e w4 ⟨n, hn, rfl, ho4, hc4⟩
      have hT4 := HT.out.only ho4 hBL
      have lF4 := HF.out.call ho4
      have lR4 := HR.out.call ho4
      have hwk1 := wf_snoc hT4.o1.wf hlt6
      have hwk2 := wf_snoc hT4.o2.wf hlt6
      have hwk3 := wf_snoc hT4.o3.wf hlt6
      have hLw : L ≤ w4.heap.size := by have := lF4.lt; omega
      clear HF HR HT HCr lF2 lR2 hT2 hc2
      have hcs : n = 0 ∨ n = 1 ∨ n = 2 ∨ n = 3 ∨ n = 4 := by omega
      rcases hcs with rfl | rfl | rfl | rfl | rfl
      · skip
        have hT5 := hT4.below ((Below.refl w4.heap.size w4).alloc (Nat.le_refl _) (.cells #[.int .i64 (k : Int)] 3))
        have lF5 := lF4.alloc (.cells #[.int .i64 (k : Int)] 3)
        have lR5 := lR4.alloc (.cells #[.int .i64 (k : Int)] 3)
        have hc5 := hc4.alloc (.cells #[.int .i64 (k : Int)] 3)
        have hlF := lF5.lt
        have hLs : L ≤ (w4.alloc (.cells #[.int .i64 (k : Int)] 3)).heap.size := by have := ho4.size; simp; omega
        obtain ⟨c0, c1, c2, c3⟩ := lF4.cells4
        go_wp2_with (at_builtin; refine wpList_append_one rfl _ _ 24 rfl 3 i0 (.int .i64 0) 8 Tryd.underlying24 hi0 hz0 hz1 hz2 rfl _ _ _ g rfl hT5.o1 w4 (k : Int) 3 rfl rfl (by omega) (by decide) hLs ?_; intro v6 w6 g1 g2 g3; obtain ⟨l6, hl6⟩ : ∃ l6, g ++ [(k : Int)] = l6 := ⟨_, rfl⟩; have HN6 := Lib.hid (show l6.length = g.length + 1 by rw [← hl6]; simp); rw [hl6] at g1; have hw6 := hwk1; rw [hl6] at hw6; clear hl6; have hT6 := hT5.app1 hlF g1 hw6 g2 g3; have lF6 := lF5.grown g2 (fun j e => Nat.le_trans hL0 (hT5.o1.lt j e).1) hT5.f1; have lR6 := lR5.grown g2 (fun j e => Nat.le_trans hL0 (hT5.o1.lt j e).1) (fun e => by have := (hT5.o1.lt _ e).1; omega); have hc6 := hc5.kept (below_of_grown g2 (fun j e => (hT5.o1.lt j e).1) hLs) hBL; obtain ⟨a6, k6, rfl, -⟩ := id hT6.o1.read.form; obtain ⟨z0, z1, z2, z3⟩ := lF6.cells4; have y1 := lF6.frozen 1; have lF7 := lF6.set 1 (.slice a6 l6.length k6); have lR7 := lR6.setFar lF6.new hRF 1 (.slice a6 l6.length k6); have hT7 := hT6.setF 1 (.slice a6 l6.length k6); have hc7 := hc6.setFar hBF 1 (.slice a6 l6.length k6))
        go_roundw
        case rel => exact ⟨k + 1, .slice a6 l6.length k6, .slice a2 o.length k2, .slice a3 b.length k3, l6, o, b, by omega, by go_num, Lib.hid (by have := HN6.out; omega), Lib.hid lF7, Lib.hid lR7, Lib.hid hT7, Lib.hid hc7⟩
        case measure => simp only [intOf]; omega
      · skip
        have hT5 := hT4.below ((Below.refl w4.heap.size w4).alloc (Nat.le_refl _) (.cells #[.int .i64 (k : Int)] 3))
        have lF5 := lF4.alloc (.cells #[.int .i64 (k : Int)] 3)
        have lR5 := lR4.alloc (.cells #[.int .i64 (k : Int)] 3)
        have hc5 := hc4.alloc (.cells #[.int .i64 (k : Int)] 3)
        have hlF := lF5.lt
        have hLs : L ≤ (w4.alloc (.cells #[.int .i64 (k : Int)] 3)).heap.size := by have := ho4.size; simp; omega
        obtain ⟨c0, c1, c2, c3⟩ := lF4.cells4
        go_wp2_with (at_builtin; refine wpList_append_one rfl _ _ 24 rfl 3 i0 (.int .i64 0) 8 Tryd.underlying24 hi0 hz0 hz1 hz2 rfl _ _ _ g rfl hT5.o1 w4 (k : Int) 3 rfl rfl (by omega) (by decide) hLs ?_; intro v6 w6 g1 g2 g3; obtain ⟨l6, hl6⟩ : ∃ l6, g ++ [(k : Int)] = l6 := ⟨_, rfl⟩; have HN6 := Lib.hid (show l6.length = g.length + 1 by rw [← hl6]; simp); rw [hl6] at g1; have hw6 := hwk1; rw [hl6] at hw6; clear hl6; have hT6 := hT5.app1 hlF g1 hw6 g2 g3; have lF6 := lF5.grown g2 (fun j e => Nat.le_trans hL0 (hT5.o1.lt j e).1) hT5.f1; have lR6 := lR5.grown g2 (fun j e => Nat.le_trans hL0 (hT5.o1.lt j e).1) (fun e => by have := (hT5.o1.lt _ e).1; omega); have hc6 := hc5.kept (below_of_grown g2 (fun j e => (hT5.o1.lt j e).1) hLs) hBL; obtain ⟨a6, k6, rfl, -⟩ := id hT6.o1.read.form; obtain ⟨z0, z1, z2, z3⟩ := lF6.cells4; have y1 := lF6.frozen 1; have lF7 := lF6.set 1 (.slice a6 l6.length k6); have lR7 := lR6.setFar lF6.new hRF 1 (.slice a6 l6.length k6); have hT7 := hT6.setF 1 (.slice a6 l6.length k6); have hc7 := hc6.setFar hBF 1 (.slice a6 l6.length k6))
        go_roundw
        case rel => exact ⟨k + 1, .slice a6 l6.length k6, .slice a2 o.length k2, .slice a3 b.length k3, l6, o, b, by omega, by go_num, Lib.hid (by have := HN6.out; omega), Lib.hid lF7, Lib.hid lR7, Lib.hid hT7, Lib.hid hc7⟩
        case measure => simp only [intOf]; omega
      · skip
        have hT5 := hT4.below ((Below.refl w4.heap.size w4).alloc (Nat.le_refl _) (.cells #[.int .i64 (k : Int)] 3))
        have lF5 := lF4.alloc (.cells #[.int .i64 (k : Int)] 3)
        have lR5 := lR4.alloc (.cells #[.int .i64 (k : Int)] 3)
        have hc5 := hc4.alloc (.cells #[.int .i64 (k : Int)] 3)
        have hlF := lF5.lt
        have hLs : L ≤ (w4.alloc (.cells #[.int .i64 (k : Int)] 3)).heap.size := by have := ho4.size; simp; omega
        obtain ⟨c0, c1, c2, c3⟩ := lF4.cells4
        go_wp2_with (at_builtin; refine wpList_append_one rfl _ _ 24 rfl 3 i0 (.int .i64 0) 8 Tryd.underlying24 hi0 hz0 hz1 hz2 rfl _ _ _ o rfl hT5.o2 w4 (k : Int) 3 rfl rfl (by omega) (by decide) hLs ?_; intro v6 w6 g1 g2 g3; obtain ⟨l6, hl6⟩ : ∃ l6, o ++ [(k : Int)] = l6 := ⟨_, rfl⟩; have HN6 := Lib.hid (show l6.length = o.length + 1 by rw [← hl6]; simp); rw [hl6] at g1; have hw6 := hwk2; rw [hl6] at hw6; clear hl6; have hT6 := hT5.app2 hlF g1 hw6 g2 g3; have lF6 := lF5.grown g2 (fun j e => Nat.le_trans hL0 (hT5.o2.lt j e).1) hT5.f2; have lR6 := lR5.grown g2 (fun j e => Nat.le_trans hL0 (hT5.o2.lt j e).1) (fun e => by have := (hT5.o2.lt _ e).1; omega); have hc6 := hc5.kept (below_of_grown g2 (fun j e => (hT5.o2.lt j e).1) hLs) hBL; obtain ⟨a6, k6, rfl, -⟩ := id hT6.o2.read.form; obtain ⟨z0, z1, z2, z3⟩ := lF6.cells4; have y2 := lF6.frozen 2; have lF7 := lF6.set 2 (.slice a6 l6.length k6); have lR7 := lR6.setFar lF6.new hRF 2 (.slice a6 l6.length k6); have hT7 := hT6.setF 2 (.slice a6 l6.length k6); have hc7 := hc6.setFar hBF 2 (.slice a6 l6.length k6))
        go_roundw
        case rel => exact ⟨k + 1, .slice a1 g.length k1, .slice a6 l6.length k6, .slice a3 b.length k3, g, l6, b, by omega, by go_num, Lib.hid (by have := HN6.out; omega), Lib.hid lF7, Lib.hid lR7, Lib.hid hT7, Lib.hid hc7⟩
        case measure => simp only [intOf]; omega
      · skip
        have hT5 := hT4.below ((Below.refl w4.heap.size w4).alloc (Nat.le_refl _) (.cells #[.int .i64 (k : Int)] 3))
        have lF5 := lF4.alloc (.cells #[.int .i64 (k : Int)] 3)
        have lR5 := lR4.alloc (.cells #[.int .i64 (k : Int)] 3)
        have hc5 := hc4.alloc (.cells #[.int .i64 (k : Int)] 3)
        have hlF := lF5.lt
        have hLs : L ≤ (w4.alloc (.cells #[.int .i64 (k : Int)] 3)).heap.size := by have := ho4.size; simp; omega
        obtain ⟨c0, c1, c2, c3⟩ := lF4.cells4
        go_wp2_with (at_builtin; refine wpList_append_one rfl _ _ 24 rfl 3 i0 (.int .i64 0) 8 Tryd.underlying24 hi0 hz0 hz1 hz2 rfl _ _ _ b rfl hT5.o3 w4 (k : Int) 3 rfl rfl (by omega) (by decide) hLs ?_; intro v6 w6 g1 g2 g3; obtain ⟨l6, hl6⟩ : ∃ l6, b ++ [(k : Int)] = l6 := ⟨_, rfl⟩; have HN6 := Lib.hid (show l6.length = b.length + 1 by rw [← hl6]; simp); rw [hl6] at g1; have hw6 := hwk3; rw [hl6] at hw6; clear hl6; have hT6 := hT5.app3 hlF g1 hw6 g2 g3; have lF6 := lF5.grown g2 (fun j e => Nat.le_trans hL0 (hT5.o3.lt j e).1) hT5.f3; have lR6 := lR5.grown g2 (fun j e => Nat.le_trans hL0 (hT5.o3.lt j e).1) (fun e => by have := (hT5.o3.lt _ e).1; omega); have hc6 := hc5.kept (below_of_grown g2 (fun j e => (hT5.o3.lt j e).1) hLs) hBL; obtain ⟨a6, k6, rfl, -⟩ := id hT6.o3.read.form; obtain ⟨z0, z1, z2, z3⟩ := lF6.cells4; have y3 := lF6.frozen 3; have lF7 := lF6.set 3 (.slice a6 l6.length k6); have lR7 := lR6.setFar lF6.new hRF 3 (.slice a6 l6.length k6); have hT7 := hT6.setF 3 (.slice a6 l6.length k6); have hc7 := hc6.setFar hBF 3 (.slice a6 l6.length k6))
        go_roundw
        case rel => exact ⟨k + 1, .slice a1 g.length k1, .slice a2 o.length k2, .slice a6 l6.length k6, g, o, l6, by omega, by go_num, Lib.hid (by have := HN6.out; omega), Lib.hid lF7, Lib.hid lR7, Lib.hid hT7, Lib.hid hc7⟩
        case measure => simp only [intOf]; omega
      · go_wp2
        go_roundw
        case rel => exact ⟨k + 1, .slice a1 g.length k1, .slice a2 o.length k2, .slice a3 b.length k3, g, o, b, by omega, by go_num, Lib.hid (by omega), Lib.hid lF4, Lib.hid lR4, Lib.hid hT4, Lib.hid hc4⟩
        case measure => simp only [intOf]; omega
    · obtain rfl : k = 6 := by omega
      have lR := HR.out
      have lF := HF.out
      obtain ⟨c0, c1, c2, c3⟩ := lF.cells4
      obtain ⟨hE, tE⟩ := stt_4 lR.blk (.int .i64 (ver : Int)) (.slice a1 g.length k1) (.slice a2 o.length k2) (.slice a3 b.length k3)
      obtain ⟨⟨z0, z1, z2, z3⟩, y0, y1, y2, y3⟩ := cls_4 lR.blk
      have HE := Lib.hid (cls_4 hE).1
      have hT := (HT.out.keep tE.size (fun j h1 h2 _ => tE.block j h2 (by rw [List.mem_singleton]; omega))).wide hL0
      have HB := Lib.hid (lR.only.trans' tE (Nat.le_refl _))
      have hC := HCr.out.kept (tE.below (B := w.heap.size) (fun j hj => by rw [List.mem_singleton] at hj; omega) lR.only.size) hlt
      clear hE tE
      go_wp2
      obtain ⟨e0, e1, e2, e3⟩ := HE.out
      have B4 := HB.out
      generalize World.setCell _ _ _ = V at e0 e1 e2 e3 B4 hT hC ⊢
      refine bodyPost_ret (v := .agg #[.int .i64 (ver : Int), .slice a1 g.length k1, .slice a2 o.length k2, .slice a3 b.length k3]) (by simp [results, Tryd.results17, go_sem, e0, e1, e2, e3]) rfl ?_
      exact ⟨(ver : Int), _, _, _, g, o, b, rfl, ⟨by omega, hver⟩, ⟨by omega, by omega, by omega⟩, ⟨F, hT⟩, B4, hC⟩
end Go.Proofs.YtjfmmingkciapaaDoor
