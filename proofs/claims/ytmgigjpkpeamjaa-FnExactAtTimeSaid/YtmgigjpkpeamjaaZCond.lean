/- The type Cond as data of cells, and the laws' own helpers over it and over slices of it. No condition but the bounds of what came in. -/
import Derived.Test.YtmgigjpkpeamjaaCell2
import Derived.Test.YtmgigjpkpeamjaaMCellI
import Derived.Deep.RegionHeld3
import Derived.BigQuiet
import Derived.Deep.QuietTactic
import Derived.LoopTactic
import Derived.Lib.Hide
import Derived.Test.YtmgigjpkpeamjaaInts
import Derived.Deep.DeepCutAuto
import Derived.Outline
import Derived.Handy
import Derived.Below
import Derived.Deep.Cut
namespace Go.Proofs.Ytmgigjpkpeamjaa
open Go.ChangeShapes Go.WideShapes Go.ChangeAt Go.RowKit
set_option linter.unusedVariables false

structure CondD where
  Op : Int
  A : Int
  B : Int
  Args : List CondD
mutual
def CondD.c : CondD → List Cell
  | ⟨p0, p1, p2, es3⟩ => [.num p0, .num p1, .num p2, .row es3.length (CondD.cs es3)]
def CondD.cs : List CondD → List Cell
  | [] => []
  | x :: xs => CondD.c x ++ CondD.cs xs
end
theorem CondD.cs_eq : ∀ xs : List CondD, CondD.cs xs = xs.flatMap CondD.c
  | [] => by unfold CondD.cs; rfl
  | x :: xs => by
    rw [CondD.cs, CondD.cs_eq xs, List.flatMap_cons]
theorem CondD.c_mk (p0 : Int) (p1 : Int) (p2 : Int) (es3 : List CondD) : CondD.c ⟨p0, p1, p2, es3⟩ = [.num p0, .num p1, .num p2, rowF CondD.c es3] := by rw [CondD.c, CondD.cs_eq]
theorem CondD.c_len (x : CondD) : (CondD.c x).length = 4 := by
  obtain ⟨p0, p1, p2, es3⟩ := x
  rw [CondD.c_mk]
  rfl
theorem CondD.rd {w : World} {hi : Nat} {p0 : Int} {p1 : Int} {p2 : Int} {es3 : List CondD} {vs : List Value} (h : rdL w hi (CondD.c ⟨p0, p1, p2, es3⟩) vs) : ∃ k3, vs = [.int .i64 p0, .int .i64 p1, .int .i64 p2, k3] ∧ (Lit.int .i64 p0).wf = true ∧ (Lit.int .i64 p1).wf = true ∧ (Lit.int .i64 p2).wf = true ∧ rdC w hi (rowF CondD.c es3) k3 := by
  rw [CondD.c_mk] at h
  obtain ⟨v0, _, rfl, h0, v1, _, rfl, h1, v2, _, rfl, h2, v3, _, rfl, h3, rfl⟩ := h
  obtain ⟨rfl, w0⟩ := rdC_num.1 h0
  obtain ⟨rfl, w1⟩ := rdC_num.1 h1
  obtain ⟨rfl, w2⟩ := rdC_num.1 h2
  exact ⟨v3, rfl, w0, w1, w2, h3⟩
theorem CondD.ow {w : World} {p0 : Int} {p1 : Int} {p2 : Int} {es3 : List CondD} {us : List Value} {f : List Nat} (h : owE w (CondD.c ⟨p0, p1, p2, es3⟩) us f) : ∃ k3 f3, us = [.int .i64 p0, .int .i64 p1, .int .i64 p2, k3] ∧ f = f3 ∧ (Lit.int .i64 p0).wf = true ∧ (Lit.int .i64 p1).wf = true ∧ (Lit.int .i64 p2).wf = true ∧ owC w (rowF CondD.c es3) k3 f3 := by
  rw [CondD.c_mk] at h
  obtain ⟨v0, u0, a0, b0, rfl, rfl, h0, g0⟩ := owE_cons.1 h
  obtain ⟨v1, u1, a1, b1, rfl, rfl, h1, g1⟩ := owE_cons.1 g0
  obtain ⟨v2, u2, a2, b2, rfl, rfl, h2, g2⟩ := owE_cons.1 g1
  obtain ⟨v3, u3, a3, b3, rfl, rfl, h3, g3⟩ := owE_cons.1 g2
  obtain ⟨rfl, rfl⟩ := owE_nil.1 g3
  obtain ⟨rfl, w0, rfl⟩ := owC_num.1 h0
  obtain ⟨rfl, w1, rfl⟩ := owC_num.1 h1
  obtain ⟨rfl, w2, rfl⟩ := owC_num.1 h2
  exact ⟨v3, a3, rfl, by simp, w0, w1, w2, h3⟩
theorem CondD.ow_mk {w : World} {p0 : Int} {p1 : Int} {p2 : Int} {es3 : List CondD} {k3 : Value} {f3 : List Nat} (h0 : (Lit.int .i64 p0).wf = true) (h1 : (Lit.int .i64 p1).wf = true) (h2 : (Lit.int .i64 p2).wf = true) (h3 : owC w (rowF CondD.c es3) k3 f3) : owE w (CondD.c ⟨p0, p1, p2, es3⟩) [.int .i64 p0, .int .i64 p1, .int .i64 p2, k3] (f3) := by
  rw [CondD.c_mk]
  have h : owE w [.num p0, .num p1, .num p2, rowF CondD.c es3] [.int .i64 p0, .int .i64 p1, .int .i64 p2, k3] (([] : List Nat) ++ (([] : List Nat) ++ (([] : List Nat) ++ (f3 ++ [])))) := owE_cons.2 ⟨_, _, [], _, rfl, rfl, owC_num.2 ⟨rfl, h0, rfl⟩, owE_cons.2 ⟨_, _, [], _, rfl, rfl, owC_num.2 ⟨rfl, h1, rfl⟩, owE_cons.2 ⟨_, _, [], _, rfl, rfl, owC_num.2 ⟨rfl, h2, rfl⟩, owE_cons.2 ⟨_, _, f3, _, rfl, rfl, h3, owE_nil.2 ⟨rfl, rfl⟩⟩⟩⟩⟩
  rw [show ([] : List Nat) ++ (([] : List Nat) ++ (([] : List Nat) ++ (f3 ++ []))) = f3 by simp] at h
  exact h
theorem CondD.sz (p0 : Int) (p1 : Int) (p2 : Int) (es3 : List CondD) : szE (CondD.c ⟨p0, p1, p2, es3⟩) = szC (rowF CondD.c es3) := by
  rw [CondD.c_mk]
  simp only [szE_cons, szE_nil, szC_num]
  omega
set_option maxHeartbeats 8000000 in
set_option maxRecDepth 100000 in
theorem szZ_Cond_at (p0 : Int) (p1 : Int) (p2 : Int) (es3 : List CondD) (w : World) (hi : Nat) (k3 : Value) (left : Int) (r3 : rdC w hi (rowF CondD.c es3) k3) (hh : hi ≤ w.heap.size) (h0 : 0 ≤ left) (h1 : left ≤ 1048576) (HREC : ∀ (W : World) (k : Value) (l : Int), rdC W hi (rowF CondD.c es3) k → hi ≤ W.heap.size → 0 ≤ l → l ≤ 1048576 → Calls Try.prog 33 #[k, .int .i64 l] W fun e w' => e = .returned (.int .i64 (leftOver l (szC (rowF CondD.c es3)))) ∧ Below W.heap.size W w') :
    Calls Try.prog 17 #[.agg #[.int .i64 p0, .int .i64 p1, .int .i64 p2, k3], .int .i64 left] w fun e w' => e = .returned (.int .i64 (leftOver left (szE (CondD.c ⟨p0, p1, p2, es3⟩)))) ∧ Below w.heap.size w w' := by
  rw [CondD.sz]
  have HS3 := Lib.hid (fun (W : World) (hb : Below w.heap.size w W) (l : Int) (l0 : 0 ≤ l) (l1 : l ≤ 1048576) => show Calls Try.prog 33 #[k3, .int .i64 l] W fun e w' => e = .returned (.int .i64 (leftOver l (szC (rowF CondD.c es3)))) ∧ Below W.heap.size W w' from HREC W k3 l (r3.below hb hh) (Nat.le_trans hh hb.size) l0 l1)
  clear HREC
  skip
  have g3 : 0 ≤ szC (rowF CondD.c es3) := by have y3 := szC_nonneg (rowF CondD.c es3); omega
  generalize szC (rowF CondD.c es3) = n3 at HS3 g3 ⊢
  obtain ⟨A3, c3, rfl, -, -⟩ := r3.form
  obtain ⟨W0, hW0⟩ : ∃ W, W = w.alloc (.cells #[.int .i64 p0, .int .i64 p1, .int .i64 p2, .slice A3 es3.length c3] 36) := ⟨_, rfl⟩
  have hB : Below w.heap.size w W0 := by rw [hW0]; exact (Below.refl _ _).alloc (Nat.le_refl _) _
  have hz : w.heap.size < W0.heap.size := by rw [hW0]; simp
  have hA : W0.heap[w.heap.size]? = some (.cells #[.int .i64 p0, .int .i64 p1, .int .i64 p2, .slice A3 es3.length c3] 36) := by rw [hW0]; exact blk_new _ _ _
  have HA := Lib.hid (fun (W : World) (hb : Below W0.heap.size W0 W) => blk_keep hA hb hz)
  clear hA r3
  go_enter Try.func17, Try.ntmps17
  go_upto_region 1 with fail
  rw [← hW0]
  clear hW0
  have x3 := blk_cell (HA.out W0 (Below.refl _ _)) 3 rfl
  by_cases e3 : n3 ≤ left
  · have y3 : ¬ (left - n3 < 0) := by omega
    go_wp2_with fail
    refine (HS3.out W0 hB left (by omega) (by omega)).mono ?_
    rintro e u3 ⟨rfl, b3⟩
    rw [leftOver_yes (show n3 ≤ left by omega)]
    clear x3
    have d3 := hB.trans (b3.mono hB.size)
    have s3 : Below W0.heap.size W0 u3 := b3
    go_wp2
    go_ret
    exact ⟨ret_int (by rw [leftOver_yes (by omega)]; try omega), d3⟩
  · go_wp2_with fail
    refine (HS3.out W0 hB left (by omega) (by omega)).mono ?_
    rintro e u3 ⟨rfl, b3⟩
    rw [leftOver_no (show ¬ n3 ≤ left by omega)]
    go_wp2
    go_ret
    exact ⟨ret_int (by rw [leftOver_no (by omega)]), hB.trans (b3.mono hB.size)⟩
set_option maxHeartbeats 8000000 in
set_option maxRecDepth 100000 in
theorem eqZ_Cond_at (p0 : Int) (p1 : Int) (p2 : Int) (es3 : List CondD) (w : World) (hi hi' : Nat) (k3 : Value) (k3' : Value) (r3 : rdC w hi (rowF CondD.c es3) k3) (r3' : rdC w hi' (rowF CondD.c es3) k3') (hh : hi ≤ w.heap.size) (hh' : hi' ≤ w.heap.size) (HREC : ∀ (W : World) (k k' : Value), rdC W hi (rowF CondD.c es3) k → rdC W hi' (rowF CondD.c es3) k' → hi ≤ W.heap.size → hi' ≤ W.heap.size → Calls Try.prog 43 #[k, k'] W fun e w' => e = .returned (.bool true) ∧ Below W.heap.size W w') :
    Calls Try.prog 25 #[.agg #[.int .i64 p0, .int .i64 p1, .int .i64 p2, k3], .agg #[.int .i64 p0, .int .i64 p1, .int .i64 p2, k3']] w fun e w' => e = .returned (.bool true) ∧ Below w.heap.size w w' := by
  have HS3 := Lib.hid (fun (W : World) (hb : Below w.heap.size w W) => show Calls Try.prog 43 #[k3, k3'] W fun e w' => e = .returned (.bool true) ∧ Below W.heap.size W w' from HREC W k3 k3' (r3.below hb hh) (r3'.below hb hh') (Nat.le_trans hh hb.size) (Nat.le_trans hh' hb.size))
  obtain ⟨A3, c3, rfl, -, -⟩ := r3.form
  obtain ⟨A3', c3', rfl, -, -⟩ := r3'.form
  obtain ⟨W0, hW0⟩ : ∃ W, W = (w.alloc (.cells #[.int .i64 p0, .int .i64 p1, .int .i64 p2, .slice A3 es3.length c3] 47)).alloc (.cells #[.int .i64 p0, .int .i64 p1, .int .i64 p2, .slice A3' es3.length c3'] 47) := ⟨_, rfl⟩
  have hB : Below w.heap.size w W0 := by rw [hW0]; go_grown
  have hz : W0.heap.size = w.heap.size + 1 + 1 := by rw [hW0]; simp
  have hA : W0.heap[w.heap.size]? = some (.cells #[.int .i64 p0, .int .i64 p1, .int .i64 p2, .slice A3 es3.length c3] 47) := by rw [hW0]; exact blk_keep (C := w.heap.size + 1) (blk_new _ _ _) (by go_grown) (by omega)
  have hA' : W0.heap[w.heap.size + 1]? = some (.cells #[.int .i64 p0, .int .i64 p1, .int .i64 p2, .slice A3' es3.length c3'] 47) := by rw [hW0]; exact blk_new_at _ _ (by simp)
  have HA := Lib.hid (fun (W : World) (hb : Below W0.heap.size W0 W) => blk_keep hA hb (by omega))
  have HA' := Lib.hid (fun (W : World) (hb : Below W0.heap.size W0 W) => blk_keep hA' hb (by omega))
  clear hA hA' r3 r3' HREC
  go_enter Try.func25, Try.ntmps25
  go_upto_region 1 with fail
  rw [← hW0]
  clear hW0
  have x0 := blk_cell (HA.out W0 (Below.refl _ _)) 0 rfl
  have x0' := blk_cell (HA'.out W0 (Below.refl _ _)) 0 rfl
  have x1 := blk_cell (HA.out W0 (Below.refl _ _)) 1 rfl
  have x1' := blk_cell (HA'.out W0 (Below.refl _ _)) 1 rfl
  have x2 := blk_cell (HA.out W0 (Below.refl _ _)) 2 rfl
  have x2' := blk_cell (HA'.out W0 (Below.refl _ _)) 2 rfl
  have x3 := blk_cell (HA.out W0 (Below.refl _ _)) 3 rfl
  have x3' := blk_cell (HA'.out W0 (Below.refl _ _)) 3 rfl
  go_wp2_with fail
  refine (HS3.out W0 hB).mono ?_
  rintro e u3 ⟨rfl, b3⟩
  clear x0 x0' x1 x1' x2 x2' x3 x3'
  have d3 := hB.trans (b3.mono hB.size)
  have s3 : Below W0.heap.size W0 u3 := b3
  have x0 := blk_cell (HA.out u3 s3) 0 rfl
  have x0' := blk_cell (HA'.out u3 s3) 0 rfl
  have x1 := blk_cell (HA.out u3 s3) 1 rfl
  have x1' := blk_cell (HA'.out u3 s3) 1 rfl
  have x2 := blk_cell (HA.out u3 s3) 2 rfl
  have x2' := blk_cell (HA'.out u3 s3) 2 rfl
  have x3 := blk_cell (HA.out u3 s3) 3 rfl
  have x3' := blk_cell (HA'.out u3 s3) 3 rfl
  go_wp2
  go_ret
  exact ⟨rfl, d3⟩
set_option maxHeartbeats 8000000 in
set_option maxRecDepth 100000 in
theorem szZ_CondS_to (m : Nat) (xs : List CondD) (w : World) (hi : Nat) (v : Value) (left : Int) (h : rdC w hi (rowF CondD.c xs) v) (hh : hi ≤ w.heap.size) (h0 : 0 ≤ left) (h1 : left ≤ 1048576) (hm : szC (rowF CondD.c xs) ≤ m) :
    Calls Try.prog 33 #[v, .int .i64 left] w fun e w' => e = .returned (.int .i64 (leftOver left (szC (rowF CondD.c xs)))) ∧ Below w.heap.size w w' := by
  induction m using Nat.strongRecOn generalizing xs w hi v left with
  | ind m ih =>
  rw [szC_row] at hm ⊢
  obtain ⟨a, c, rfl, f1, f2⟩ := h.form
  unfold maxLen at f2
  have H := Lib.hid h
  clear h
  have hZ := szE_nonneg (xs.flatMap CondD.c)
  by_cases hl : (xs.length : Int) ≤ left
  · have hl2 : ¬ (left - (xs.length : Int) < 0) := by omega
    go_enter Try.func33, Try.ntmps33
    go_wp2
    go_loopw [1, 5] (fun l i wr => ∃ (k : Nat) (q : Int), k ≤ xs.length ∧ i = .int .i64 (k : Int) ∧ l = .int .i64 q ∧ 0 ≤ q ∧ q ≤ left ∧ Hid (q = left - (xs.length : Int) - szE ((xs.take k).flatMap CondD.c)) ∧ Below w.heap.size w wr) (fun _ i _ => xs.length - (intOf i).toNat)
    case atStart => exact ⟨0, left - (xs.length : Int), Nat.zero_le _, rfl, rfl, by omega, by omega, Lib.hid (by rw [List.take_zero, List.flatMap_nil, szE_nil]; omega), Below.refl _ _⟩
    case round =>
      obtain ⟨k, q, hk, rfl, rfl, q0, q1, HT, hb⟩ := hrel
      by_cases hlt : k < xs.length
      · obtain ⟨x, hx⟩ : ∃ x, xs[k]? = some x := ⟨_, List.getElem?_eq_getElem hlt⟩
        have HX := Lib.hid (szE_take CondD.c hx)
        have HSP := Lib.hid (szE_split CondD.c xs (k + 1))
        have HP := Lib.hid (szE_nonneg ((xs.drop (k + 1)).flatMap CondD.c))
        have hel := szE_elem CondD.c hx
        obtain ⟨vs, b, off, hr, rfl, m1, m2, HC⟩ := rdC.at CondD.c_len H.out hx
        obtain ⟨p0, p1, p2, es3⟩ := x
        obtain ⟨k3, rfl, w0, w1, w2, r3⟩ := CondD.rd hr
        obtain ⟨A3, c3, rfl, -, -⟩ := r3.form
        have y0 : wr.cell? ⟨b, off + k * 4, none⟩ = some (.int .i64 p0) := HC 0 _ rfl _ _ m2 hb
        have y1 : wr.cell? ⟨b, off + k * 4 + 1, none⟩ = some (.int .i64 p1) := HC 1 _ rfl _ _ m2 hb
        have y2 : wr.cell? ⟨b, off + k * 4 + 2, none⟩ = some (.int .i64 p2) := HC 2 _ rfl _ _ m2 hb
        have y3 : wr.cell? ⟨b, off + k * 4 + 3, none⟩ = some (.slice A3 es3.length c3) := HC 3 _ rfl _ _ m2 hb
        have hzz := CondD.sz p0 p1 p2 es3
        have hS := szZ_Cond_at p0 p1 p2 es3 wr hi _ q (r3.below hb hh) (Nat.le_trans hh hb.size) q0 (by omega) (fun W kk l hr2 hh2 l0 l1 => ih (szC (rowF CondD.c es3)).toNat (by have := szC_nonneg (rowF CondD.c es3); omega) es3 W hi kk l hr2 hh2 l0 l1 (by have := szC_nonneg (rowF CondD.c es3); omega))
        have hg := szE_nonneg (CondD.c ⟨p0, p1, p2, es3⟩)
        generalize szE (CondD.c ⟨p0, p1, p2, es3⟩) = z at hS hg HX hel hzz
        clear HC hx hr hel hzz
        by_cases hle : z ≤ q
        · rw [leftOver_yes hle] at hS
          have HS := Lib.hid hS
          have hn0 : ¬ (q - z < 0) := by omega
          clear hS
          go_wp2_with fail
          refine HS.out.mono ?_
          rintro e u ⟨rfl, b1⟩
          go_wp2
          exact ⟨⟨k + 1, q - z, by omega, by go_num, rfl, by omega, by omega, Lib.hid (by have h7 := HX.out; have h8 := HT.out; omega), hb.trans (b1.mono hb.size)⟩, by simp only [intOf]; omega⟩
        · rw [leftOver_no hle] at hS
          have HS := Lib.hid hS
          clear hS
          go_wp2_with fail
          refine HS.out.mono ?_
          rintro e u ⟨rfl, b1⟩
          go_wp2
          go_ret
          exact ⟨ret_int (by rw [leftOver_no]; have h7 := HX.out; have h8 := HT.out; have h9 := HSP.out; have h10 := HP.out; omega), hb.trans (b1.mono hb.size)⟩
      · go_wp2
        go_ret
        obtain rfl : k = xs.length := by omega
        have h7 := HT.out
        rw [List.take_of_length_le (Nat.le_refl _)] at h7
        exact ⟨ret_int (by rw [leftOver_yes (by omega)]; omega), hb⟩
  · go_enter Try.func33, Try.ntmps33
    go_wp2
    go_ret
    exact ⟨ret_int (by rw [leftOver_no (by omega)]), Below.refl _ _⟩
theorem szZ_CondS (xs : List CondD) (w : World) (hi : Nat) (v : Value) (left : Int) (h : rdC w hi (rowF CondD.c xs) v) (hh : hi ≤ w.heap.size) (h0 : 0 ≤ left) (h1 : left ≤ 1048576) :
    Calls Try.prog 33 #[v, .int .i64 left] w fun e w' => e = .returned (.int .i64 (leftOver left (szC (rowF CondD.c xs)))) ∧ Below w.heap.size w w' :=
  szZ_CondS_to (szC (rowF CondD.c xs)).toNat xs w hi v left h hh h0 h1 (by have := szC_nonneg (rowF CondD.c xs); omega)
theorem szZ_Cond (p0 : Int) (p1 : Int) (p2 : Int) (es3 : List CondD) (w : World) (hi : Nat) (k3 : Value) (left : Int) (r3 : rdC w hi (rowF CondD.c es3) k3) (hh : hi ≤ w.heap.size) (h0 : 0 ≤ left) (h1 : left ≤ 1048576) :
    Calls Try.prog 17 #[.agg #[.int .i64 p0, .int .i64 p1, .int .i64 p2, k3], .int .i64 left] w fun e w' => e = .returned (.int .i64 (leftOver left (szE (CondD.c ⟨p0, p1, p2, es3⟩)))) ∧ Below w.heap.size w w' :=
  szZ_Cond_at p0 p1 p2 es3 w hi k3 left r3 hh h0 h1 (fun W kk l hr hw l0 l1 => szZ_CondS es3 W hi kk l hr hw l0 l1)
set_option maxHeartbeats 8000000 in
set_option maxRecDepth 100000 in
theorem eqZ_CondS_to (m : Nat) (xs : List CondD) (w : World) (hi hi' : Nat) (u v : Value) (h : rdC w hi (rowF CondD.c xs) u) (h' : rdC w hi' (rowF CondD.c xs) v) (hh : hi ≤ w.heap.size) (hh' : hi' ≤ w.heap.size) (hm : szC (rowF CondD.c xs) ≤ m) :
    Calls Try.prog 43 #[u, v] w fun e w' => e = .returned (.bool true) ∧ Below w.heap.size w w' := by
  induction m using Nat.strongRecOn generalizing xs w hi hi' u v with
  | ind m ih =>
  rw [szC_row] at hm
  obtain ⟨a, c, rfl, f1, f2⟩ := h.form
  obtain ⟨a', c', rfl, f3, f4⟩ := h'.form
  unfold maxLen at f2 f4
  have H := Lib.hid h
  have H' := Lib.hid h'
  clear h h'
  go_enter Try.func43, Try.ntmps43
  go_wp2
  go_loopw [5] (fun i wr => ∃ k : Nat, k ≤ xs.length ∧ i = .int .i64 (k : Int) ∧ Below w.heap.size w wr) (fun i _ => xs.length - (intOf i).toNat)
  case atStart => exact ⟨0, Nat.zero_le _, rfl, Below.refl _ _⟩
  case round =>
    obtain ⟨k, hk, rfl, hb⟩ := hrel
    by_cases hlt : k < xs.length
    · obtain ⟨x, hx⟩ : ∃ x, xs[k]? = some x := ⟨_, List.getElem?_eq_getElem hlt⟩
      have hel := szE_elem CondD.c hx
      obtain ⟨vs, b, off, hr, rfl, m1, m2, HC⟩ := rdC.at CondD.c_len H.out hx
      obtain ⟨vs', b', off', hr', rfl, s1, s2, HD⟩ := rdC.at CondD.c_len H'.out hx
      obtain ⟨p0, p1, p2, es3⟩ := x
      obtain ⟨k3, rfl, w0, w1, w2, r3⟩ := CondD.rd hr
      obtain ⟨k3', rfl, -, -, -, r3'⟩ := CondD.rd hr'
      have hzz := CondD.sz p0 p1 p2 es3
      obtain ⟨A3, c3, rfl, -, -⟩ := r3.form
      obtain ⟨A3', c3', rfl, -, -⟩ := r3'.form
      have HE := Lib.hid (fun (W : World) (hW : Below w.heap.size w W) => eqZ_Cond_at p0 p1 p2 es3 W hi hi' _ _ (r3.below hW hh) (r3'.below hW hh') (Nat.le_trans hh hW.size) (Nat.le_trans hh' hW.size) (fun W kk kk' q1 q2 q3 q4 => ih (szC (rowF CondD.c es3)).toNat (by have := szC_nonneg (rowF CondD.c es3); omega) es3 W hi hi' kk kk' q1 q2 q3 q4 (by have := szC_nonneg (rowF CondD.c es3); omega)))
      have HS := Lib.hid (fun (w' : World) (hb' : Below w.heap.size w w') => (⟨HC 0 _ rfl _ _ m2 hb', HC 1 _ rfl _ _ m2 hb', HC 2 _ rfl _ _ m2 hb', HC 3 _ rfl _ _ m2 hb', HD 0 _ rfl _ _ s2 hb', HD 1 _ rfl _ _ s2 hb', HD 2 _ rfl _ _ s2 hb', HD 3 _ rfl _ _ s2 hb', hb'⟩ : w'.cell? ⟨b, off + k * 4, none⟩ = some (.int .i64 p0) ∧ w'.cell? ⟨b, off + k * 4 + 1, none⟩ = some (.int .i64 p1) ∧ w'.cell? ⟨b, off + k * 4 + 2, none⟩ = some (.int .i64 p2) ∧ w'.cell? ⟨b, off + k * 4 + 3, none⟩ = some (.slice A3 es3.length c3) ∧ w'.cell? ⟨b', off' + k * 4, none⟩ = some (.int .i64 p0) ∧ w'.cell? ⟨b', off' + k * 4 + 1, none⟩ = some (.int .i64 p1) ∧ w'.cell? ⟨b', off' + k * 4 + 2, none⟩ = some (.int .i64 p2) ∧ w'.cell? ⟨b', off' + k * 4 + 3, none⟩ = some (.slice A3' es3.length c3') ∧ Below w.heap.size w w'))
      have hbD := hb.drew
      clear HC HD hx hr hr' hel hzz
      have hlt3 : (k : Int) < (xs.length : Int) := by omega
      go_wp2_with fail
      go_region_held3 (fun w' => w'.cell? ⟨b, off + k * 4, none⟩ = some (.int .i64 p0) ∧ w'.cell? ⟨b, off + k * 4 + 1, none⟩ = some (.int .i64 p1) ∧ w'.cell? ⟨b, off + k * 4 + 2, none⟩ = some (.int .i64 p2) ∧ w'.cell? ⟨b, off + k * 4 + 3, none⟩ = some (.slice A3 es3.length c3) ∧ w'.cell? ⟨b', off' + k * 4, none⟩ = some (.int .i64 p0) ∧ w'.cell? ⟨b', off' + k * 4 + 1, none⟩ = some (.int .i64 p1) ∧ w'.cell? ⟨b', off' + k * 4 + 2, none⟩ = some (.int .i64 p2) ∧ w'.cell? ⟨b', off' + k * 4 + 3, none⟩ = some (.slice A3' es3.length c3') ∧ Below w.heap.size w w')
        (first | exact HS.out _ hbD | exact HS.out _ (hbD.trans (Below.mono (by assumption) hbD.size)))
        (first | (go_at_call 25; (with_reducible refine (HE.out _ hbD).mono ?_); rintro e1 w1 ⟨rfl, b1⟩))
      have d1 := hbD.trans (b1.mono hbD.size)
      go_wp2
      exact ⟨⟨k + 1, by omega, by go_num, d1⟩, by simp only [intOf]; omega⟩
    · go_wp2
      go_ret
      exact ⟨rfl, hb⟩
theorem eqZ_CondS (xs : List CondD) (w : World) (hi hi' : Nat) (u v : Value) (h : rdC w hi (rowF CondD.c xs) u) (h' : rdC w hi' (rowF CondD.c xs) v) (hh : hi ≤ w.heap.size) (hh' : hi' ≤ w.heap.size) :
    Calls Try.prog 43 #[u, v] w fun e w' => e = .returned (.bool true) ∧ Below w.heap.size w w' :=
  eqZ_CondS_to (szC (rowF CondD.c xs)).toNat xs w hi hi' u v h h' hh hh' (by have := szC_nonneg (rowF CondD.c xs); omega)
theorem eqZ_Cond (p0 : Int) (p1 : Int) (p2 : Int) (es3 : List CondD) (w : World) (hi hi' : Nat) (k3 : Value) (k3' : Value) (r3 : rdC w hi (rowF CondD.c es3) k3) (r3' : rdC w hi' (rowF CondD.c es3) k3') (hh : hi ≤ w.heap.size) (hh' : hi' ≤ w.heap.size) :
    Calls Try.prog 25 #[.agg #[.int .i64 p0, .int .i64 p1, .int .i64 p2, k3], .agg #[.int .i64 p0, .int .i64 p1, .int .i64 p2, k3']] w fun e w' => e = .returned (.bool true) ∧ Below w.heap.size w w' :=
  eqZ_Cond_at p0 p1 p2 es3 w hi hi' k3 k3' r3 r3' hh hh' (fun W kk kk' q1 q2 q3 q4 => eqZ_CondS es3 W hi hi' kk kk' q1 q2 q3 q4)
theorem CondD.mkd (p0 : Int) (p1 : Int) (p2 : Int) (es3 : List CondD) (q : Int) : mkE (CondD.c ⟨p0, p1, p2, es3⟩) q = [.num (q), .num (q + 1), .num (q + 1 + 1), .row es3.length (mkE (es3.flatMap CondD.c) (q + 1 + 1 + 1))] := by
  rw [CondD.c_mk]
  simp only [mkE_cons, mkE_nil, mkC_num, mkC_row, ctC_num, ctC_row]
theorem CondD.ct (p0 : Int) (p1 : Int) (p2 : Int) (es3 : List CondD) (q : Int) : q + ctE (CondD.c ⟨p0, p1, p2, es3⟩) = q + 1 + 1 + 1 + ctE (es3.flatMap CondD.c) := by
  rw [CondD.c_mk]
  simp only [ctE_cons, ctE_nil, ctC_num, ctC_row]
  omega
theorem CondD.rdm {w : World} {hi : Nat} {p0 : Int} {p1 : Int} {p2 : Int} {es3 : List CondD} {q : Int} {vs : List Value} (h : rdL w hi (mkE (CondD.c ⟨p0, p1, p2, es3⟩) q) vs) : ∃ k3, vs = [.int .i64 (q), .int .i64 (q + 1), .int .i64 (q + 1 + 1), k3] ∧ rdC w hi (.row es3.length (mkE (es3.flatMap CondD.c) (q + 1 + 1 + 1))) k3 := by
  rw [CondD.mkd] at h
  obtain ⟨v0, _, rfl, h0, v1, _, rfl, h1, v2, _, rfl, h2, v3, _, rfl, h3, rfl⟩ := h
  obtain ⟨rfl, w0⟩ := rdC_num.1 h0
  obtain ⟨rfl, w1⟩ := rdC_num.1 h1
  obtain ⟨rfl, w2⟩ := rdC_num.1 h2
  exact ⟨v3, rfl, h3⟩
theorem CondD.ctTop (p0 : Int) (p1 : Int) (p2 : Int) (es3 : List CondD) : ctT (CondD.c ⟨p0, p1, p2, es3⟩) = ctE (es3.flatMap CondD.c) := by
  rw [CondD.c_mk]
  have h : ctT [.num p0, .num p1, .num p2, rowF CondD.c es3] = ctE (es3.flatMap CondD.c) + (0) := rfl
  rw [h]
  omega
set_option maxHeartbeats 8000000 in
set_option maxRecDepth 100000 in
theorem toZ_Cond_at (p0 : Int) (p1 : Int) (p2 : Int) (es3 : List CondD) (w : World) (hi : Nat) (k3 : Value) (r3 : rdC w hi (rowF CondD.c es3) k3) (w0 : (Lit.int .i64 p0).wf = true) (w1 : (Lit.int .i64 p1).wf = true) (w2 : (Lit.int .i64 p2).wf = true) (hh : hi ≤ w.heap.size) (hn : szE (CondD.c ⟨p0, p1, p2, es3⟩) ≤ 1048576) (HREC : ∀ (W : World) (k : Value), rdC W hi (rowF CondD.c es3) k → hi ≤ W.heap.size → szC (rowF CondD.c es3) ≤ 1048576 → Calls Try.prog 39 #[k] W fun e w' => ∃ u fp, e = .returned u ∧ owC w' (rowF CondD.c es3) u fp ∧ fp.Nodup ∧ (∀ k ∈ fp, W.heap.size ≤ k ∧ k < w'.heap.size) ∧ Below W.heap.size W w') :
    Calls Try.prog 21 #[.agg #[.int .i64 p0, .int .i64 p1, .int .i64 p2, k3]] w fun e w' => ∃ us fp, e = .returned (.agg us.toArray) ∧ owE w' (CondD.c ⟨p0, p1, p2, es3⟩) us fp ∧ fp.Nodup ∧ (∀ k ∈ fp, w.heap.size ≤ k ∧ k < w'.heap.size) ∧ Below w.heap.size w w' := by
  rw [CondD.sz] at hn
  have g3 := szC_nonneg (rowF CondD.c es3)
  have HS3 := Lib.hid (fun (W : World) (hb : Below w.heap.size w W) => show Calls Try.prog 39 #[k3] W fun e w' => ∃ u fp, e = .returned u ∧ owC w' (rowF CondD.c es3) u fp ∧ fp.Nodup ∧ (∀ k ∈ fp, W.heap.size ≤ k ∧ k < w'.heap.size) ∧ Below W.heap.size W w' from HREC W k3 (r3.below hb hh) (Nat.le_trans hh hb.size) (by omega))
  obtain ⟨A3, c3, rfl, -, -⟩ := r3.form
  clear hn r3 g3 HREC
  obtain ⟨W0, hW0⟩ : ∃ W : World, W = ((w.alloc (.cells #[.int .i64 p0, .int .i64 p1, .int .i64 p2, .slice A3 es3.length c3] 36)).alloc (.cells #[.int .i64 0, .int .i64 0, .int .i64 0, .slice none 0 0] 47)).alloc (.cells #[.int .i64 0, .int .i64 0, .int .i64 0, .slice none 0 0] 47) := ⟨_, rfl⟩
  have B0 : Below w.heap.size w W0 := by rw [hW0]; go_grown
  have hz : W0.heap.size = w.heap.size + 1 + 1 + 1 := by rw [hW0]; simp
  have hA0 : W0.heap[w.heap.size]? = some (.cells #[.int .i64 p0, .int .i64 p1, .int .i64 p2, .slice A3 es3.length c3] 36) := by rw [hW0]; exact blk_keep (C := w.heap.size + 1) (blk_new _ _ _) (by go_grown) (by omega)
  have hZ0 : W0.heap[w.heap.size + 1]? = some (.cells #[.int .i64 0, .int .i64 0, .int .i64 0, .slice none 0 0] 47) := by rw [hW0]; exact blk_keep (C := w.heap.size + 1 + 1) (blk_new_at (w := w.alloc (.cells #[.int .i64 p0, .int .i64 p1, .int .i64 p2, .slice A3 es3.length c3] 36)) _ _ (by simp)) (by go_grown) (by omega)
  have hO0 : W0.heap[w.heap.size + 1 + 1]? = some (.cells #[.int .i64 0, .int .i64 0, .int .i64 0, .slice none 0 0] 47) := by rw [hW0]; exact blk_new_at _ _ (by simp)
  go_enter Try.func21, Try.ntmps21
  go_upto_region 2 with fail
  rw [← hW0]
  clear hW0
  have x0 := blk_cell hA0 0 rfl
  have o0 := blk_cell hO0 0 rfl
  have q0 := blk_frozen hO0 0
  have x1 := blk_cell hA0 1 rfl
  have o1 := blk_cell hO0 1 rfl
  have q1 := blk_frozen hO0 1
  have x2 := blk_cell hA0 2 rfl
  have o2 := blk_cell hO0 2 rfl
  have q2 := blk_frozen hO0 2
  go_upto_region 5 with fail
  obtain ⟨W1, hV⟩ : ∃ V : World, V = (((W0.setCell ⟨w.heap.size + 1 + 1, 0, none⟩ (.int .i64 p0)).setCell ⟨w.heap.size + 1 + 1, 1, none⟩ (.int .i64 p1)).setCell ⟨w.heap.size + 1 + 1, 2, none⟩ (.int .i64 p2)) := ⟨_, rfl⟩
  rw [← hV]
  have hA1 : W1.heap[w.heap.size]? = some (.cells #[.int .i64 p0, .int .i64 p1, .int .i64 p2, .slice A3 es3.length c3] 36) := by rw [hV]; exact blkZ_far (by omega) [.int .i64 p0, .int .i64 p1, .int .i64 p2] 0 hA0
  have hZ1 : W1.heap[w.heap.size + 1]? = some (.cells #[.int .i64 0, .int .i64 0, .int .i64 0, .slice none 0 0] 47) := by rw [hV]; exact blkZ_far (by omega) [.int .i64 p0, .int .i64 p1, .int .i64 p2] 0 hZ0
  have hO1 : W1.heap[w.heap.size + 1 + 1]? = some (.cells #[.int .i64 p0, .int .i64 p1, .int .i64 p2, .slice none 0 0] 47) := by rw [hV]; exact blkZ_many [.int .i64 p0, .int .i64 p1, .int .i64 p2] 0 hO0
  have KP1 : Keeps W0.heap.size W0 W1 := by rw [hV]; exact Keeps.many (by omega) [.int .i64 p0, .int .i64 p1, .int .i64 p2] W0 0
  have B1 : Below w.heap.size w W1 := by rw [hV]; exact Below.setMany (by omega) [.int .i64 p0, .int .i64 p1, .int .i64 p2] 0 B0
  have Z1 : W0.heap.size ≤ W1.heap.size := Nat.le_trans (Nat.le_refl _) KP1.size
  have SW1 : W0.heap.size ≤ W1.heap.size := KP1.size
  clear hV hA0 hZ0 hO0 x0 o0 q0 x1 o1 q1 x2 o2 q2
  have x3 := blk_cell hA1 3 rfl
  go_wp2_with fail
  refine (HS3.out W1 B1).mono ?_
  rintro e U2 ⟨v3, f3, rfl, ow3, nd3, f3_r, bu⟩
  obtain ⟨A3', c3', rfl, -, -⟩ := ow3.form
  clear x3
  have hAu := blk_keep hA1 bu (by omega)
  have hZu := blk_keep hZ1 bu (by omega)
  have hOu := blk_keep hO1 bu (by omega)
  have Bu := B1.trans (bu.mono B1.size)
  have KPu : Keeps W0.heap.size W1 U2 := Keeps.of bu
  have o3 := blk_cell hOu 3 rfl
  have q3 := blk_frozen hOu 3
  have Zu : W0.heap.size ≤ U2.heap.size := Nat.le_trans Z1 bu.size
  go_upto_region 6 with fail
  obtain ⟨W2, hV⟩ : ∃ V : World, V = (U2.setCell ⟨w.heap.size + 1 + 1, 3, none⟩ (.slice A3' es3.length c3')) := ⟨_, rfl⟩
  rw [← hV]
  have hA2 : W2.heap[w.heap.size]? = some (.cells #[.int .i64 p0, .int .i64 p1, .int .i64 p2, .slice A3 es3.length c3] 36) := by rw [hV]; exact blkZ_far (by omega) [.slice A3' es3.length c3'] 3 hAu
  have hZ2 : W2.heap[w.heap.size + 1]? = some (.cells #[.int .i64 0, .int .i64 0, .int .i64 0, .slice none 0 0] 47) := by rw [hV]; exact blkZ_far (by omega) [.slice A3' es3.length c3'] 3 hZu
  have hO2 : W2.heap[w.heap.size + 1 + 1]? = some (.cells #[.int .i64 p0, .int .i64 p1, .int .i64 p2, .slice A3' es3.length c3'] 47) := by rw [hV]; exact blkZ_many [.slice A3' es3.length c3'] 3 hOu
  have KP2 : Keeps W0.heap.size U2 W2 := by rw [hV]; exact Keeps.many (by omega) [.slice A3' es3.length c3'] U2 3
  have B2 : Below w.heap.size w W2 := by rw [hV]; exact Below.setMany (by omega) [.slice A3' es3.length c3'] 3 Bu
  have SZ2 : W2.heap.size = U2.heap.size := by rw [hV]; exact wsetMany_size [.slice A3' es3.length c3'] U2 3
  have Z2 : W0.heap.size ≤ W2.heap.size := Nat.le_trans Zu KP2.size
  have SW2 : U2.heap.size ≤ W2.heap.size := KP2.size
  have SU2 : W1.heap.size ≤ U2.heap.size := bu.size
  clear hV hA1 hZ1 hO1 hAu hZu hOu o3 q3
  have ow3 := ow3.keeps KP2 (fun k hk => Nat.le_trans Z1 (f3_r k hk).1)
  have o0 := blk_cell hO2 0 rfl
  have z0 := blk_cell hZ2 0 rfl
  have q0 := blk_frozen hZ2 0
  have o1 := blk_cell hO2 1 rfl
  have z1 := blk_cell hZ2 1 rfl
  have q1 := blk_frozen hZ2 1
  have o2 := blk_cell hO2 2 rfl
  have z2 := blk_cell hZ2 2 rfl
  have q2 := blk_frozen hZ2 2
  have o3 := blk_cell hO2 3 rfl
  have z3 := blk_cell hZ2 3 rfl
  have q3 := blk_frozen hZ2 3
  have How3 := Lib.hid ow3
  clear hA2 hZ2 hO2 ow3
  go_wp2
  refine bodyPost_ret (v := .agg #[.int .i64 p0, .int .i64 p1, .int .i64 p2, .slice A3' es3.length c3']) (by simp [results, Try.results21, go_sem, z0, z1, z2, z3]) rfl ⟨[.int .i64 p0, .int .i64 p1, .int .i64 p2, .slice A3' es3.length c3'], f3, rfl, ?_, ?_, ?_, ?_⟩
  · have KPe : Keeps W0.heap.size W2 (wsetMany W2 (w.heap.size + 1) 0 [.int .i64 p0, .int .i64 p1, .int .i64 p2, .slice A3' es3.length c3']) := Keeps.many (by omega) [.int .i64 p0, .int .i64 p1, .int .i64 p2, .slice A3' es3.length c3'] W2 0
    have Host3 := How3.out.keeps KPe (fun k hk => Nat.le_trans Z1 (f3_r k hk).1)
    exact CondD.ow_mk w0 w1 w2 (Host3)
  · have fq3 : ∀ k ∈ (f3), W1.heap.size ≤ k ∧ k < U2.heap.size := fun k hk => by
      exact f3_r k hk
    have lt0 : ∀ k ∈ (f3), k < U2.heap.size := fun k hk => (fq3 k hk).2
    simpa [List.append_assoc] using nd3
  · intro k hk
    · have h7 := f3_r k hk
      constructor
      · have := Z1
        omega
      · show k < (wsetMany W2 (w.heap.size + 1) 0 [.int .i64 p0, .int .i64 p1, .int .i64 p2, .slice A3' es3.length c3']).heap.size
        rw [wsetMany_size]
        omega
  · exact Below.setMany (by omega) [.int .i64 p0, .int .i64 p1, .int .i64 p2, .slice A3' es3.length c3'] 0 B2
def zerosCondZ : List Value := [.int .i64 0, .int .i64 0, .int .i64 0, .slice none 0 0]
theorem infoCondZ : (Try.prog.info? 47).map (fun i => (i.zero, i.size, i.bytes)) = some (some (.agg zerosCondZ.toArray), 4, 48) := by kernel_rfl
set_option maxHeartbeats 8000000 in
set_option maxRecDepth 100000 in
theorem toZ_CondS_to (m : Nat) (xs : List CondD) (w : World) (hi : Nat) (v : Value) (h : rdC w hi (rowF CondD.c xs) v) (hh : hi ≤ w.heap.size) (hn : szC (rowF CondD.c xs) ≤ 1048576) (hm : szC (rowF CondD.c xs) ≤ m) :
    Calls Try.prog 39 #[v] w fun e w' => ∃ u fp, e = .returned u ∧ owC w' (rowF CondD.c xs) u fp ∧ fp.Nodup ∧ (∀ k ∈ fp, w.heap.size ≤ k ∧ k < w'.heap.size) ∧ Below w.heap.size w w' := by
  induction m using Nat.strongRecOn generalizing xs w hi v with
  | ind m ih =>
  rw [szC_row] at hm
  rw [szC_row] at hn
  have hZ := szE_nonneg (xs.flatMap CondD.c)
  obtain ⟨a, c, rfl, f1, f2⟩ := h.form
  unfold maxLen at f2
  obtain ⟨i0, hi0, hz0, hz1, hz2⟩ := info_parts infoCondZ
  have hb2 : i0.bytes * xs.length ≤ 281474976710656 := by rw [hz2]; omega
  have hb3 : xs.length ≤ maxLen := by unfold maxLen; omega
  have H := Lib.hid h
  clear h
  go_enter Try.func39, Try.ntmps39
  go_wp2_with (at_make; refine wpList_make_full _ rfl _ _ 45 rfl w.heap.size 47 i0 (.agg zerosCondZ.toArray) 4 Try.underlying45 hi0 hz0 hz1 .i64 .i64 (xs.length : Int) (xs.length : Int) xs.length rfl rfl rfl rfl hb2 hb3 (Nat.le_refl _) ?_; intro w1 hown hg)
  have hM := Made.start 47 (s := 4) (z := zerosCondZ) (by decide) rfl hown
  have hb1 : Below w.heap.size w w1 := (Below.refl _ _).grown hg (Nat.le_refl _) (fun k h => by cases h)
  clear hown hg
  go_loopw [4] (fun i wr => ∃ (k : Nat) (us : List Value) (f : List Nat), k ≤ xs.length ∧ i = .int .i64 (k : Int) ∧ us.length = k * 4 ∧ Hid (Made 47 4 zerosCondZ wr w.heap.size xs.length (xs.length - k) ((xs.take k).flatMap CondD.c) us f) ∧ Below w.heap.size w wr) (fun i _ => xs.length - (intOf i).toNat)
  case atStart => exact ⟨0, [], [], Nat.zero_le _, rfl, by simp, Lib.hid (by rw [List.take_zero, List.flatMap_nil, Nat.sub_zero]; exact hM), hb1⟩
  case round =>
    clear hM hb1
    obtain ⟨k, us, f, hk, rfl, hul, HM, hb⟩ := hrel
    by_cases hlt : k < xs.length
    · obtain ⟨x, hx⟩ : ∃ x, xs[k]? = some x := ⟨_, List.getElem?_eq_getElem hlt⟩
      have hel := szE_elem CondD.c hx
      have HTK := Lib.hid (take_flat_succ CondD.c hx)
      obtain ⟨vs, b, off, hr, rfl, m1, m2, HC⟩ := rdC.at CondD.c_len H.out hx
      obtain ⟨p0, p1, p2, es3⟩ := x
      obtain ⟨k3, rfl, w0, w1, w2, r3⟩ := CondD.rd hr
      obtain ⟨A3, c3, rfl, -, -⟩ := r3.form
      have y0 : wr.cell? ⟨b, off + k * 4, none⟩ = some (.int .i64 p0) := HC 0 _ rfl _ _ m2 hb
      have y1 : wr.cell? ⟨b, off + k * 4 + 1, none⟩ = some (.int .i64 p1) := HC 1 _ rfl _ _ m2 hb
      have y2 : wr.cell? ⟨b, off + k * 4 + 2, none⟩ = some (.int .i64 p2) := HC 2 _ rfl _ _ m2 hb
      have y3 : wr.cell? ⟨b, off + k * 4 + 3, none⟩ = some (.slice A3 es3.length c3) := HC 3 _ rfl _ _ m2 hb
      have HT := Lib.hid (toZ_Cond_at p0 p1 p2 es3 wr hi _ (r3.below hb hh) w0 w1 w2 (Nat.le_trans hh hb.size) (by omega) (fun W kk hr2 hh2 hs2 => ih (szC (rowF CondD.c es3)).toNat (by have hzz := CondD.sz p0 p1 p2 es3; have := szC_nonneg (rowF CondD.c es3); omega) es3 W hi kk hr2 hh2 hs2 (by have := szC_nonneg (rowF CondD.c es3); omega)))
      clear HC hx hr hel r3
      have hlw := HM.out.lt
      go_wp2_with fail
      refine HT.out.mono ?_
      rintro e w2 ⟨vs, f2, rfl, ho, hn2, hf2, b2⟩
      clear y0 y1 y2 y3
      obtain ⟨v3, q3, rfl, hfe, -, -, -, ow3⟩ := CondD.ow ho
      obtain ⟨A3', c3', rfl, -, -⟩ := ow3.form
      obtain ⟨d, hd⟩ : ∃ d, xs.length - k = d + 1 := ⟨xs.length - k - 1, by omega⟩
      have hM2 := HM.out.below b2 hlw.1 hlw.2
      rw [hd] at hM2
      obtain ⟨z0, fz0⟩ := hM2.cell (j := 0) rfl (by decide)
      rw [hul] at z0 fz0
      obtain ⟨z1, fz1⟩ := hM2.cell (j := 1) rfl (by decide)
      rw [hul] at z1 fz1
      obtain ⟨z2, fz2⟩ := hM2.cell (j := 2) rfl (by decide)
      rw [hul] at z2 fz2
      obtain ⟨z3, fz3⟩ := hM2.cell (j := 3) rfl (by decide)
      rw [hul] at z3 fz3
      have e0 : w2.cell? ⟨w.heap.size, k * 4, none⟩ = some (.int .i64 0) := z0
      have e1 : w2.cell? ⟨w.heap.size, k * 4 + 1, none⟩ = some (.int .i64 0) := z1
      have e2 : w2.cell? ⟨w.heap.size, k * 4 + 2, none⟩ = some (.int .i64 0) := z2
      have e3 : w2.cell? ⟨w.heap.size, k * 4 + 3, none⟩ = some (.slice none 0 0) := z3
      have h0f : w2.frozen? ⟨w.heap.size, k * 4, none⟩ = false := fz0
      have h1f : w2.frozen? ⟨w.heap.size, k * 4 + 1, none⟩ = false := fz1
      have h2f : w2.frozen? ⟨w.heap.size, k * 4 + 2, none⟩ = false := fz2
      have h3f : w2.frozen? ⟨w.heap.size, k * 4 + 3, none⟩ = false := fz3
      have hP := hM2.put (ds := CondD.c ⟨p0, p1, p2, es3⟩) (vs := [.int .i64 p0, .int .i64 p1, .int .i64 p2, .slice A3' es3.length c3']) (f2 := f2) rfl rfl ho hn2 (fun x hx => by have := (hf2 x hx).1; omega) (fun x hx y hy => Nat.lt_of_lt_of_le (hlw.2 x hx) (hf2 y hy).1)
      rw [hul] at hP
      have hb7 := Below.setMany (B := w.heap.size) (g := w.heap.size) (Nat.le_refl _) [.int .i64 p0, .int .i64 p1, .int .i64 p2, .slice A3' es3.length c3'] (k * 4) (hb.trans (b2.mono hb.size))
      have HP := Lib.hid hP
      have HB := Lib.hid hb7
      have hlen : (us ++ ([.int .i64 p0, .int .i64 p1, .int .i64 p2, .slice A3' es3.length c3'] : List Value)).length = (k + 1) * 4 := by rw [List.length_append, hul, Nat.add_mul]; rfl
      have HLEN := Lib.hid hlen
      clear hP hb7 hlen hM2 ho z0 fz0 z1 fz1 z2 fz2 z3 fz3 ow3
      have hdk : xs.length - (k + 1) = d := by omega
      go_wp2
      refine ⟨⟨k + 1, us ++ [.int .i64 p0, .int .i64 p1, .int .i64 p2, .slice A3' es3.length c3'], f ++ f2, by omega, by go_num, HLEN.out, Lib.hid ?_, HB.out⟩, by simp only [intOf]; omega⟩
      rw [HTK.out, hdk]
      exact HP.out
    · go_wp2
      go_ret
      obtain rfl : k = xs.length := by omega
      have h7 := HM.out
      have hlw := h7.lt
      have hgt := h7.gt
      rw [Nat.sub_self, List.take_of_length_le (Nat.le_refl _)] at h7
      obtain ⟨h8, h9⟩ := h7.done (fun e => by rw [List.length_eq_zero_iff.mp e]; rfl)
      refine ⟨_, _, rfl, h8, h9, fun x hx => ?_, hb⟩
      rcases List.mem_cons.1 hx with rfl | hx
      · exact ⟨Nat.le_refl _, hlw.1⟩
      · exact ⟨Nat.le_of_lt (hgt x hx), hlw.2 x hx⟩
theorem toZ_CondS (xs : List CondD) (w : World) (hi : Nat) (v : Value) (h : rdC w hi (rowF CondD.c xs) v) (hh : hi ≤ w.heap.size) (hn : szC (rowF CondD.c xs) ≤ 1048576) :
    Calls Try.prog 39 #[v] w fun e w' => ∃ u fp, e = .returned u ∧ owC w' (rowF CondD.c xs) u fp ∧ fp.Nodup ∧ (∀ k ∈ fp, w.heap.size ≤ k ∧ k < w'.heap.size) ∧ Below w.heap.size w w' :=
  toZ_CondS_to (szC (rowF CondD.c xs)).toNat xs w hi v h hh hn (by have := szC_nonneg (rowF CondD.c xs); omega)
theorem toZ_Cond (p0 : Int) (p1 : Int) (p2 : Int) (es3 : List CondD) (w : World) (hi : Nat) (k3 : Value) (r3 : rdC w hi (rowF CondD.c es3) k3) (w0 : (Lit.int .i64 p0).wf = true) (w1 : (Lit.int .i64 p1).wf = true) (w2 : (Lit.int .i64 p2).wf = true) (hh : hi ≤ w.heap.size) (hn : szE (CondD.c ⟨p0, p1, p2, es3⟩) ≤ 1048576) :
    Calls Try.prog 21 #[.agg #[.int .i64 p0, .int .i64 p1, .int .i64 p2, k3]] w fun e w' => ∃ us fp, e = .returned (.agg us.toArray) ∧ owE w' (CondD.c ⟨p0, p1, p2, es3⟩) us fp ∧ fp.Nodup ∧ (∀ k ∈ fp, w.heap.size ≤ k ∧ k < w'.heap.size) ∧ Below w.heap.size w w' :=
  toZ_Cond_at p0 p1 p2 es3 w hi k3 r3 w0 w1 w2 hh hn (fun W kk hr hw hs => toZ_CondS es3 W hi kk hr hw hs)
theorem CondD.mkTop (p0 : Int) (p1 : Int) (p2 : Int) (es3 : List CondD) (q : Int) : mkT (CondD.c ⟨p0, p1, p2, es3⟩) q = [.num p0, .num p1, .num p2, .row es3.length (mkE (es3.flatMap CondD.c) (q))] := by
  rw [CondD.c_mk]
  rfl
theorem CondD.rdTop {w : World} {hi : Nat} {p0 : Int} {p1 : Int} {p2 : Int} {es3 : List CondD} {q : Int} {vs : List Value} (h : rdL w hi (mkT (CondD.c ⟨p0, p1, p2, es3⟩) q) vs) : ∃ k3, vs = [.int .i64 p0, .int .i64 p1, .int .i64 p2, k3] ∧ (Lit.int .i64 p0).wf = true ∧ (Lit.int .i64 p1).wf = true ∧ (Lit.int .i64 p2).wf = true ∧ rdC w hi (.row es3.length (mkE (es3.flatMap CondD.c) (q))) k3 := by
  rw [CondD.mkTop] at h
  obtain ⟨v0, _, rfl, h0, v1, _, rfl, h1, v2, _, rfl, h2, v3, _, rfl, h3, rfl⟩ := h
  obtain ⟨rfl, w0⟩ := rdC_num.1 h0
  obtain ⟨rfl, w1⟩ := rdC_num.1 h1
  obtain ⟨rfl, w2⟩ := rdC_num.1 h2
  exact ⟨v3, rfl, w0, w1, w2, h3⟩
mutual
theorem CondD.thin : ∀ x : CondD, ctE (CondD.c x) ≤ 3 + 64 * szE (CondD.c x)
  | ⟨p0, p1, p2, es3⟩ => by
    have t3 := CondD.thins es3
    rw [szC_row] at t3
    have h := CondD.ct p0 p1 p2 es3 0
    rw [CondD.sz]
    simp only [szC_row]
    omega
theorem CondD.thins : ∀ xs : List CondD, ctE (xs.flatMap CondD.c) ≤ 64 * szC (rowF CondD.c xs)
  | [] => by rw [szC_row, List.flatMap_nil, ctE_nil, szE_nil]; decide
  | x :: xs => by
    have h1 := CondD.thin x
    have h2 := CondD.thins xs
    rw [szC_row] at h2 ⊢
    rw [List.flatMap_cons, ctE_append, szE_append, List.length_cons]
    omega
end
end Go.Proofs.Ytmgigjpkpeamjaa
