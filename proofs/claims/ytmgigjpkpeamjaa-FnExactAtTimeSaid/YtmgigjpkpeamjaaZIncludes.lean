/- The type Includes as data of cells, and the laws' own helpers over it and over slices of it. No condition but the bounds of what came in. -/
import Derived.Test.YtmgigjpkpeamjaaCell2
import Derived.Test.YtmgigjpkpeamjaaMCellI
import Derived.Deep.RegionHeld3
import Derived.BigQuiet
import Derived.Deep.QuietTactic
import Derived.LoopTactic
import Derived.Lib.Hide
import Derived.Test.YtmgigjpkpeamjaaInts
import Derived.Deep.DeepCutAuto
import Derived.Outline
import Derived.Handy
import Derived.Below
import Derived.Deep.Cut
import Derived.Test.YtmgigjpkpeamjaaIncludesT
import Derived.Test.YtmgigjpkpeamjaaCellR
namespace Go.Proofs.Ytmgigjpkpeamjaa
open Go.ChangeShapes Go.WideShapes Go.ChangeAt Go.RowKit
set_option linter.unusedVariables false

def IncludesD.c (x : IncludesD) : List Cell := [.num x.Greater, .num x.Lesser]
theorem IncludesD.c_mk (p0 : Int) (p1 : Int) : IncludesD.c ⟨p0, p1⟩ = [.num p0, .num p1] := rfl
theorem IncludesD.c_len (x : IncludesD) : (IncludesD.c x).length = 2 := by
  obtain ⟨p0, p1⟩ := x
  rw [IncludesD.c_mk]
  rfl
theorem IncludesD.c_lit (x : IncludesD) : (IncludesD.c x).map Cell.lit = x.cells := rfl
theorem IncludesD.c_flat (x : IncludesD) : ∀ c ∈ IncludesD.c x, c.flatB = true := by
  intro c hc
  simp only [IncludesD.c, List.mem_cons, List.not_mem_nil, or_false] at hc
  rcases hc with rfl | rfl <;> rfl
theorem IncludesD.c_wf (x : IncludesD) : x.wf ↔ ∀ c ∈ IncludesD.c x, c.flatW := by
  simp [IncludesD.wf, IncludesD.c, Cell.flatW]
/-- A slice of them that came in, told either way. -/
theorem IncludesD.rows {w : World} {hi : Nat} {v : Value} (xs : List IncludesD) : rdC w hi (rowF IncludesD.c xs) v ↔ RowC 2 w hi v xs.length (xs.flatMap IncludesD.cells) ∧ ∀ x ∈ xs, x.wf := rows_cells IncludesD.c_lit IncludesD.c_len IncludesD.c_flat IncludesD.c_wf xs
theorem IncludesD.own {E : TypeId} {w : World} {lo hi : Nat} {v : Value} {xs : List IncludesD} (hx : ∀ x ∈ xs, x.wf) (h : OwnC E 2 w lo hi v xs.length (xs.flatMap IncludesD.cells)) : ∃ fp, owC w (rowF IncludesD.c xs) v fp ∧ fp.Nodup ∧ ∀ k ∈ fp, lo ≤ k ∧ k < hi := own_rows IncludesD.c_lit IncludesD.c_wf hx h
theorem IncludesD.rd {w : World} {hi : Nat} {p0 : Int} {p1 : Int} {vs : List Value} (h : rdL w hi (IncludesD.c ⟨p0, p1⟩) vs) : vs = [.int .i64 p0, .int .i64 p1] ∧ (Lit.int .i64 p0).wf = true ∧ (Lit.int .i64 p1).wf = true := by
  rw [IncludesD.c_mk] at h
  obtain ⟨v0, _, rfl, h0, v1, _, rfl, h1, rfl⟩ := h
  obtain ⟨rfl, w0⟩ := rdC_num.1 h0
  obtain ⟨rfl, w1⟩ := rdC_num.1 h1
  exact ⟨rfl, w0, w1⟩
theorem IncludesD.ow {w : World} {p0 : Int} {p1 : Int} {us : List Value} {f : List Nat} (h : owE w (IncludesD.c ⟨p0, p1⟩) us f) : us = [.int .i64 p0, .int .i64 p1] ∧ f = [] ∧ (Lit.int .i64 p0).wf = true ∧ (Lit.int .i64 p1).wf = true := by
  rw [IncludesD.c_mk] at h
  obtain ⟨v0, u0, a0, b0, rfl, rfl, h0, g0⟩ := owE_cons.1 h
  obtain ⟨v1, u1, a1, b1, rfl, rfl, h1, g1⟩ := owE_cons.1 g0
  obtain ⟨rfl, rfl⟩ := owE_nil.1 g1
  obtain ⟨rfl, w0, rfl⟩ := owC_num.1 h0
  obtain ⟨rfl, w1, rfl⟩ := owC_num.1 h1
  exact ⟨rfl, by simp, w0, w1⟩
theorem IncludesD.ow_mk {w : World} {p0 : Int} {p1 : Int}   (h0 : (Lit.int .i64 p0).wf = true) (h1 : (Lit.int .i64 p1).wf = true) : owE w (IncludesD.c ⟨p0, p1⟩) [.int .i64 p0, .int .i64 p1] ([]) := by
  rw [IncludesD.c_mk]
  have h : owE w [.num p0, .num p1] [.int .i64 p0, .int .i64 p1] (([] : List Nat) ++ (([] : List Nat) ++ [])) := owE_cons.2 ⟨_, _, [], _, rfl, rfl, owC_num.2 ⟨rfl, h0, rfl⟩, owE_cons.2 ⟨_, _, [], _, rfl, rfl, owC_num.2 ⟨rfl, h1, rfl⟩, owE_nil.2 ⟨rfl, rfl⟩⟩⟩
  rw [show ([] : List Nat) ++ (([] : List Nat) ++ []) = [] by simp] at h
  exact h
theorem IncludesD.sz (p0 : Int) (p1 : Int) : szE (IncludesD.c ⟨p0, p1⟩) = 0 := by
  rw [IncludesD.c_mk]
  simp only [szE_cons, szE_nil, szC_num]
  try omega
set_option maxHeartbeats 8000000 in
set_option maxRecDepth 100000 in
theorem eqZ_Includes (p0 : Int) (p1 : Int) (w : World) (hi hi' : Nat)     (hh : hi ≤ w.heap.size) (hh' : hi' ≤ w.heap.size) :
    Calls Try.prog 41 #[.agg #[.int .i64 p0, .int .i64 p1], .agg #[.int .i64 p0, .int .i64 p1]] w fun e w' => e = .returned (.bool true) ∧ Below w.heap.size w w' := by
  obtain ⟨W0, hW0⟩ : ∃ W, W = (w.alloc (.cells #[.int .i64 p0, .int .i64 p1] 64)).alloc (.cells #[.int .i64 p0, .int .i64 p1] 64) := ⟨_, rfl⟩
  have hB : Below w.heap.size w W0 := by rw [hW0]; go_grown
  have hz : W0.heap.size = w.heap.size + 1 + 1 := by rw [hW0]; simp
  have hA : W0.heap[w.heap.size]? = some (.cells #[.int .i64 p0, .int .i64 p1] 64) := by rw [hW0]; exact blk_keep (C := w.heap.size + 1) (blk_new _ _ _) (by go_grown) (by omega)
  have hA' : W0.heap[w.heap.size + 1]? = some (.cells #[.int .i64 p0, .int .i64 p1] 64) := by rw [hW0]; exact blk_new_at _ _ (by simp)
  have HA := Lib.hid (fun (W : World) (hb : Below W0.heap.size W0 W) => blk_keep hA hb (by omega))
  have HA' := Lib.hid (fun (W : World) (hb : Below W0.heap.size W0 W) => blk_keep hA' hb (by omega))
  clear hA hA' 
  go_enter Try.func41, Try.ntmps41
  go_upto_region 1 with fail
  rw [← hW0]
  clear hW0
  have x0 := blk_cell (HA.out W0 (Below.refl _ _)) 0 rfl
  have x0' := blk_cell (HA'.out W0 (Below.refl _ _)) 0 rfl
  have x1 := blk_cell (HA.out W0 (Below.refl _ _)) 1 rfl
  have x1' := blk_cell (HA'.out W0 (Below.refl _ _)) 1 rfl
  go_wp2
  go_ret
  exact ⟨rfl, hB⟩
set_option maxHeartbeats 8000000 in
set_option maxRecDepth 100000 in
theorem szZ_IncludesS (xs : List IncludesD) (w : World) (hi : Nat) (v : Value) (left : Int) (h : rdC w hi (rowF IncludesD.c xs) v) (hh : hi ≤ w.heap.size) (h0 : 0 ≤ left) (h1 : left ≤ 1048576) :
    Calls Try.prog 15 #[v, .int .i64 left] w fun e w' => e = .returned (.int .i64 (leftOver left (szC (rowF IncludesD.c xs)))) ∧ Below w.heap.size w w' := by
  rw [szC_row, szE_flat (fun x => by obtain ⟨p0, p1⟩ := x; exact IncludesD.sz p0 p1)]
  obtain ⟨a, c, rfl, f1, f2⟩ := h.form
  unfold maxLen at f2
  unfold leftOver
  by_cases hl : (xs.length : Int) ≤ left
  all_goals
    go_enter Try.func15, Try.ntmps15
    go_wp2
    go_ret
    exact ⟨ret_int (by first | (split <;> omega) | omega), Below.refl _ _⟩
set_option maxHeartbeats 8000000 in
set_option maxRecDepth 100000 in
theorem eqZ_IncludesS (xs : List IncludesD) (w : World) (hi hi' : Nat) (u v : Value) (h : rdC w hi (rowF IncludesD.c xs) u) (h' : rdC w hi' (rowF IncludesD.c xs) v) (hh : hi ≤ w.heap.size) (hh' : hi' ≤ w.heap.size) :
    Calls Try.prog 23 #[u, v] w fun e w' => e = .returned (.bool true) ∧ Below w.heap.size w w' := by
  obtain ⟨a, c, rfl, f1, f2⟩ := h.form
  obtain ⟨a', c', rfl, f3, f4⟩ := h'.form
  unfold maxLen at f2 f4
  have H := Lib.hid h
  have H' := Lib.hid h'
  clear h h'
  go_enter Try.func23, Try.ntmps23
  go_wp2
  go_loopw [5] (fun i wr => ∃ k : Nat, k ≤ xs.length ∧ i = .int .i64 (k : Int) ∧ Below w.heap.size w wr) (fun i _ => xs.length - (intOf i).toNat)
  case atStart => exact ⟨0, Nat.zero_le _, rfl, Below.refl _ _⟩
  case round =>
    obtain ⟨k, hk, rfl, hb⟩ := hrel
    by_cases hlt : k < xs.length
    · obtain ⟨x, hx⟩ : ∃ x, xs[k]? = some x := ⟨_, List.getElem?_eq_getElem hlt⟩
      obtain ⟨vs, b, off, hr, rfl, m1, m2, HC⟩ := rdC.at IncludesD.c_len H.out hx
      obtain ⟨vs', b', off', hr', rfl, s1, s2, HD⟩ := rdC.at IncludesD.c_len H'.out hx
      obtain ⟨p0, p1⟩ := x
      obtain ⟨rfl, w0, w1⟩ := IncludesD.rd hr
      obtain ⟨rfl, -, -⟩ := IncludesD.rd hr'
      have HE := Lib.hid (fun (W : World) (hW : Below w.heap.size w W) => eqZ_Includes p0 p1 W hi hi'     (Nat.le_trans hh hW.size) (Nat.le_trans hh' hW.size))
      have HS := Lib.hid (fun (w' : World) (hb' : Below w.heap.size w w') => (⟨HC 0 _ rfl _ _ m2 hb', HC 1 _ rfl _ _ m2 hb', HD 0 _ rfl _ _ s2 hb', HD 1 _ rfl _ _ s2 hb', hb'⟩ : w'.cell? ⟨b, off + k * 2, none⟩ = some (.int .i64 p0) ∧ w'.cell? ⟨b, off + k * 2 + 1, none⟩ = some (.int .i64 p1) ∧ w'.cell? ⟨b', off' + k * 2, none⟩ = some (.int .i64 p0) ∧ w'.cell? ⟨b', off' + k * 2 + 1, none⟩ = some (.int .i64 p1) ∧ Below w.heap.size w w'))
      have hbD := hb.drew
      clear HC HD hx hr hr'
      have hlt3 : (k : Int) < (xs.length : Int) := by omega
      go_wp2_with fail
      go_region_held3 (fun w' => w'.cell? ⟨b, off + k * 2, none⟩ = some (.int .i64 p0) ∧ w'.cell? ⟨b, off + k * 2 + 1, none⟩ = some (.int .i64 p1) ∧ w'.cell? ⟨b', off' + k * 2, none⟩ = some (.int .i64 p0) ∧ w'.cell? ⟨b', off' + k * 2 + 1, none⟩ = some (.int .i64 p1) ∧ Below w.heap.size w w')
        (first | exact HS.out _ hbD | exact HS.out _ (hbD.trans (Below.mono (by assumption) hbD.size)))
        (first | (go_at_call 41; (with_reducible refine (HE.out _ hbD).mono ?_); rintro e1 w1 ⟨rfl, b1⟩))
      have d1 := hbD.trans (b1.mono hbD.size)
      go_wp2
      exact ⟨⟨k + 1, by omega, by go_num, d1⟩, by simp only [intOf]; omega⟩
    · go_wp2
      go_ret
      exact ⟨rfl, hb⟩
theorem IncludesD.mkd (p0 : Int) (p1 : Int) (q : Int) : mkE (IncludesD.c ⟨p0, p1⟩) q = [.num (q), .num (q + 1)] := by
  rw [IncludesD.c_mk]
  simp only [mkE_cons, mkE_nil, mkC_num, ctC_num]
theorem IncludesD.ct (p0 : Int) (p1 : Int) (q : Int) : q + ctE (IncludesD.c ⟨p0, p1⟩) = q + 1 + 1 := by
  rw [IncludesD.c_mk]
  simp only [ctE_cons, ctE_nil, ctC_num]
  omega
theorem IncludesD.rdm {w : World} {hi : Nat} {p0 : Int} {p1 : Int} {q : Int} {vs : List Value} (h : rdL w hi (mkE (IncludesD.c ⟨p0, p1⟩) q) vs) : vs = [.int .i64 (q), .int .i64 (q + 1)] := by
  rw [IncludesD.mkd] at h
  obtain ⟨v0, _, rfl, h0, v1, _, rfl, h1, rfl⟩ := h
  obtain ⟨rfl, w0⟩ := rdC_num.1 h0
  obtain ⟨rfl, w1⟩ := rdC_num.1 h1
  rfl
theorem IncludesD.ctTop (p0 : Int) (p1 : Int) : ctT (IncludesD.c ⟨p0, p1⟩) = 0 := by
  rw [IncludesD.c_mk]
  have h : ctT [.num p0, .num p1] = 0 := rfl
  rw [h]
set_option maxHeartbeats 8000000 in
set_option maxRecDepth 100000 in
theorem toZ_Includes (p0 : Int) (p1 : Int) (w : World) (hi : Nat)   (w0 : (Lit.int .i64 p0).wf = true) (w1 : (Lit.int .i64 p1).wf = true) (hh : hi ≤ w.heap.size) (hn : szE (IncludesD.c ⟨p0, p1⟩) ≤ 1048576) :
    Calls Try.prog 37 #[.agg #[.int .i64 p0, .int .i64 p1]] w fun e w' => ∃ us fp, e = .returned (.agg us.toArray) ∧ owE w' (IncludesD.c ⟨p0, p1⟩) us fp ∧ fp.Nodup ∧ (∀ k ∈ fp, w.heap.size ≤ k ∧ k < w'.heap.size) ∧ Below w.heap.size w w' := by
  clear hn
  obtain ⟨W0, hW0⟩ : ∃ W : World, W = ((w.alloc (.cells #[.int .i64 p0, .int .i64 p1] 66)).alloc (.cells #[.int .i64 0, .int .i64 0] 64)).alloc (.cells #[.int .i64 0, .int .i64 0] 64) := ⟨_, rfl⟩
  have B0 : Below w.heap.size w W0 := by rw [hW0]; go_grown
  have hz : W0.heap.size = w.heap.size + 1 + 1 + 1 := by rw [hW0]; simp
  have hA0 : W0.heap[w.heap.size]? = some (.cells #[.int .i64 p0, .int .i64 p1] 66) := by rw [hW0]; exact blk_keep (C := w.heap.size + 1) (blk_new _ _ _) (by go_grown) (by omega)
  have hZ0 : W0.heap[w.heap.size + 1]? = some (.cells #[.int .i64 0, .int .i64 0] 64) := by rw [hW0]; exact blk_keep (C := w.heap.size + 1 + 1) (blk_new_at (w := w.alloc (.cells #[.int .i64 p0, .int .i64 p1] 66)) _ _ (by simp)) (by go_grown) (by omega)
  have hO0 : W0.heap[w.heap.size + 1 + 1]? = some (.cells #[.int .i64 0, .int .i64 0] 64) := by rw [hW0]; exact blk_new_at _ _ (by simp)
  go_enter Try.func37, Try.ntmps37
  go_upto_region 2 with fail
  rw [← hW0]
  clear hW0
  have x0 := blk_cell hA0 0 rfl
  have o0 := blk_cell hO0 0 rfl
  have q0 := blk_frozen hO0 0
  have x1 := blk_cell hA0 1 rfl
  have o1 := blk_cell hO0 1 rfl
  have q1 := blk_frozen hO0 1
  go_upto_region 4 with fail
  obtain ⟨W1, hV⟩ : ∃ V : World, V = ((W0.setCell ⟨w.heap.size + 1 + 1, 0, none⟩ (.int .i64 p0)).setCell ⟨w.heap.size + 1 + 1, 1, none⟩ (.int .i64 p1)) := ⟨_, rfl⟩
  rw [← hV]
  have hA1 : W1.heap[w.heap.size]? = some (.cells #[.int .i64 p0, .int .i64 p1] 66) := by rw [hV]; exact blkZ_far (by omega) [.int .i64 p0, .int .i64 p1] 0 hA0
  have hZ1 : W1.heap[w.heap.size + 1]? = some (.cells #[.int .i64 0, .int .i64 0] 64) := by rw [hV]; exact blkZ_far (by omega) [.int .i64 p0, .int .i64 p1] 0 hZ0
  have hO1 : W1.heap[w.heap.size + 1 + 1]? = some (.cells #[.int .i64 p0, .int .i64 p1] 64) := by rw [hV]; exact blkZ_many [.int .i64 p0, .int .i64 p1] 0 hO0
  have KP1 : Keeps W0.heap.size W0 W1 := by rw [hV]; exact Keeps.many (by omega) [.int .i64 p0, .int .i64 p1] W0 0
  have B1 : Below w.heap.size w W1 := by rw [hV]; exact Below.setMany (by omega) [.int .i64 p0, .int .i64 p1] 0 B0
  have Z1 : W0.heap.size ≤ W1.heap.size := Nat.le_trans (Nat.le_refl _) KP1.size
  have SW1 : W0.heap.size ≤ W1.heap.size := KP1.size
  clear hV hA0 hZ0 hO0 x0 o0 q0 x1 o1 q1
  have o0 := blk_cell hO1 0 rfl
  have z0 := blk_cell hZ1 0 rfl
  have q0 := blk_frozen hZ1 0
  have o1 := blk_cell hO1 1 rfl
  have z1 := blk_cell hZ1 1 rfl
  have q1 := blk_frozen hZ1 1
  clear hA1 hZ1 hO1
  go_wp2
  refine bodyPost_ret (v := .agg #[.int .i64 p0, .int .i64 p1]) (by simp [results, Try.results37, go_sem, z0, z1]) rfl ⟨[.int .i64 p0, .int .i64 p1], [], rfl, ?_, ?_, ?_, ?_⟩
  · have KPe : Keeps W0.heap.size W1 (wsetMany W1 (w.heap.size + 1) 0 [.int .i64 p0, .int .i64 p1]) := Keeps.many (by omega) [.int .i64 p0, .int .i64 p1] W1 0
    exact IncludesD.ow_mk w0 w1
  · exact List.nodup_nil
  · intro k hk; cases hk
  · exact Below.setMany (by omega) [.int .i64 p0, .int .i64 p1] 0 B1
def zerosIncludesZ : List Value := [.int .i64 0, .int .i64 0]
theorem infoIncludesZ : (Try.prog.info? 64).map (fun i => (i.zero, i.size, i.bytes)) = some (some (.agg zerosIncludesZ.toArray), 2, 16) := by kernel_rfl
set_option maxHeartbeats 8000000 in
set_option maxRecDepth 100000 in
theorem toZ_IncludesS (xs : List IncludesD) (w : World) (hi : Nat) (v : Value) (h : rdC w hi (rowF IncludesD.c xs) v) (hh : hi ≤ w.heap.size) (hn : szC (rowF IncludesD.c xs) ≤ 1048576) :
    Calls Try.prog 19 #[v] w fun e w' => ∃ u fp, e = .returned u ∧ owC w' (rowF IncludesD.c xs) u fp ∧ fp.Nodup ∧ (∀ k ∈ fp, w.heap.size ≤ k ∧ k < w'.heap.size) ∧ Below w.heap.size w w' := by
  rw [szC_row] at hn
  have hZ := szE_nonneg (xs.flatMap IncludesD.c)
  obtain ⟨a, c, rfl, f1, f2⟩ := h.form
  unfold maxLen at f2
  obtain ⟨i0, hi0, hz0, hz1, hz2⟩ := info_parts infoIncludesZ
  have hb2 : i0.bytes * xs.length ≤ 281474976710656 := by rw [hz2]; omega
  have hb3 : xs.length ≤ maxLen := by unfold maxLen; omega
  have H := Lib.hid h
  clear h
  go_enter Try.func19, Try.ntmps19
  go_wp2_with (at_make; refine wpList_make_full _ rfl _ _ 41 rfl w.heap.size 64 i0 (.agg zerosIncludesZ.toArray) 2 Try.underlying41 hi0 hz0 hz1 .i64 .i64 (xs.length : Int) (xs.length : Int) xs.length rfl rfl rfl rfl hb2 hb3 (Nat.le_refl _) ?_; intro w1 hown hg)
  have hM := Made.start 64 (s := 2) (z := zerosIncludesZ) (by decide) rfl hown
  have hb1 : Below w.heap.size w w1 := (Below.refl _ _).grown hg (Nat.le_refl _) (fun k h => by cases h)
  clear hown hg
  go_loopw [4] (fun i wr => ∃ (k : Nat) (us : List Value) (f : List Nat), k ≤ xs.length ∧ i = .int .i64 (k : Int) ∧ us.length = k * 2 ∧ Hid (Made 64 2 zerosIncludesZ wr w.heap.size xs.length (xs.length - k) ((xs.take k).flatMap IncludesD.c) us f) ∧ Below w.heap.size w wr) (fun i _ => xs.length - (intOf i).toNat)
  case atStart => exact ⟨0, [], [], Nat.zero_le _, rfl, by simp, Lib.hid (by rw [List.take_zero, List.flatMap_nil, Nat.sub_zero]; exact hM), hb1⟩
  case round =>
    clear hM hb1
    obtain ⟨k, us, f, hk, rfl, hul, HM, hb⟩ := hrel
    by_cases hlt : k < xs.length
    · obtain ⟨x, hx⟩ : ∃ x, xs[k]? = some x := ⟨_, List.getElem?_eq_getElem hlt⟩
      have hel := szE_elem IncludesD.c hx
      have HTK := Lib.hid (take_flat_succ IncludesD.c hx)
      obtain ⟨vs, b, off, hr, rfl, m1, m2, HC⟩ := rdC.at IncludesD.c_len H.out hx
      obtain ⟨p0, p1⟩ := x
      obtain ⟨rfl, w0, w1⟩ := IncludesD.rd hr
      have y0 : wr.cell? ⟨b, off + k * 2, none⟩ = some (.int .i64 p0) := HC 0 _ rfl _ _ m2 hb
      have y1 : wr.cell? ⟨b, off + k * 2 + 1, none⟩ = some (.int .i64 p1) := HC 1 _ rfl _ _ m2 hb
      have HT := Lib.hid (toZ_Includes p0 p1 wr hi   w0 w1 (Nat.le_trans hh hb.size) (by omega))
      clear HC hx hr hel
      have hlw := HM.out.lt
      go_wp2_with fail
      refine HT.out.mono ?_
      rintro e w2 ⟨vs, f2, rfl, ho, hn2, hf2, b2⟩
      clear y0 y1
      obtain ⟨rfl, hfe, -, -⟩ := IncludesD.ow ho
      obtain ⟨d, hd⟩ : ∃ d, xs.length - k = d + 1 := ⟨xs.length - k - 1, by omega⟩
      have hM2 := HM.out.below b2 hlw.1 hlw.2
      rw [hd] at hM2
      obtain ⟨z0, fz0⟩ := hM2.cell (j := 0) rfl (by decide)
      rw [hul] at z0 fz0
      obtain ⟨z1, fz1⟩ := hM2.cell (j := 1) rfl (by decide)
      rw [hul] at z1 fz1
      have e0 : w2.cell? ⟨w.heap.size, k * 2, none⟩ = some (.int .i64 0) := z0
      have e1 : w2.cell? ⟨w.heap.size, k * 2 + 1, none⟩ = some (.int .i64 0) := z1
      have h0f : w2.frozen? ⟨w.heap.size, k * 2, none⟩ = false := fz0
      have h1f : w2.frozen? ⟨w.heap.size, k * 2 + 1, none⟩ = false := fz1
      have hP := hM2.put (ds := IncludesD.c ⟨p0, p1⟩) (vs := [.int .i64 p0, .int .i64 p1]) (f2 := f2) rfl rfl ho hn2 (fun x hx => by have := (hf2 x hx).1; omega) (fun x hx y hy => Nat.lt_of_lt_of_le (hlw.2 x hx) (hf2 y hy).1)
      rw [hul] at hP
      have hb7 := Below.setMany (B := w.heap.size) (g := w.heap.size) (Nat.le_refl _) [.int .i64 p0, .int .i64 p1] (k * 2) (hb.trans (b2.mono hb.size))
      have HP := Lib.hid hP
      have HB := Lib.hid hb7
      have hlen : (us ++ ([.int .i64 p0, .int .i64 p1] : List Value)).length = (k + 1) * 2 := by rw [List.length_append, hul, Nat.add_mul]; rfl
      have HLEN := Lib.hid hlen
      clear hP hb7 hlen hM2 ho z0 fz0 z1 fz1
      have hdk : xs.length - (k + 1) = d := by omega
      go_wp2
      refine ⟨⟨k + 1, us ++ [.int .i64 p0, .int .i64 p1], f ++ f2, by omega, by go_num, HLEN.out, Lib.hid ?_, HB.out⟩, by simp only [intOf]; omega⟩
      rw [HTK.out, hdk]
      exact HP.out
    · go_wp2
      go_ret
      obtain rfl : k = xs.length := by omega
      have h7 := HM.out
      have hlw := h7.lt
      have hgt := h7.gt
      rw [Nat.sub_self, List.take_of_length_le (Nat.le_refl _)] at h7
      obtain ⟨h8, h9⟩ := h7.done (fun e => by rw [List.length_eq_zero_iff.mp e]; rfl)
      refine ⟨_, _, rfl, h8, h9, fun x hx => ?_, hb⟩
      rcases List.mem_cons.1 hx with rfl | hx
      · exact ⟨Nat.le_refl _, hlw.1⟩
      · exact ⟨Nat.le_of_lt (hgt x hx), hlw.2 x hx⟩
theorem IncludesD.thin : ∀ x : IncludesD, ctE (IncludesD.c x) ≤ 2 + 64 * szE (IncludesD.c x)
  | ⟨p0, p1⟩ => by
    have h := IncludesD.ct p0 p1 0
    rw [IncludesD.sz]
    omega
theorem IncludesD.thins : ∀ xs : List IncludesD, ctE (xs.flatMap IncludesD.c) ≤ 64 * szC (rowF IncludesD.c xs)
  | [] => by rw [szC_row, List.flatMap_nil, ctE_nil, szE_nil]; decide
  | x :: xs => by
    have h1 := IncludesD.thin x
    have h2 := IncludesD.thins xs
    rw [szC_row] at h2 ⊢
    rw [List.flatMap_cons, ctE_append, szE_append, List.length_cons]
    omega
end Go.Proofs.Ytmgigjpkpeamjaa
