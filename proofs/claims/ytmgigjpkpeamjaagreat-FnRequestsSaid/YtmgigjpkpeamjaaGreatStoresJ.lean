/- Stores of facts (chapter 7): contracts of the landed functions: a fact is put into a store; two stores are merged. No condition but the length of what came in. -/
import Derived.Test.YtmgigjpkpeamjaaGreatStoresI
import Derived.Deep.RegionHeld3
import Derived.Deep.RegionWith
import Derived.Deep.QuietTactic
import Derived.BigQuiet
namespace Go.Proofs.YtmgigjpkpeamjaaGreat
open Go.ChangeShapes Go.WideShapes Go.ChangeAt Go.RowKit
set_option linter.unusedVariables false

/-- Where a fact goes: behind all that are before it. -/
theorem ins_at (f : FactD) : ∀ (xs : List FactD) (k : Nat), k ≤ xs.length → (∀ t (ht : t < xs.length), t < k → beforeB xs[t] f = true) → (∀ t (ht : t < xs.length), k ≤ t → beforeB xs[t] f = false) →
    (∀ h : k < xs.length, sameB xs[k] f = true → ins f xs = xs.set k (mergeF f xs[k])) ∧ ((∀ h : k < xs.length, sameB xs[k] f = false) → ins f xs = xs.take k ++ f :: xs.drop k)
  | [], k, hk, _, _ => by
    obtain rfl : k = 0 := by simpa using hk
    exact ⟨fun h => by simp at h, fun _ => rfl⟩
  | x :: t, 0, _, _, h2 => by
    have hx : beforeB x f = false := h2 0 (by simp) (Nat.le_refl _)
    refine ⟨fun _ hs => ?_, fun hs => ?_⟩
    · have hs' : sameB f x = true := sameB_comm hs
      simp only [ins, (same_not_before hs').1, hs', if_true, List.set_cons_zero, List.getElem_cons_zero]
      rfl
    · have hs' : sameB x f = false := hs (by simp)
      rcases before_three x f with ⟨a, _, _⟩ | ⟨_, b, _⟩ | ⟨_, _, c⟩
      · rw [hx] at a; cases a
      · simp only [ins, b, if_true, List.take_zero, List.drop_zero, List.nil_append]
      · rw [hs'] at c; cases c
  | x :: t, k + 1, hk, h1, h2 => by
    have hx : beforeB x f = true := h1 0 (by simp) (by omega)
    have hb := before_not_same hx
    have hi : ins f (x :: t) = x :: ins f t := by simp only [ins, hb.2.1, hb.2.2, Bool.false_eq_true, if_false]
    obtain ⟨g1, g2⟩ := ins_at f t k (by simpa using hk) (fun j hj hjk => h1 (j + 1) (by simpa using hj) (by omega)) (fun j hj hjk => h2 (j + 1) (by simpa using hj) (by omega))
    refine ⟨fun h hs => ?_, fun hs => ?_⟩
    · rw [hi, g1 (by simpa using h) hs]
      rfl
    · rw [hi, g2 fun h => hs (by simpa using h)]
      rfl
theorem flat_set {X : Type} {f : X → List Value} {s : Nat} (hf : ∀ x, (f x).length = s) (xs : List X) (k : Nat) (y : X) (hk : k < xs.length) : setMany (xs.flatMap f) (k * s) (f y) = (xs.set k y).flatMap f := by
  have h : xs.flatMap f = (xs.take k).flatMap f ++ (f xs[k] ++ (xs.drop (k + 1)).flatMap f) := by
    rw [← List.flatMap_cons, ← List.flatMap_append, ← List.drop_eq_getElem_cons hk, List.take_append_drop]
  have hl : ((xs.take k).flatMap f).length = k * s := by rw [flat_len hf, List.length_take]; congr 1; omega
  rw [h, ← hl, setMany_mid _ _ _ _ (by rw [hf, hf]), List.set_eq_take_append_cons_drop, if_pos hk, List.flatMap_append, List.flatMap_cons]
/-- What putting answers, where the fact's place is known. -/
theorem putF_at {xs : List FactD} {f : FactD} {k : Nat} (hs : storeB xs = true) (hf : factB f = true) (hk : k ≤ xs.length) (h1 : ∀ t (ht : t < xs.length), t < k → beforeB xs[t] f = true) (h2 : ∀ t (ht : t < xs.length), k ≤ t → beforeB xs[t] f = false) :
    (∀ h : k < xs.length, sameB xs[k] f = true → putF xs f = (xs.set k (mergeF f xs[k]), true)) ∧
    ((∀ h : k < xs.length, sameB xs[k] f = false) → (xs.length = 30 → putF xs f = (xs, false)) ∧ (xs.length ≠ 30 → putF xs f = (xs.take k ++ f :: xs.drop k, true))) := by
  obtain ⟨q1, q2, q3⟩ := (storeB_iff xs).1 hs
  obtain ⟨g1, g2⟩ := ins_at f xs k hk h1 h2
  have hp : putF xs f = if (ins f xs).length ≤ 30 then (ins f xs, true) else (xs, false) := by
    unfold putF
    rw [hs, hf, putGo_ins f xs q2, Bool.and_self, if_pos rfl]
  refine ⟨fun h hsm => ?_, fun hsm => ⟨fun hl => ?_, fun hl => ?_⟩⟩
  · rw [hp, g1 h hsm, if_pos (by rw [List.length_set]; exact q3)]
  · rw [hp, g2 hsm, if_neg]
    rw [List.length_append, List.length_cons, List.length_take, List.length_drop]
    omega
  · rw [hp, g2 hsm, if_pos]
    rw [List.length_append, List.length_cons, List.length_take, List.length_drop]
    omega
theorem putF_no {xs : List FactD} {f : FactD} (h : storeB xs = false ∨ factB f = false) : putF xs f = (xs, false) := by
  unfold putF
  rcases h with h | h <;> rw [h]
  · simp
  · simp
/-- One element of a slice of one's own, stored anew. -/
theorem own_store {w w2 : World} {lo hi g cp k B : Nat} {xs : List FactD} (y0 y1 y2 y3 y4 y5 : Int) (hk : k < xs.length) (h : OwnFact w2 lo hi (.slice (some ⟨g, 0, none⟩) xs.length cp) xs) (hb : Below B w w2) (hB : B ≤ g) :
    OwnFact ((((((w2.setCell ⟨g, k * 6, none⟩ (.int .i64 y0)).setCell ⟨g, k * 6 + 1, none⟩ (.int .i64 y1)).setCell ⟨g, k * 6 + 2, none⟩ (.int .i64 y2)).setCell ⟨g, k * 6 + 3, none⟩ (.int .i64 y3)).setCell ⟨g, k * 6 + 4, none⟩ (.int .i64 y4)).setCell ⟨g, k * 6 + 5, none⟩ (.int .i64 y5)) lo hi (.slice (some ⟨g, 0, none⟩) xs.length cp) (xs.set k ⟨y0, y1, y2, y3, y4, y5⟩) ∧ Below B w ((((((w2.setCell ⟨g, k * 6, none⟩ (.int .i64 y0)).setCell ⟨g, k * 6 + 1, none⟩ (.int .i64 y1)).setCell ⟨g, k * 6 + 2, none⟩ (.int .i64 y2)).setCell ⟨g, k * 6 + 3, none⟩ (.int .i64 y3)).setCell ⟨g, k * 6 + 4, none⟩ (.int .i64 y4)).setCell ⟨g, k * 6 + 5, none⟩ (.int .i64 y5)) ∧ ((((((w2.setCell ⟨g, k * 6, none⟩ (.int .i64 y0)).setCell ⟨g, k * 6 + 1, none⟩ (.int .i64 y1)).setCell ⟨g, k * 6 + 2, none⟩ (.int .i64 y2)).setCell ⟨g, k * 6 + 3, none⟩ (.int .i64 y3)).setCell ⟨g, k * 6 + 4, none⟩ (.int .i64 y4)).setCell ⟨g, k * 6 + 5, none⟩ (.int .i64 y5)).heap.size = w2.heap.size := by
  have h1 := OwnC.setMany (FactD.cells ⟨y0, y1, y2, y3, y4, y5⟩) (k * 6) h
  rw [flat_set FactD.cells_len xs k ⟨y0, y1, y2, y3, y4, y5⟩ hk] at h1
  have h2 := Below.setMany hB (FactD.cells ⟨y0, y1, y2, y3, y4, y5⟩) (k * 6) hb
  have h3 := wsetMany_size (g := g) (FactD.cells ⟨y0, y1, y2, y3, y4, y5⟩) w2 (k * 6)
  simp only [FactD.cells, wsetMany, Nat.add_assoc, Nat.reduceAdd] at h1 h2 h3
  refine ⟨?_, h2, h3⟩
  unfold OwnFact
  rw [List.length_set]
  exact h1
set_option maxHeartbeats 8000000 in
set_option maxRecDepth 100000 in
theorem impl_putFact (w : World) (hi c : Nat) (a : Option Addr) (xs : List FactD) (f : FactD) (h : RowFact w hi (.slice a xs.length c) xs) (hh : hi ≤ w.heap.size) (hn : xs.length ≤ 1048576) :
    Calls Tryz.prog 7 #[.slice a xs.length c, f.val] w fun e w' => ∃ u, e = .returned (.tuple #[u, .bool (putF xs f).2]) ∧ OwnFact w' w.heap.size w'.heap.size u (putF xs f).1 ∧ Below w.heap.size w w' := by
  obtain ⟨h1, h2⟩ := h.fits
  unfold maxLen at h2
  obtain ⟨st, hst⟩ : ∃ st, storeB xs = st := ⟨_, rfl⟩
  obtain ⟨fb, hfb⟩ : ∃ fb, factB f = fb := ⟨_, rfl⟩
  have HF := Lib.hid (fun W => show Calls Tryz.prog 21 #[f.val] W fun e w' => e = .returned (.bool fb) ∧ Below W.heap.size W w' from hfb ▸ impl_isFact f W)
  have H := Lib.hid h
  have HST := Lib.hid hst
  have HFB := Lib.hid hfb
  clear h hst hfb
  cases hf : f with
  | mk q0 q1 q2 q3 q4 q5 =>
  rw [hf, FactD.val_mk] at HF
  rw [FactD.val_mk, ← hf]
  have HFE := Lib.hid hf
  clear hf
  have hb0 : Below w.heap.size w (w.alloc (.cells #[.int .i64 q0, .int .i64 q1, .int .i64 q2, .int .i64 q3, .int .i64 q4, .int .i64 q5] 34)) := (Below.refl _ _).alloc (Nat.le_refl _) _
  obtain ⟨W0, hW0⟩ : ∃ W0, W0 = w.alloc (.cells #[.int .i64 q0, .int .i64 q1, .int .i64 q2, .int .i64 q3, .int .i64 q4, .int .i64 q5] 34) := ⟨_, rfl⟩
  have hsz : W0.heap.size = w.heap.size + 1 := by rw [hW0]; simp
  have hblk : W0.heap[w.heap.size]? = some (.cells #[.int .i64 q0, .int .i64 q1, .int .i64 q2, .int .i64 q3, .int .i64 q4, .int .i64 q5] 34) := by rw [hW0]; exact blk_new _ _ _
  have HBL := Lib.hid hblk
  rw [← hW0] at hb0
  clear hblk
  go_enter Tryz.func7, Tryz.ntmps7
  go_wp2_with fail
  rw [← hW0]
  clear hW0
  refine (impl_copyFacts W0 hi c a xs (H.out.below hb0 hh) (Nat.le_trans hh hb0.size) hn).mono ?_
  rintro e u1 ⟨u, rfl, ho, b1⟩
  have d1 := hb0.trans (b1.mono hb0.size)
  have hB1 := blk_keep HBL.out b1 (by omega)
  have HO := Lib.hid ho
  obtain ⟨-, A, cp, rfl, f1, f2, -⟩ := ho.read
  unfold maxLen at f2
  clear ho
  go_wp2_with fail
  have hI := impl_isStore u1 u1.heap.size cp A xs HO.out.read (Nat.le_refl _) hn
  rw [HST.out] at hI
  refine hI.mono ?_
  rintro e u2 ⟨rfl, b2⟩
  have d2 := d1.trans (b2.mono d1.size)
  have hB2 := blk_keep hB1 b2 (by have := b1.size; omega)
  have HO2 := Lib.hid (HO.out.below b2 (Nat.le_refl _))
  clear hB1
  cases st
  · have HP := Lib.hid (putF_no (f := f) (.inl HST.out))
    go_wp2
    go_ret2
    refine ⟨_, by (rw [HP.out]; rfl), ?_, d2⟩
    rw [HP.out]
    exact HO2.out.wide (by omega) b2.size
  · have k0 := blk_cell hB2 0 rfl
    have k1 := blk_cell hB2 1 rfl
    have k2 := blk_cell hB2 2 rfl
    have k3 := blk_cell hB2 3 rfl
    have k4 := blk_cell hB2 4 rfl
    have k5 := blk_cell hB2 5 rfl
    have HB2 := Lib.hid hB2
    clear hB2
    go_wp2_with fail
    refine (HF.out _).mono ?_
    rintro e u3 ⟨rfl, b3⟩
    have d3 := d2.trans (b3.mono d2.size)
    have HB3 := Lib.hid (blk_keep HB2.out b3 (by have := b1.size; have := b2.size; omega))
    have HO3 := Lib.hid (HO2.out.below b3 b2.size)
    clear k0 k1 k2 k3 k4 k5
    cases fb
    · have HP := Lib.hid (putF_no (xs := xs) (.inr HFB.out))
      go_wp2
      go_ret2
      refine ⟨_, by (rw [HP.out]; rfl), ?_, d3⟩
      rw [HP.out]
      exact HO3.out.wide (by omega) (Nat.le_trans b2.size b3.size)
    · have k0 := blk_cell HB3.out 0 rfl
      have k1 := blk_cell HB3.out 1 rfl
      have k2 := blk_cell HB3.out 2 rfl
      have k3 := blk_cell HB3.out 3 rfl
      have k4 := blk_cell HB3.out 4 rfl
      have k5 := blk_cell HB3.out 5 rfl
      have hPL := impl_placeOf u3 u3.heap.size cp A xs f ((HO3.out.read).more (Nat.le_trans b2.size b3.size)) (Nat.le_refl _) hn ((storeB_iff xs).1 HST.out).2.1
      rw [HFE.out, FactD.val_mk, ← HFE.out] at hPL
      have HPL := Lib.hid hPL
      clear hPL
      go_wp2_with fail
      refine HPL.out.mono ?_
      rintro e u4 ⟨k, hk, rfl, ⟨g1, g2⟩, b4⟩
      have d4 := d3.trans (b4.mono d3.size)
      have HB4 := Lib.hid (blk_keep HB3.out b4 (by have := b1.size; have := b2.size; have := b3.size; omega))
      have HO4 := Lib.hid (HO3.out.below b4 (Nat.le_trans b2.size b3.size))
      have HP := Lib.hid (putF_at HST.out HFB.out hk g1 g2)
      clear g1 g2 k0 k1 k2 k3 k4 k5 HPL
      go_upto_region 5 with fail
      by_cases hlt : k < xs.length
      · obtain ⟨x, hx⟩ : ∃ x, xs[k]? = some x := ⟨_, List.getElem?_eq_getElem hlt⟩
        have hx' : xs[k] = x := by rw [List.getElem?_eq_getElem hlt] at hx; exact Option.some.inj hx
        obtain ⟨r, hr⟩ : ∃ r, sameB x f = r := ⟨_, rfl⟩
        have HE := Lib.hid (fun W => show Calls Tryz.prog 12 #[x.val, f.val] W fun e w' => e = .returned (.bool r) ∧ Below W.heap.size W w' from hr ▸ impl_same x f W)
        have HN := Lib.hid (fun W => impl_newer x f W)
        have HX := Lib.hid hx'
        have HR := Lib.hid hr
        clear hr hx'
        rw [HFE.out] at HE HN
        obtain ⟨p0, p1, p2, p3, p4, p5⟩ := x
        rw [FactD.val_mk, FactD.val_mk] at HE HN
        obtain ⟨g, hA, hg0, hg1⟩ : ∃ g, A = some ⟨g, 0, none⟩ ∧ W0.heap.size ≤ g ∧ g < u1.heap.size := by
          rcases HO4.out.row.2 with ⟨e1, e2⟩ | ⟨g, cap, cur, e1, e2, _⟩
          · omega
          · injection e1 with e1 _ _
            exact ⟨g, e1, e2, HO4.out.hi g (by rw [e1]; rfl)⟩
        subst hA
        have hg4 : g < u4.heap.size := by have := b2.size; have := b3.size; have := b4.size; omega
        have hw4 : w.heap.size < u4.heap.size := by have := b2.size; have := b3.size; have := b4.size; omega
        obtain ⟨b, off, e0, r1, r2, HC⟩ := RowFact.at HO4.out.read hx
        injection e0 with e0
        injection e0 with e1 e2
        subst e1 e2
        have HS := Lib.hid (fun (w' : World) (hb' : Below u4.heap.size u4 w') => (⟨by have h9 := HC _ _ hg4 hb'; simpa only [Nat.zero_add] using h9,
          ⟨(blk_cell (blk_keep HB4.out hb' hw4) 0 rfl), (blk_cell (blk_keep HB4.out hb' hw4) 1 rfl), (blk_cell (blk_keep HB4.out hb' hw4) 2 rfl), (blk_cell (blk_keep HB4.out hb' hw4) 3 rfl), (blk_cell (blk_keep HB4.out hb' hw4) 4 rfl), (blk_cell (blk_keep HB4.out hb' hw4) 5 rfl)⟩, hb'⟩ : (w'.cell? ⟨g, k * 6, none⟩ = some (.int .i64 p0) ∧ w'.cell? ⟨g, k * 6 + 1, none⟩ = some (.int .i64 p1) ∧ w'.cell? ⟨g, k * 6 + 2, none⟩ = some (.int .i64 p2) ∧ w'.cell? ⟨g, k * 6 + 3, none⟩ = some (.int .i64 p3) ∧ w'.cell? ⟨g, k * 6 + 4, none⟩ = some (.int .i64 p4) ∧ w'.cell? ⟨g, k * 6 + 5, none⟩ = some (.int .i64 p5)) ∧ (w'.cell? ⟨w.heap.size, 0, none⟩ = some (.int .i64 q0) ∧ w'.cell? ⟨w.heap.size, 1, none⟩ = some (.int .i64 q1) ∧ w'.cell? ⟨w.heap.size, 2, none⟩ = some (.int .i64 q2) ∧ w'.cell? ⟨w.heap.size, 3, none⟩ = some (.int .i64 q3) ∧ w'.cell? ⟨w.heap.size, 4, none⟩ = some (.int .i64 q4) ∧ w'.cell? ⟨w.heap.size, 5, none⟩ = some (.int .i64 q5)) ∧ Below u4.heap.size u4 w'))
        clear HC
        have hbD := (Below.refl u4.heap.size u4).drew
        have hlt' : (k : Int) < (xs.length : Int) := by omega
        go_region_held3 (fun w' => (w'.cell? ⟨g, k * 6, none⟩ = some (.int .i64 p0) ∧ w'.cell? ⟨g, k * 6 + 1, none⟩ = some (.int .i64 p1) ∧ w'.cell? ⟨g, k * 6 + 2, none⟩ = some (.int .i64 p2) ∧ w'.cell? ⟨g, k * 6 + 3, none⟩ = some (.int .i64 p3) ∧ w'.cell? ⟨g, k * 6 + 4, none⟩ = some (.int .i64 p4) ∧ w'.cell? ⟨g, k * 6 + 5, none⟩ = some (.int .i64 p5)) ∧ (w'.cell? ⟨w.heap.size, 0, none⟩ = some (.int .i64 q0) ∧ w'.cell? ⟨w.heap.size, 1, none⟩ = some (.int .i64 q1) ∧ w'.cell? ⟨w.heap.size, 2, none⟩ = some (.int .i64 q2) ∧ w'.cell? ⟨w.heap.size, 3, none⟩ = some (.int .i64 q3) ∧ w'.cell? ⟨w.heap.size, 4, none⟩ = some (.int .i64 q4) ∧ w'.cell? ⟨w.heap.size, 5, none⟩ = some (.int .i64 q5)) ∧ Below u4.heap.size u4 w')
          (first | exact HS.out _ hbD | exact HS.out _ (hbD.trans (Below.mono (by assumption) hbD.size)))
          (first | (go_at_call 12; (with_reducible refine (HE.out _).mono ?_); rintro e1 w1 ⟨rfl, b5⟩))
        have d5 := hbD.trans (b5.mono hbD.size)
        have HB5 := Lib.hid (blk_keep HB4.out d5 hw4)
        have HO5 := Lib.hid (HO4.out.below d5 (Nat.le_trans b2.size (Nat.le_trans b3.size b4.size)))
        cases r
        · have HQ := Lib.hid (HP.out.2 fun _ => by rw [HX.out]; exact HR.out)
          by_cases h30 : (xs.length : Int) = 30
          · go_wp2
            go_ret2
            have hP := HQ.out.1 (by omega)
            refine ⟨_, by (rw [hP]; rfl), ?_, d4.trans (d5.mono d4.size)⟩
            rw [hP]
            exact HO5.out.wide (by omega) (by have := b2.size; have := b3.size; have := b4.size; have := d5.size; omega)
          · have d6 := d4.trans (d5.mono d4.size)
            go_upto_region 10 with fail
            have k0 := blk_cell HB5.out 0 rfl
            have k1 := blk_cell HB5.out 1 rfl
            have k2 := blk_cell HB5.out 2 rfl
            have k3 := blk_cell HB5.out 3 rfl
            have k4 := blk_cell HB5.out 4 rfl
            have k5 := blk_cell HB5.out 5 rfl
            have hba : Below w1.heap.size w1 (w1.alloc (.cells #[.int .i64 q0, .int .i64 q1, .int .i64 q2, .int .i64 q3, .int .i64 q4, .int .i64 q5] 34)) := (Below.refl _ _).alloc (Nat.le_refl _) _
            have hIN := impl_insert (w1.alloc (.cells #[.int .i64 q0, .int .i64 q1, .int .i64 q2, .int .i64 q3, .int .i64 q4, .int .i64 q5] 34)) w.heap.size u1.heap.size k w1.heap.size _ xs f ((HO5.out.below hba (by have := b2.size; have := b3.size; have := b4.size; have := d5.size; omega)).wide (by omega) (Nat.le_refl _)) hk hn (by have := hba.size; have := b2.size; have := b3.size; have := b4.size; have := d5.size; omega) (by have := b2.size; have := b3.size; have := b4.size; have := d5.size; omega) (by rw [HFE.out]; exact blk_new _ _ _)
            have HIN := Lib.hid hIN
            clear hIN
            go_wp2_with fail
            refine HIN.out.mono ?_
            rintro e u9 ⟨u', rfl, ho9, b9⟩
            have d9 := (d6.trans (hba.mono d6.size)).trans b9
            have HO9 := Lib.hid ho9
            clear ho9 k0 k1 k2 k3 k4 k5
            go_wp2
            go_ret2
            have hP := HQ.out.2 (by omega)
            refine ⟨_, by (rw [hP]; rfl), ?_, d9⟩
            rw [hP]
            exact HO9.out
        · obtain ⟨y, hy⟩ : ∃ y, newF ⟨p0, p1, p2, p3, p4, p5⟩ ⟨q0, q1, q2, q3, q4, q5⟩ = y := ⟨_, rfl⟩
          have HY := Lib.hid (show y = mergeF f ⟨p0, p1, p2, p3, p4, p5⟩ by rw [← hy, ← HFE.out]; exact newF_merge (sameB_comm HR.out))
          rw [hy] at HN
          clear hy
          obtain ⟨y0, y1, y2, y3, y4, y5⟩ := y
          rw [FactD.val_mk] at HN
          obtain ⟨cur, hcur⟩ : ∃ cur, u4.heap[g]? = some (.cells cur 34 (0, 0)) := by
            rcases HO4.out.row.2 with ⟨e1, _⟩ | ⟨g', cap, cur, e1, _, e2, _⟩
            · cases e1
            · injection e1 with e1 _ _
              injection e1 with e1
              injection e1 with e1 _ _
              subst e1
              exact ⟨cur, e2⟩
          have HS2 := Lib.hid (fun (w' : World) (hb' : Below u4.heap.size u4 w') => (⟨⟨blk_frozen (blk_keep hcur hb' hg4) _, blk_frozen (blk_keep hcur hb' hg4) _, blk_frozen (blk_keep hcur hb' hg4) _, blk_frozen (blk_keep hcur hb' hg4) _, blk_frozen (blk_keep hcur hb' hg4) _, blk_frozen (blk_keep hcur hb' hg4) _⟩, HS.out w' hb'⟩ : (w'.frozen? ⟨g, k * 6, none⟩ = false ∧ w'.frozen? ⟨g, k * 6 + 1, none⟩ = false ∧ w'.frozen? ⟨g, k * 6 + 2, none⟩ = false ∧ w'.frozen? ⟨g, k * 6 + 3, none⟩ = false ∧ w'.frozen? ⟨g, k * 6 + 4, none⟩ = false ∧ w'.frozen? ⟨g, k * 6 + 5, none⟩ = false) ∧ (w'.cell? ⟨g, k * 6, none⟩ = some (.int .i64 p0) ∧ w'.cell? ⟨g, k * 6 + 1, none⟩ = some (.int .i64 p1) ∧ w'.cell? ⟨g, k * 6 + 2, none⟩ = some (.int .i64 p2) ∧ w'.cell? ⟨g, k * 6 + 3, none⟩ = some (.int .i64 p3) ∧ w'.cell? ⟨g, k * 6 + 4, none⟩ = some (.int .i64 p4) ∧ w'.cell? ⟨g, k * 6 + 5, none⟩ = some (.int .i64 p5)) ∧ (w'.cell? ⟨w.heap.size, 0, none⟩ = some (.int .i64 q0) ∧ w'.cell? ⟨w.heap.size, 1, none⟩ = some (.int .i64 q1) ∧ w'.cell? ⟨w.heap.size, 2, none⟩ = some (.int .i64 q2) ∧ w'.cell? ⟨w.heap.size, 3, none⟩ = some (.int .i64 q3) ∧ w'.cell? ⟨w.heap.size, 4, none⟩ = some (.int .i64 q4) ∧ w'.cell? ⟨w.heap.size, 5, none⟩ = some (.int .i64 q5)) ∧ Below u4.heap.size u4 w'))
          have hbD5 := d5.drew
          obtain ⟨⟨z0, z1, z2, z3, z4, z5⟩, ⟨c0, c1, c2, c3, c4, c5⟩, ⟨k0, k1, k2, k3, k4, k5⟩, _⟩ := HS2.out _ hbD5
          go_upto_region 6 with fail
          go_region_with (first | (go_at_call 24; refine (HN.out _).mono ?_; rintro e1 w2 ⟨rfl, b6⟩; clear z0 z1 z2 z3 z4 z5 c0 c1 c2 c3 c4 c5 k0 k1 k2 k3 k4 k5; obtain ⟨⟨z0, z1, z2, z3, z4, z5⟩, ⟨c0, c1, c2, c3, c4, c5⟩, ⟨k0, k1, k2, k3, k4, k5⟩, _⟩ := HS2.out w2 (hbD5.trans (b6.mono hbD5.size))))
          all_goals
            have d6 := d4.trans ((hbD5.trans (b6.mono hbD5.size)).mono d4.size)
            obtain ⟨hw1, hw2, hw3⟩ := own_store y0 y1 y2 y3 y4 y5 hlt (HO5.out.below (B := u1.heap.size) (((Below.refl _ w1).drew.trans b6).mono (by have := b2.size; have := b3.size; have := b4.size; have := d5.size; have : w1.drew.heap.size = w1.heap.size := rfl; omega)) (Nat.le_refl _)) d6 (by omega)
            have HW1 := Lib.hid hw1
            have HW2 := Lib.hid hw2
            have HW3 := Lib.hid hw3
            clear hw1 hw2 hw3 z0 z1 z2 z3 z4 z5 c0 c1 c2 c3 c4 c5 k0 k1 k2 k3 k4 k5
            go_wp2
            go_ret2
            have hP := HP.out.1 hlt (by rw [HX.out]; exact HR.out)
            rw [HX.out, ← HY.out] at hP
            refine ⟨_, by (rw [hP]; rfl), ?_, HW2.out⟩
            rw [hP]
            exact HW1.out.wide (by omega) (by rw [HW3.out]; have := b2.size; have := b3.size; have := b4.size; have := d5.size; have : w1.drew.heap.size = w1.heap.size := rfl; have := b6.size; omega)
      · have HQ := Lib.hid (HP.out.2 fun h => absurd h hlt)
        have hd0 : decide ((k : Int) < (xs.length : Int)) = false := decide_eq_false (by omega)
        have hw4 : w.heap.size < u4.heap.size := by have := b1.size; have := b2.size; have := b3.size; have := b4.size; omega
        go_quiet (fail)
        obtain ⟨V, hV, d5⟩ : ∃ V, V = u4.drewN nq ∧ Below u4.heap.size u4 V := ⟨_, rfl, bDrew (Below.refl _ _) _⟩
        rw [← hV]
        clear hV
        have HB5 := Lib.hid (blk_keep HB4.out d5 hw4)
        have HO5 := Lib.hid (HO4.out.below d5 (by have := b2.size; have := b3.size; have := b4.size; omega))
        have d6 := d4.trans (d5.mono d4.size)
        by_cases h30 : (xs.length : Int) = 30
        · go_wp2
          go_ret2
          have hP := HQ.out.1 (by omega)
          refine ⟨_, by (rw [hP]; rfl), ?_, d6⟩
          rw [hP]
          exact HO5.out.wide (by omega) (by have := b1.size; have := b2.size; have := b3.size; have := b4.size; have := d5.size; omega)
        · go_upto_region 10 with fail
          have k0 := blk_cell HB5.out 0 rfl
          have k1 := blk_cell HB5.out 1 rfl
          have k2 := blk_cell HB5.out 2 rfl
          have k3 := blk_cell HB5.out 3 rfl
          have k4 := blk_cell HB5.out 4 rfl
          have k5 := blk_cell HB5.out 5 rfl
          have hba : Below V.heap.size V (V.alloc (.cells #[.int .i64 q0, .int .i64 q1, .int .i64 q2, .int .i64 q3, .int .i64 q4, .int .i64 q5] 34)) := (Below.refl _ _).alloc (Nat.le_refl _) _
          have hIN := impl_insert (V.alloc (.cells #[.int .i64 q0, .int .i64 q1, .int .i64 q2, .int .i64 q3, .int .i64 q4, .int .i64 q5] 34)) w.heap.size u1.heap.size k V.heap.size _ xs f ((HO5.out.below hba (by have := b1.size; have := b2.size; have := b3.size; have := b4.size; have := d5.size; omega)).wide (by omega) (Nat.le_refl _)) hk hn (by have := hba.size; have := b1.size; have := b2.size; have := b3.size; have := b4.size; have := d5.size; omega) (by have := b1.size; have := b2.size; have := b3.size; have := b4.size; have := d5.size; omega) (by rw [HFE.out]; exact blk_new _ _ _)
          have HIN := Lib.hid hIN
          clear hIN
          go_wp2_with fail
          refine HIN.out.mono ?_
          rintro e u9 ⟨u', rfl, ho9, b9⟩
          have d9 := (d6.trans (hba.mono d6.size)).trans b9
          have HO9 := Lib.hid ho9
          clear ho9 k0 k1 k2 k3 k4 k5
          go_wp2
          go_ret2
          have hP := HQ.out.2 (by omega)
          refine ⟨_, by (rw [hP]; rfl), ?_, d9⟩
          rw [hP]
          exact HO9.out
end Go.Proofs.YtmgigjpkpeamjaaGreat
