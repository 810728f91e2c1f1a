/- The draws of chapter 7's inputs: stores of facts. -/
import Derived.Test.YtjfmmingkciapaaDraw6b
import Derived.Test.YtjfmmingkciapaaStoreM
namespace Go.Proofs.Ytjfmmingkciapaa
open Go.ChangeShapes Go.WideShapes Go.ChangeAt Go.RowKit
set_option linter.unusedVariables false

theorem OwnC.only {E : TypeId} {s B lo hi m : Nat} {w w' : World} {v : Value} {cs : List Value} (h : OwnC E s w lo hi v m cs) (ho : Only B w w') (hB : B < lo) : OwnC E s w' lo hi v m cs :=
  h.keep fun k h1 _ h3 => ho.block k h3 (by omega)
theorem putF_wf {xs : List FactD} {f : FactD} (hx : ∀ x ∈ xs, x.wf) (hf : f.wf) : ∀ x ∈ (putF xs f).1, x.wf := by
  rcases putF_cases xs f with ⟨h1, _⟩ | ⟨h1, _⟩
  · rw [h1]
    intro x h
    rcases mem_ins h with rfl | h
    · exact hf
    · exact hx x h
  · rw [h1]; exact hx
/-- A store that was drawn: the call's own, of no more than 30 facts. -/
def Drawn (w w' : World) (u : Value) (xs : List FactD) : Prop := xs.length ≤ 30 ∧ (∀ x ∈ xs, x.wf) ∧ OwnFact w' w.heap.size w'.heap.size u xs
set_option maxHeartbeats 4000000 in
theorem store_any (w : World) (B : Nat) (a : Option Addr) (len cap : Nat) (z : List Int) (hc : Cur w B a len cap z) :
    Calls Try.prog 56 #[.pointer (some ⟨B, 0, none⟩)] w fun e w' => ∃ u xs, e = .returned u ∧ Drawn w w' u xs ∧ Only B w w' ∧ Cur w' B a len cap z := by
  have hE := OwnC.empty 26 6 w
  have hBw := hc.lt
  have hc0 := hc.alloc (.cells #[] 26)
  have ho0 := (Only.refl B w).alloc (.cells #[] 26)
  clear hc
  go_enter Try.func56, Try.ntmps56
  go_wp2_with fail
  refine (below_any _ B a len cap z 10 (by decide) (by decide) hc0).mono ?_
  rintro e w1 ⟨n, hn, rfl, ho1, hc1⟩
  have hE1 := (hE.only ho1 hBw).wide (hi' := w1.heap.size) (Nat.le_refl _) (by have := ho1.size; rw [size_alloc] at this; exact this)
  have ho1 := ho0.trans ho1
  clear hE hc0 ho0
  go_wp2
  go_loopw [3, 4] (fun v i wr => ∃ (n : Nat) (M : List FactD), i = .int .i64 (n : Int) ∧ n ≤ 10 ∧ M.length ≤ 30 ∧ Hid (∀ x ∈ M, x.wf) ∧ OwnFact wr w.heap.size wr.heap.size v M ∧ Only B w wr ∧ Cur wr B a len cap z) (fun _ i _ => (intOf i).toNat)
  case atStart => exact ⟨n, [], rfl, by omega, by simp, Lib.hid (fun x hx => by cases hx), by show OwnC _ 6 _ _ _ _ 0 []; exact hE1, ho1, hc1⟩
  case round =>
    obtain ⟨n, M, rfl, hn, hm, hwf, hown, ho, hcr⟩ := hrel
    clear hE1 ho1 hc1
    by_cases hp : 0 < n
    · have hp' : (0 : Int) < (n : Int) := by omega
      go_wp2_with fail
      refine (fact_any wr B a len cap z hcr).mono ?_
      rintro e w2 ⟨x, hx, rfl, ho2, hc2⟩
      have hown2 := (hown.only ho2 hBw).wide (Nat.le_refl _) ho2.size
      have ho2 := ho.trans ho2
      have hr := hown2.read
      obtain ⟨_, A, cp, rfl, _⟩ := id hr
      have HP := Lib.hid (spec_putFact w2 w2.heap.size cp A M x hr (Nat.le_refl _) (by omega))
      clear hr hown hown2 ho hcr
      go_wp2_with fail
      refine HP.out.mono ?_
      rintro e u2 ⟨v', rfl, hown3, b2⟩
      have HO2 := Lib.hid hown3
      have ho3 := ho2.trans (Below.only b2)
      have hc3 := hc2.only b2
      have HS := ho2.size
      have hwf2 := Lib.hid (putF_wf hwf.out hx)
      have hl := putF_length M x 30 hm (Nat.le_refl _)
      clear hown3 ho2 hc2 b2 HP
      generalize putF M x = R at HO2 hwf2 hl
      go_wp2
      refine ⟨⟨n - 1, R.1, by go_num, by omega, hl, hwf2, HO2.out.wide HS (Nat.le_refl _), ho3, hc3⟩, by simp only [intOf]; omega⟩
    · obtain rfl : n = 0 := by omega
      go_wp2
      go_ret
      exact ⟨_, M, rfl, ⟨hm, hwf.out, hown⟩, ho, hcr⟩
/-- A store that a law has drawn, as it may be read. -/
def Stored (w : World) (u : Value) (xs : List FactD) : Prop := xs.length ≤ 30 ∧ (∀ x ∈ xs, x.wf) ∧ RowFact w w.heap.size u xs
theorem Stored.below {w w' : World} {u : Value} {xs : List FactD} (h : Stored w u xs) (hb : Below w.heap.size w w') : Stored w' u xs :=
  ⟨h.1, h.2.1, (h.2.2.below hb (Nat.le_refl _)).more hb.size⟩
theorem Drawn.stored {w w1 w2 : World} {B : Nat} {u : Value} {xs : List FactD} (h : Drawn w w1 u xs) (ho : Only B w1 w2) (hB : B < w.heap.size) : Stored w2 u xs :=
  ⟨h.1, h.2.1, ((h.2.2.only ho hB).read).more ho.size⟩
theorem draw_mergeStores (w : World) (a : Option Addr) (len cap : Nat) (z : List Int) (hr : IsRow .u8 w a len cap z) :
    Calls Try.prog 15 #[.slice a len cap] w fun e w' => ∃ u xs v ys, e = .returned (.tuple #[u, v]) ∧ Stored w' u xs ∧ Stored w' v ys ∧ Below w.heap.size w w' := by
  go_enter Try.func15, Try.ntmps15
  go_wp2_with fail
  refine (new_any w a len cap z hr).mono ?_
  rintro e w1 ⟨B, rfl, hB, hb1, hc1⟩
  go_wp2_with fail
  refine (store_any w1 B a len cap z hc1).mono ?_
  rintro e w2 ⟨u, xs, rfl, hd, ho2, hc2⟩
  have hd2 := hd.stored (Only.refl B w2) hc1.lt
  have hlt := hc1.lt
  go_wp2_with fail
  refine (store_any w2 B a len cap z hc2).mono ?_
  rintro e w3 ⟨v, ys, rfl, hd', ho3, hc3⟩
  have H := Lib.hid (⟨hd.stored ho3 hlt, hd'.stored (Only.refl B w3) hc2.lt, hb1.trans ((ho2.trans ho3).below hb1.size hB)⟩ : Stored w3 u xs ∧ Stored w3 v ys ∧ Below w.heap.size w w3)
  clear hd hd' hd2 ho2 ho3 hc1 hc2 hc3 hb1
  go_wp2
  go_ret2
  exact ⟨u, xs, v, ys, rfl, H.out⟩
theorem OwnC.setOther {E : TypeId} {s lo hi m g : Nat} {w : World} {v : Value} {cs : List Value} (h : OwnC E s w lo hi v m cs) (hg : g < lo ∨ hi ≤ g) (i : Nat) (u : Value) : OwnC E s (w.setCell ⟨g, i, none⟩ u) lo hi v m cs :=
  h.keep fun k h1 h2 _ => Below.heap_setCell w ⟨g, i, none⟩ u k (by show k ≠ g; omega)
set_option maxHeartbeats 8000000 in
set_option maxRecDepth 100000 in
theorem draw_putFact (w : World) (a : Option Addr) (len cap : Nat) (z : List Int) (hr : IsRow .u8 w a len cap z) :
    Calls Try.prog 13 #[.slice a len cap] w fun e w' => ∃ u xs, ∃ x : FactD, e = .returned (.tuple #[u, x.val]) ∧ x.wf ∧ Stored w' u xs ∧ Below w.heap.size w w' := by
  go_enter Try.func13, Try.ntmps13
  go_wp2_with fail
  refine (new_any _ a len cap z (hr.below ((Below.refl _ _).alloc (Nat.le_refl _) _))).mono ?_
  rintro e w1 ⟨B, rfl, hB, hb1, hc1⟩
  have hR : Loc w B w.heap.size 26 #[.int .i64 0, .int .i64 0, .int .i64 0, .int .i64 0, .int .i64 0, .int .i64 0] w1 :=
    Loc.early ((Below.refl _ _).alloc (Nat.le_refl _) _) hb1 (blk_new _ _ _) (Nat.le_refl _) (by simp) hB
  have hlt := hc1.lt
  have hBw : w.heap.size ≤ B := by rw [size_alloc] at hB; omega
  have hRlo : w.heap.size < w1.heap.size ∨ w1.heap.size ≤ w.heap.size := .inl hR.lt
  clear hb1 hr hB
  go_wp2_with fail
  refine (store_any w1 B a len cap z hc1).mono ?_
  rintro e w2 ⟨U, M, rfl, ⟨hml, hmw, hown⟩, ho2, hc2⟩
  have hmw := Lib.hid hmw
  have hR2 := hR.call ho2
  have hsz2 := ho2.size
  clear hR ho2 hc1
  go_wp2_with fail
  refine (once_any w2 B a len cap z 10 (by decide) (by decide) hc2).mono ?_
  rintro e w3 ⟨q, rfl, ho3, hc3⟩
  have hR3 := hR2.call ho3
  have hsz3 : w1.heap.size ≤ w3.heap.size := Nat.le_trans hsz2 ho3.size
  have hown3 := (hown.only ho3 hlt).wide (Nat.le_refl _) ho3.size
  clear hR2 ho3 hc2 hown
  cases q
  · obtain ⟨_, A, cp, rfl, _⟩ := id hown3.read
    have hRlo : w.heap.size < w1.heap.size ∨ w3.heap.size ≤ w.heap.size := .inl (by omega)
    go_wp2_with fail
    refine (anyFact_any w3 B a len cap z hc3).mono ?_
    rintro e w9 ⟨⟨k, s, v, i, t, u⟩, hwf, rfl, ho9, hc9⟩
    rw [FactD.val_mk]
    have lr9 := hR3.call ho9
    have hown9 := hown3.only ho9 hlt
    have lf3 : Loc w B w9.heap.size 26 #[.int .i64 k, .int .i64 s, .int .i64 v, .int .i64 i, .int .i64 t, .int .i64 u] (w9.alloc (.cells #[.int .i64 k, .int .i64 s, .int .i64 v, .int .i64 i, .int .i64 t, .int .i64 u] 26)) := Loc.mk_new lr9.only hc9.lt
    have lr4 := lr9.alloc (.cells #[.int .i64 k, .int .i64 s, .int .i64 v, .int .i64 i, .int .i64 t, .int .i64 u] 26)
    have hc4 := hc9.alloc (.cells #[.int .i64 k, .int .i64 s, .int .i64 v, .int .i64 i, .int .i64 t, .int .i64 u] 26)
    have hown4 := hown9.below (B := w9.heap.size) ((Below.refl w9.heap.size w9).alloc (Nat.le_refl _) (.cells #[.int .i64 k, .int .i64 s, .int .i64 v, .int .i64 i, .int .i64 t, .int .i64 u] 26)) ho9.size
    obtain ⟨W4, hW4⟩ : ∃ W : World, W = w9.alloc (.cells #[.int .i64 k, .int .i64 s, .int .i64 v, .int .i64 i, .int .i64 t, .int .i64 u] 26) := ⟨_, rfl⟩
    rw [← hW4] at lf3 lr4 hc4 hown4
    have hBF : B < w9.heap.size := hc9.lt
    have hRF : w.heap.size < w9.heap.size := lr9.lt
    have h2F : w3.heap.size ≤ w9.heap.size := ho9.size
    obtain ⟨F, hF⟩ : ∃ F, w9.heap.size = F := ⟨_, rfl⟩
    clear lr9 hown9 hR3 hown3 hc3
    by_cases hl : 0 < M.length
    · have hl' : (0 : Int) < (M.length : Int) := by omega
      go_wp2_with fail
      rw [← hW4]
      simp only [hF] at lf3 hBF hRF h2F ⊢
      clear hW4 hF hc9 ho9
      have hFR : F ≠ w.heap.size := by omega
      refine (once_any W4 B a len cap z 3 (by decide) (by decide) hc4).mono ?_
      rintro e w5 ⟨q, rfl, ho5, hc5⟩
      have lf5 := lf3.call ho5
      have lr5 := lr4.call ho5
      have hown5 := hown4.only ho5 hlt
      clear lf3 lr4 hc4 hown4 ho5
      cases q
      · go_upto_region 12 with fail
        have p0 := lr5.cell 0 rfl
        have p1 := lr5.cell 1 rfl
        have p2 := lr5.cell 2 rfl
        have p3 := lr5.cell 3 rfl
        have p4 := lr5.cell 4 rfl
        have p5 := lr5.cell 5 rfl
        have g0 := lr5.frozen 0
        have g1 := lr5.frozen 1
        have g2 := lr5.frozen 2
        have g3 := lr5.frozen 3
        have g4 := lr5.frozen 4
        have g5 := lr5.frozen 5
        have hch := ((((((lf5.setFar (Nat.le_refl _) hFR 0 (.int .i64 k)).setFar (Nat.le_refl _) hFR 1 (.int .i64 s)).setFar (Nat.le_refl _) hFR 2 (.int .i64 v)).setFar (Nat.le_refl _) hFR 3 (.int .i64 i)).setFar (Nat.le_refl _) hFR 4 (.int .i64 t)).setFar (Nat.le_refl _) hFR 5 (.int .i64 u)).drew
        have hoc := (OwnC.read ((((((hown5.setOther hRlo 0 (.int .i64 k)).setOther hRlo 1 (.int .i64 s)).setOther hRlo 2 (.int .i64 v)).setOther hRlo 3 (.int .i64 i)).setOther hRlo 4 (.int .i64 t)).setOther hRlo 5 (.int .i64 u))).drewN 1
        have H := Lib.hid (⟨⟨hml, hmw.out, hoc.more (Nat.le_trans h2F (Nat.le_of_lt hch.lt))⟩, ((((((lr5.set 0 (.int .i64 k)).set 1 (.int .i64 s)).set 2 (.int .i64 v)).set 3 (.int .i64 i)).set 4 (.int .i64 t)).set 5 (.int .i64 u)).drew.only.below (Nat.le_refl _) hBw⟩ : Stored ((((((w5.setCell ⟨w.heap.size, 0, none⟩ (.int .i64 k)).setCell ⟨w.heap.size, 1, none⟩ (.int .i64 s)).setCell ⟨w.heap.size, 2, none⟩ (.int .i64 v)).setCell ⟨w.heap.size, 3, none⟩ (.int .i64 i)).setCell ⟨w.heap.size, 4, none⟩ (.int .i64 t)).setCell ⟨w.heap.size, 5, none⟩ (.int .i64 u)).drew (.slice A M.length cp) M ∧ Below w.heap.size w ((((((w5.setCell ⟨w.heap.size, 0, none⟩ (.int .i64 k)).setCell ⟨w.heap.size, 1, none⟩ (.int .i64 s)).setCell ⟨w.heap.size, 2, none⟩ (.int .i64 v)).setCell ⟨w.heap.size, 3, none⟩ (.int .i64 i)).setCell ⟨w.heap.size, 4, none⟩ (.int .i64 t)).setCell ⟨w.heap.size, 5, none⟩ (.int .i64 u)).drew)
        obtain ⟨x0, x1, x2, x3, x4, x5⟩ := lf5.cells6
        clear hown5 hoc
        go_region_held3 (fun w' => w'.cell? ⟨F, 0, none⟩ = some (.int .i64 k) ∧ w'.cell? ⟨F, 1, none⟩ = some (.int .i64 s) ∧ w'.cell? ⟨F, 2, none⟩ = some (.int .i64 v) ∧ w'.cell? ⟨F, 3, none⟩ = some (.int .i64 i) ∧ w'.cell? ⟨F, 4, none⟩ = some (.int .i64 t) ∧ w'.cell? ⟨F, 5, none⟩ = some (.int .i64 u))
          (first | with_reducible exact lf5.drew.cells6 | with_reducible exact hch.cells6)
          (fail)
        go_wp2
        refine bodyPost_ret (v := .tuple #[(.slice A M.length cp), .agg #[.int .i64 k, .int .i64 s, .int .i64 v, .int .i64 i, .int .i64 t, .int .i64 u]]) (by simp [results, Try.results13, go_sem, p0, p1, p2, p3, p4, p5]) rfl ?_
        exact ⟨_, M, ⟨k, s, v, i, t, u⟩, rfl, hwf, H.out.1, H.out.2⟩
      · go_wp2_with fail
        refine (below_any w5 B a len cap z (M.length : Int) (by omega) (by omega) hc5).mono ?_
        rintro e w6 ⟨j, hj, rfl, ho6, hc6⟩
        have lf6 := lf5.call ho6
        have lr6 := lr5.call ho6
        have hown6 := hown5.only ho6 hlt
        clear lf5 lr5 hc5 hown5 ho6
        obtain ⟨y, hy⟩ : ∃ y, M[j]? = some y := ⟨_, List.getElem?_eq_getElem (by omega)⟩
        have hywf := hmw.out y (List.mem_of_getElem? hy)
        obtain ⟨k', s', v', i', t', u'⟩ := y
        obtain ⟨b, off, rfl, g1, g2, HAT⟩ := RowFact.at (OwnC.read hown6) hy
        obtain ⟨c0, c1, c2, c3, c4, c5⟩ := HAT _ _ g2 (Below.refl _ _)
        clear HAT
        have y0 := lf6.cell 0 rfl
        have y1 := lf6.cell 1 rfl
        have y2 := lf6.cell 2 rfl
        have y3 := lf6.cell 3 rfl
        have y4 := lf6.cell 4 rfl
        have y5 := lf6.cell 5 rfl
        have q0 := lf6.frozen 0
        have q1 := lf6.frozen 1
        have q2 := lf6.frozen 2
        have q3 := lf6.frozen 3
        have q4 := lf6.frozen 4
        have q5 := lf6.frozen 5
        go_upto_region 11 with fail
        obtain ⟨W8, hW8⟩ : ∃ W : World, W = ((((((w6.setCell ⟨F, 0, none⟩ (.int .i64 k')).setCell ⟨F, 1, none⟩ (.int .i64 s')).setCell ⟨F, 2, none⟩ (.int .i64 v')).setCell ⟨F, 3, none⟩ (.int .i64 i')).setCell ⟨F, 4, none⟩ (.int .i64 t')).setCell ⟨F, 5, none⟩ (.int .i64 u')) := ⟨_, rfl⟩
        rw [← hW8]
        have lf8 : Loc w B F 26 #[.int .i64 k', .int .i64 s', .int .i64 v', .int .i64 i', .int .i64 t', .int .i64 u'] W8 := by rw [hW8]; exact ((((((lf6.set 0 _).set 1 _).set 2 _).set 3 _).set 4 _).set 5 _)
        have lr8 : Loc w B w.heap.size 26 #[.int .i64 0, .int .i64 0, .int .i64 0, .int .i64 0, .int .i64 0, .int .i64 0] W8 := by rw [hW8]; exact ((((((lr6.setFar (Nat.le_of_lt hRF) hFR.symm 0 _).setFar (Nat.le_of_lt hRF) hFR.symm 1 _).setFar (Nat.le_of_lt hRF) hFR.symm 2 _).setFar (Nat.le_of_lt hRF) hFR.symm 3 _).setFar (Nat.le_of_lt hRF) hFR.symm 4 _).setFar (Nat.le_of_lt hRF) hFR.symm 5 _)
        have hc8 : Cur W8 B a len cap z := by rw [hW8]; exact ((((((hc6.setFar hBF 0 _).setFar hBF 1 _).setFar hBF 2 _).setFar hBF 3 _).setFar hBF 4 _).setFar hBF 5 _)
        have hown8 : OwnFact W8 w1.heap.size w3.heap.size (.slice (some ⟨b, off, none⟩) M.length cp) M := by rw [hW8]; exact ((((((hown6.setOther (.inr h2F) 0 _).setOther (.inr h2F) 1 _).setOther (.inr h2F) 2 _).setOther (.inr h2F) 3 _).setOther (.inr h2F) 4 _).setOther (.inr h2F) 5 _)
        clear hW8 lf6 lr6 hc6 hown6 c0 c1 c2 c3 c4 c5 y0 y1 y2 y3 y4 y5 q0 q1 q2 q3 q4 q5
        go_wp2_with fail
        refine (below_any W8 B a len cap z 30 (by decide) (by decide) hc8).mono ?_
        rintro e w7 ⟨d, hd, rfl, ho7, hc7⟩
        have lf7 := lf8.call ho7
        have lr7 := lr8.call ho7
        have hown7 := hown8.only ho7 hlt
        clear lf8 lr8 hc8 hown8 ho7
        have y4 := lf7.cell 4 rfl
        have q4 := lf7.frozen 4
        go_upto_region 12 with fail
        obtain ⟨WD, hWD⟩ : ∃ W : World, W = w7.setCell ⟨F, 4, none⟩ (.int .i64 (d : Int)) := ⟨_, rfl⟩
        rw [← hWD]
        have lfD : Loc w B F 26 #[.int .i64 k', .int .i64 s', .int .i64 v', .int .i64 i', .int .i64 (d : Int), .int .i64 u'] WD := by rw [hWD]; exact lf7.set 4 _
        have lrD : Loc w B w.heap.size 26 #[.int .i64 0, .int .i64 0, .int .i64 0, .int .i64 0, .int .i64 0, .int .i64 0] WD := by rw [hWD]; exact lr7.setFar (Nat.le_of_lt hRF) hFR.symm 4 _
        have hownD : OwnFact WD w1.heap.size w3.heap.size (.slice (some ⟨b, off, none⟩) M.length cp) M := by rw [hWD]; exact hown7.setOther (.inr h2F) 4 _
        clear hWD lf7 lr7 hc7 hown7 y4 q4
        obtain ⟨wk, ws, wv, wi, wt, wu⟩ := hywf
        have hywf2 : (⟨k', s', v', i', (d : Int), u'⟩ : FactD).wf := ⟨wk, ws, wv, wi, (show (Lit.int .i64 (d : Int)).wf = true from wf_i64 (by omega) (by omega)), wu⟩
        have p0 := lrD.cell 0 rfl
        have p1 := lrD.cell 1 rfl
        have p2 := lrD.cell 2 rfl
        have p3 := lrD.cell 3 rfl
        have p4 := lrD.cell 4 rfl
        have p5 := lrD.cell 5 rfl
        have g0 := lrD.frozen 0
        have g1 := lrD.frozen 1
        have g2 := lrD.frozen 2
        have g3 := lrD.frozen 3
        have g4 := lrD.frozen 4
        have g5 := lrD.frozen 5
        have hch := ((((((lfD.setFar (Nat.le_refl _) hFR 0 (.int .i64 k')).setFar (Nat.le_refl _) hFR 1 (.int .i64 s')).setFar (Nat.le_refl _) hFR 2 (.int .i64 v')).setFar (Nat.le_refl _) hFR 3 (.int .i64 i')).setFar (Nat.le_refl _) hFR 4 (.int .i64 (d : Int))).setFar (Nat.le_refl _) hFR 5 (.int .i64 u')).drew
        have hoc := (OwnC.read ((((((hownD.setOther hRlo 0 (.int .i64 k')).setOther hRlo 1 (.int .i64 s')).setOther hRlo 2 (.int .i64 v')).setOther hRlo 3 (.int .i64 i')).setOther hRlo 4 (.int .i64 (d : Int))).setOther hRlo 5 (.int .i64 u'))).drewN 1
        have H := Lib.hid (⟨⟨hml, hmw.out, hoc.more (Nat.le_trans h2F (Nat.le_of_lt hch.lt))⟩, ((((((lrD.set 0 (.int .i64 k')).set 1 (.int .i64 s')).set 2 (.int .i64 v')).set 3 (.int .i64 i')).set 4 (.int .i64 (d : Int))).set 5 (.int .i64 u')).drew.only.below (Nat.le_refl _) hBw⟩ : Stored ((((((WD.setCell ⟨w.heap.size, 0, none⟩ (.int .i64 k')).setCell ⟨w.heap.size, 1, none⟩ (.int .i64 s')).setCell ⟨w.heap.size, 2, none⟩ (.int .i64 v')).setCell ⟨w.heap.size, 3, none⟩ (.int .i64 i')).setCell ⟨w.heap.size, 4, none⟩ (.int .i64 (d : Int))).setCell ⟨w.heap.size, 5, none⟩ (.int .i64 u')).drew (.slice (some ⟨b, off, none⟩) M.length cp) M ∧ Below w.heap.size w ((((((WD.setCell ⟨w.heap.size, 0, none⟩ (.int .i64 k')).setCell ⟨w.heap.size, 1, none⟩ (.int .i64 s')).setCell ⟨w.heap.size, 2, none⟩ (.int .i64 v')).setCell ⟨w.heap.size, 3, none⟩ (.int .i64 i')).setCell ⟨w.heap.size, 4, none⟩ (.int .i64 (d : Int))).setCell ⟨w.heap.size, 5, none⟩ (.int .i64 u')).drew)
        obtain ⟨x0, x1, x2, x3, x4, x5⟩ := lfD.cells6
        clear hownD hoc
        go_region_held3 (fun w' => w'.cell? ⟨F, 0, none⟩ = some (.int .i64 k') ∧ w'.cell? ⟨F, 1, none⟩ = some (.int .i64 s') ∧ w'.cell? ⟨F, 2, none⟩ = some (.int .i64 v') ∧ w'.cell? ⟨F, 3, none⟩ = some (.int .i64 i') ∧ w'.cell? ⟨F, 4, none⟩ = some (.int .i64 (d : Int)) ∧ w'.cell? ⟨F, 5, none⟩ = some (.int .i64 u'))
          (first | with_reducible exact lfD.drew.cells6 | with_reducible exact hch.cells6)
          (fail)
        go_wp2
        refine bodyPost_ret (v := .tuple #[(.slice (some ⟨b, off, none⟩) M.length cp), .agg #[.int .i64 k', .int .i64 s', .int .i64 v', .int .i64 i', .int .i64 (d : Int), .int .i64 u']]) (by simp [results, Try.results13, go_sem, p0, p1, p2, p3, p4, p5]) rfl ?_
        exact ⟨_, M, ⟨k', s', v', i', (d : Int), u'⟩, rfl, hywf2, H.out.1, H.out.2⟩
    · have hl' : ¬ (0 : Int) < (M.length : Int) := by omega
      go_upto_region 12 with fail
      rw [← hW4]
      simp only [hF] at lf3 hBF hRF h2F ⊢
      clear hW4 hF hc9 ho9
      have hFR : F ≠ w.heap.size := by omega
      have p0 := lr4.cell 0 rfl
      have p1 := lr4.cell 1 rfl
      have p2 := lr4.cell 2 rfl
      have p3 := lr4.cell 3 rfl
      have p4 := lr4.cell 4 rfl
      have p5 := lr4.cell 5 rfl
      have g0 := lr4.frozen 0
      have g1 := lr4.frozen 1
      have g2 := lr4.frozen 2
      have g3 := lr4.frozen 3
      have g4 := lr4.frozen 4
      have g5 := lr4.frozen 5
      have hch := ((((((lf3.setFar (Nat.le_refl _) hFR 0 (.int .i64 k)).setFar (Nat.le_refl _) hFR 1 (.int .i64 s)).setFar (Nat.le_refl _) hFR 2 (.int .i64 v)).setFar (Nat.le_refl _) hFR 3 (.int .i64 i)).setFar (Nat.le_refl _) hFR 4 (.int .i64 t)).setFar (Nat.le_refl _) hFR 5 (.int .i64 u)).drew
      have hoc := (OwnC.read ((((((hown4.setOther hRlo 0 (.int .i64 k)).setOther hRlo 1 (.int .i64 s)).setOther hRlo 2 (.int .i64 v)).setOther hRlo 3 (.int .i64 i)).setOther hRlo 4 (.int .i64 t)).setOther hRlo 5 (.int .i64 u))).drewN 1
      have H := Lib.hid (⟨⟨hml, hmw.out, hoc.more (Nat.le_trans h2F (Nat.le_of_lt hch.lt))⟩, ((((((lr4.set 0 (.int .i64 k)).set 1 (.int .i64 s)).set 2 (.int .i64 v)).set 3 (.int .i64 i)).set 4 (.int .i64 t)).set 5 (.int .i64 u)).drew.only.below (Nat.le_refl _) hBw⟩ : Stored ((((((W4.setCell ⟨w.heap.size, 0, none⟩ (.int .i64 k)).setCell ⟨w.heap.size, 1, none⟩ (.int .i64 s)).setCell ⟨w.heap.size, 2, none⟩ (.int .i64 v)).setCell ⟨w.heap.size, 3, none⟩ (.int .i64 i)).setCell ⟨w.heap.size, 4, none⟩ (.int .i64 t)).setCell ⟨w.heap.size, 5, none⟩ (.int .i64 u)).drew (.slice A M.length cp) M ∧ Below w.heap.size w ((((((W4.setCell ⟨w.heap.size, 0, none⟩ (.int .i64 k)).setCell ⟨w.heap.size, 1, none⟩ (.int .i64 s)).setCell ⟨w.heap.size, 2, none⟩ (.int .i64 v)).setCell ⟨w.heap.size, 3, none⟩ (.int .i64 i)).setCell ⟨w.heap.size, 4, none⟩ (.int .i64 t)).setCell ⟨w.heap.size, 5, none⟩ (.int .i64 u)).drew)
      obtain ⟨x0, x1, x2, x3, x4, x5⟩ := lf3.cells6
      clear hown4 hoc
      go_region_held3 (fun w' => w'.cell? ⟨F, 0, none⟩ = some (.int .i64 k) ∧ w'.cell? ⟨F, 1, none⟩ = some (.int .i64 s) ∧ w'.cell? ⟨F, 2, none⟩ = some (.int .i64 v) ∧ w'.cell? ⟨F, 3, none⟩ = some (.int .i64 i) ∧ w'.cell? ⟨F, 4, none⟩ = some (.int .i64 t) ∧ w'.cell? ⟨F, 5, none⟩ = some (.int .i64 u))
        (first | with_reducible exact lf3.drew.cells6 | with_reducible exact hch.cells6)
        (fail)
      go_wp2
      refine bodyPost_ret (v := .tuple #[(.slice A M.length cp), .agg #[.int .i64 k, .int .i64 s, .int .i64 v, .int .i64 i, .int .i64 t, .int .i64 u]]) (by simp [results, Try.results13, go_sem, p0, p1, p2, p3, p4, p5]) rfl ?_
      exact ⟨_, M, ⟨k, s, v, i, t, u⟩, rfl, hwf, H.out.1, H.out.2⟩
  · go_wp2_with fail
    go_loopw [5, 6] (fun v i wr => ∃ (n : Nat) (M : List FactD), i = .int .i64 (n : Int) ∧ n ≤ 30 ∧ M.length ≤ 30 ∧ Hid (∀ x ∈ M, x.wf) ∧ OwnFact wr w1.heap.size wr.heap.size v M ∧ Loc w B w.heap.size 26 #[.int .i64 0, .int .i64 0, .int .i64 0, .int .i64 0, .int .i64 0, .int .i64 0] wr ∧ Cur wr B a len cap z ∧ w1.heap.size ≤ wr.heap.size) (fun _ i _ => 30 - (intOf i).toNat)
    case atStart => exact ⟨0, M, rfl, by omega, hml, hmw, hown3, hR3, hc3, hsz3⟩
    case round =>
      clear hml hmw hown3 hR3 hc3
      obtain ⟨n, M, rfl, hn, hml, hmw, hown, hR, hc, hsz⟩ := hrel
      obtain ⟨_, A, cp, rfl, _⟩ := id hown.read
      by_cases hp : n < 30
      · have hp' : (n : Int) < 30 := by omega
        have hdiv : (n : Int).tdiv 10 = ((n / 10 : Nat) : Int) := rfl
        have hmod : (n : Int).tmod 10 = ((n % 10 : Nat) : Int) := rfl
        have hd1 : n / 10 ≤ 2 := by omega
        have hd2 : n % 10 ≤ 9 := by omega
        generalize n / 10 = q1 at hdiv hd1
        generalize n % 10 = q2 at hmod hd2
        have HP := Lib.hid (spec_putFact wr wr.heap.size cp A M ⟨1, 10 + (q2 : Int), (q1 : Int), 9, 0, 5⟩ hown.read (Nat.le_refl _) (by omega))
        rw [FactD.val_mk] at HP
        have hwf2 := Lib.hid (putF_wf hmw.out (show (⟨1, 10 + (q2 : Int), (q1 : Int), 9, 0, 5⟩ : FactD).wf from FactD.wf_mk (by omega) (by omega) (by omega) (by omega) (by omega) (by omega)))
        have hl := putF_length M ⟨1, 10 + (q2 : Int), (q1 : Int), 9, 0, 5⟩ 30 hml (Nat.le_refl _)
        clear hown
        go_wp2_with fail
        refine HP.out.mono ?_
        rintro e w4 ⟨v', rfl, hown4, b4⟩
        have hloW : w1.heap.size ≤ wr.heap.size := hsz
        have HO4 := Lib.hid (hown4.wide hloW (Nat.le_refl _))
        have hR4 := hR.call (Below.only b4)
        have hc4 := hc.only b4
        have hsz4 : w1.heap.size ≤ w4.heap.size := Nat.le_trans hsz b4.size
        clear hown4 b4 HP hR hc
        generalize putF M ⟨1, 10 + (q2 : Int), (q1 : Int), 9, 0, 5⟩ = R at HO4 hwf2 hl
        go_wp2
        refine ⟨⟨n + 1, R.1, by go_num, by omega, hl, hwf2, HO4.out, hR4, hc4, hsz4⟩, by simp only [intOf]; omega⟩
      · obtain rfl : n = 30 := by omega
        have hRlo : w.heap.size < w1.heap.size ∨ wr.heap.size ≤ w.heap.size := .inl (by omega)
        go_wp2_with fail
        refine (anyFact_any wr B a len cap z hc).mono ?_
        rintro e w9 ⟨⟨k, s, v, i, t, u⟩, hwf, rfl, ho9, hc9⟩
        rw [FactD.val_mk]
        have lr9 := hR.call ho9
        have hown9 := hown.only ho9 hlt
        have lf3 : Loc w B w9.heap.size 26 #[.int .i64 k, .int .i64 s, .int .i64 v, .int .i64 i, .int .i64 t, .int .i64 u] (w9.alloc (.cells #[.int .i64 k, .int .i64 s, .int .i64 v, .int .i64 i, .int .i64 t, .int .i64 u] 26)) := Loc.mk_new lr9.only hc9.lt
        have lr4 := lr9.alloc (.cells #[.int .i64 k, .int .i64 s, .int .i64 v, .int .i64 i, .int .i64 t, .int .i64 u] 26)
        have hc4 := hc9.alloc (.cells #[.int .i64 k, .int .i64 s, .int .i64 v, .int .i64 i, .int .i64 t, .int .i64 u] 26)
        have hown4 := hown9.below (B := w9.heap.size) ((Below.refl w9.heap.size w9).alloc (Nat.le_refl _) (.cells #[.int .i64 k, .int .i64 s, .int .i64 v, .int .i64 i, .int .i64 t, .int .i64 u] 26)) ho9.size
        obtain ⟨W4, hW4⟩ : ∃ W : World, W = w9.alloc (.cells #[.int .i64 k, .int .i64 s, .int .i64 v, .int .i64 i, .int .i64 t, .int .i64 u] 26) := ⟨_, rfl⟩
        rw [← hW4] at lf3 lr4 hc4 hown4
        have hBF : B < w9.heap.size := hc9.lt
        have hRF : w.heap.size < w9.heap.size := lr9.lt
        have h2F : wr.heap.size ≤ w9.heap.size := ho9.size
        obtain ⟨F, hF⟩ : ∃ F, w9.heap.size = F := ⟨_, rfl⟩
        clear lr9 hown9 hR hown hc
        by_cases hl : 0 < M.length
        · have hl' : (0 : Int) < (M.length : Int) := by omega
          go_wp2_with fail
          rw [← hW4]
          simp only [hF] at lf3 hBF hRF h2F ⊢
          clear hW4 hF hc9 ho9
          have hFR : F ≠ w.heap.size := by omega
          refine (once_any W4 B a len cap z 3 (by decide) (by decide) hc4).mono ?_
          rintro e w5 ⟨q, rfl, ho5, hc5⟩
          have lf5 := lf3.call ho5
          have lr5 := lr4.call ho5
          have hown5 := hown4.only ho5 hlt
          clear lf3 lr4 hc4 hown4 ho5
          cases q
          · go_upto_region 12 with fail
            have p0 := lr5.cell 0 rfl
            have p1 := lr5.cell 1 rfl
            have p2 := lr5.cell 2 rfl
            have p3 := lr5.cell 3 rfl
            have p4 := lr5.cell 4 rfl
            have p5 := lr5.cell 5 rfl
            have g0 := lr5.frozen 0
            have g1 := lr5.frozen 1
            have g2 := lr5.frozen 2
            have g3 := lr5.frozen 3
            have g4 := lr5.frozen 4
            have g5 := lr5.frozen 5
            have hch := ((((((lf5.setFar (Nat.le_refl _) hFR 0 (.int .i64 k)).setFar (Nat.le_refl _) hFR 1 (.int .i64 s)).setFar (Nat.le_refl _) hFR 2 (.int .i64 v)).setFar (Nat.le_refl _) hFR 3 (.int .i64 i)).setFar (Nat.le_refl _) hFR 4 (.int .i64 t)).setFar (Nat.le_refl _) hFR 5 (.int .i64 u)).drew
            have hoc := (OwnC.read ((((((hown5.setOther hRlo 0 (.int .i64 k)).setOther hRlo 1 (.int .i64 s)).setOther hRlo 2 (.int .i64 v)).setOther hRlo 3 (.int .i64 i)).setOther hRlo 4 (.int .i64 t)).setOther hRlo 5 (.int .i64 u))).drewN 1
            have H := Lib.hid (⟨⟨hml, hmw.out, hoc.more (Nat.le_trans h2F (Nat.le_of_lt hch.lt))⟩, ((((((lr5.set 0 (.int .i64 k)).set 1 (.int .i64 s)).set 2 (.int .i64 v)).set 3 (.int .i64 i)).set 4 (.int .i64 t)).set 5 (.int .i64 u)).drew.only.below (Nat.le_refl _) hBw⟩ : Stored ((((((w5.setCell ⟨w.heap.size, 0, none⟩ (.int .i64 k)).setCell ⟨w.heap.size, 1, none⟩ (.int .i64 s)).setCell ⟨w.heap.size, 2, none⟩ (.int .i64 v)).setCell ⟨w.heap.size, 3, none⟩ (.int .i64 i)).setCell ⟨w.heap.size, 4, none⟩ (.int .i64 t)).setCell ⟨w.heap.size, 5, none⟩ (.int .i64 u)).drew (.slice A M.length cp) M ∧ Below w.heap.size w ((((((w5.setCell ⟨w.heap.size, 0, none⟩ (.int .i64 k)).setCell ⟨w.heap.size, 1, none⟩ (.int .i64 s)).setCell ⟨w.heap.size, 2, none⟩ (.int .i64 v)).setCell ⟨w.heap.size, 3, none⟩ (.int .i64 i)).setCell ⟨w.heap.size, 4, none⟩ (.int .i64 t)).setCell ⟨w.heap.size, 5, none⟩ (.int .i64 u)).drew)
            obtain ⟨x0, x1, x2, x3, x4, x5⟩ := lf5.cells6
            clear hown5 hoc
            go_region_held3 (fun w' => w'.cell? ⟨F, 0, none⟩ = some (.int .i64 k) ∧ w'.cell? ⟨F, 1, none⟩ = some (.int .i64 s) ∧ w'.cell? ⟨F, 2, none⟩ = some (.int .i64 v) ∧ w'.cell? ⟨F, 3, none⟩ = some (.int .i64 i) ∧ w'.cell? ⟨F, 4, none⟩ = some (.int .i64 t) ∧ w'.cell? ⟨F, 5, none⟩ = some (.int .i64 u))
              (first | with_reducible exact lf5.drew.cells6 | with_reducible exact hch.cells6)
              (fail)
            go_wp2
            refine bodyPost_ret (v := .tuple #[(.slice A M.length cp), .agg #[.int .i64 k, .int .i64 s, .int .i64 v, .int .i64 i, .int .i64 t, .int .i64 u]]) (by simp [results, Try.results13, go_sem, p0, p1, p2, p3, p4, p5]) rfl ?_
            exact ⟨_, M, ⟨k, s, v, i, t, u⟩, rfl, hwf, H.out.1, H.out.2⟩
          · go_wp2_with fail
            refine (below_any w5 B a len cap z (M.length : Int) (by omega) (by omega) hc5).mono ?_
            rintro e w6 ⟨j, hj, rfl, ho6, hc6⟩
            have lf6 := lf5.call ho6
            have lr6 := lr5.call ho6
            have hown6 := hown5.only ho6 hlt
            clear lf5 lr5 hc5 hown5 ho6
            obtain ⟨y, hy⟩ : ∃ y, M[j]? = some y := ⟨_, List.getElem?_eq_getElem (by omega)⟩
            have hywf := hmw.out y (List.mem_of_getElem? hy)
            obtain ⟨k', s', v', i', t', u'⟩ := y
            obtain ⟨b, off, rfl, g1, g2, HAT⟩ := RowFact.at (OwnC.read hown6) hy
            obtain ⟨c0, c1, c2, c3, c4, c5⟩ := HAT _ _ g2 (Below.refl _ _)
            clear HAT
            have y0 := lf6.cell 0 rfl
            have y1 := lf6.cell 1 rfl
            have y2 := lf6.cell 2 rfl
            have y3 := lf6.cell 3 rfl
            have y4 := lf6.cell 4 rfl
            have y5 := lf6.cell 5 rfl
            have q0 := lf6.frozen 0
            have q1 := lf6.frozen 1
            have q2 := lf6.frozen 2
            have q3 := lf6.frozen 3
            have q4 := lf6.frozen 4
            have q5 := lf6.frozen 5
            go_upto_region 11 with fail
            obtain ⟨W8, hW8⟩ : ∃ W : World, W = ((((((w6.setCell ⟨F, 0, none⟩ (.int .i64 k')).setCell ⟨F, 1, none⟩ (.int .i64 s')).setCell ⟨F, 2, none⟩ (.int .i64 v')).setCell ⟨F, 3, none⟩ (.int .i64 i')).setCell ⟨F, 4, none⟩ (.int .i64 t')).setCell ⟨F, 5, none⟩ (.int .i64 u')) := ⟨_, rfl⟩
            rw [← hW8]
            have lf8 : Loc w B F 26 #[.int .i64 k', .int .i64 s', .int .i64 v', .int .i64 i', .int .i64 t', .int .i64 u'] W8 := by rw [hW8]; exact ((((((lf6.set 0 _).set 1 _).set 2 _).set 3 _).set 4 _).set 5 _)
            have lr8 : Loc w B w.heap.size 26 #[.int .i64 0, .int .i64 0, .int .i64 0, .int .i64 0, .int .i64 0, .int .i64 0] W8 := by rw [hW8]; exact ((((((lr6.setFar (Nat.le_of_lt hRF) hFR.symm 0 _).setFar (Nat.le_of_lt hRF) hFR.symm 1 _).setFar (Nat.le_of_lt hRF) hFR.symm 2 _).setFar (Nat.le_of_lt hRF) hFR.symm 3 _).setFar (Nat.le_of_lt hRF) hFR.symm 4 _).setFar (Nat.le_of_lt hRF) hFR.symm 5 _)
            have hc8 : Cur W8 B a len cap z := by rw [hW8]; exact ((((((hc6.setFar hBF 0 _).setFar hBF 1 _).setFar hBF 2 _).setFar hBF 3 _).setFar hBF 4 _).setFar hBF 5 _)
            have hown8 : OwnFact W8 w1.heap.size wr.heap.size (.slice (some ⟨b, off, none⟩) M.length cp) M := by rw [hW8]; exact ((((((hown6.setOther (.inr h2F) 0 _).setOther (.inr h2F) 1 _).setOther (.inr h2F) 2 _).setOther (.inr h2F) 3 _).setOther (.inr h2F) 4 _).setOther (.inr h2F) 5 _)
            clear hW8 lf6 lr6 hc6 hown6 c0 c1 c2 c3 c4 c5 y0 y1 y2 y3 y4 y5 q0 q1 q2 q3 q4 q5
            go_wp2_with fail
            refine (below_any W8 B a len cap z 30 (by decide) (by decide) hc8).mono ?_
            rintro e w7 ⟨d, hd, rfl, ho7, hc7⟩
            have lf7 := lf8.call ho7
            have lr7 := lr8.call ho7
            have hown7 := hown8.only ho7 hlt
            clear lf8 lr8 hc8 hown8 ho7
            have y4 := lf7.cell 4 rfl
            have q4 := lf7.frozen 4
            go_upto_region 12 with fail
            obtain ⟨WD, hWD⟩ : ∃ W : World, W = w7.setCell ⟨F, 4, none⟩ (.int .i64 (d : Int)) := ⟨_, rfl⟩
            rw [← hWD]
            have lfD : Loc w B F 26 #[.int .i64 k', .int .i64 s', .int .i64 v', .int .i64 i', .int .i64 (d : Int), .int .i64 u'] WD := by rw [hWD]; exact lf7.set 4 _
            have lrD : Loc w B w.heap.size 26 #[.int .i64 0, .int .i64 0, .int .i64 0, .int .i64 0, .int .i64 0, .int .i64 0] WD := by rw [hWD]; exact lr7.setFar (Nat.le_of_lt hRF) hFR.symm 4 _
            have hownD : OwnFact WD w1.heap.size wr.heap.size (.slice (some ⟨b, off, none⟩) M.length cp) M := by rw [hWD]; exact hown7.setOther (.inr h2F) 4 _
            clear hWD lf7 lr7 hc7 hown7 y4 q4
            obtain ⟨wk, ws, wv, wi, wt, wu⟩ := hywf
            have hywf2 : (⟨k', s', v', i', (d : Int), u'⟩ : FactD).wf := ⟨wk, ws, wv, wi, (show (Lit.int .i64 (d : Int)).wf = true from wf_i64 (by omega) (by omega)), wu⟩
            have p0 := lrD.cell 0 rfl
            have p1 := lrD.cell 1 rfl
            have p2 := lrD.cell 2 rfl
            have p3 := lrD.cell 3 rfl
            have p4 := lrD.cell 4 rfl
            have p5 := lrD.cell 5 rfl
            have g0 := lrD.frozen 0
            have g1 := lrD.frozen 1
            have g2 := lrD.frozen 2
            have g3 := lrD.frozen 3
            have g4 := lrD.frozen 4
            have g5 := lrD.frozen 5
            have hch := ((((((lfD.setFar (Nat.le_refl _) hFR 0 (.int .i64 k')).setFar (Nat.le_refl _) hFR 1 (.int .i64 s')).setFar (Nat.le_refl _) hFR 2 (.int .i64 v')).setFar (Nat.le_refl _) hFR 3 (.int .i64 i')).setFar (Nat.le_refl _) hFR 4 (.int .i64 (d : Int))).setFar (Nat.le_refl _) hFR 5 (.int .i64 u')).drew
            have hoc := (OwnC.read ((((((hownD.setOther hRlo 0 (.int .i64 k')).setOther hRlo 1 (.int .i64 s')).setOther hRlo 2 (.int .i64 v')).setOther hRlo 3 (.int .i64 i')).setOther hRlo 4 (.int .i64 (d : Int))).setOther hRlo 5 (.int .i64 u'))).drewN 1
            have H := Lib.hid (⟨⟨hml, hmw.out, hoc.more (Nat.le_trans h2F (Nat.le_of_lt hch.lt))⟩, ((((((lrD.set 0 (.int .i64 k')).set 1 (.int .i64 s')).set 2 (.int .i64 v')).set 3 (.int .i64 i')).set 4 (.int .i64 (d : Int))).set 5 (.int .i64 u')).drew.only.below (Nat.le_refl _) hBw⟩ : Stored ((((((WD.setCell ⟨w.heap.size, 0, none⟩ (.int .i64 k')).setCell ⟨w.heap.size, 1, none⟩ (.int .i64 s')).setCell ⟨w.heap.size, 2, none⟩ (.int .i64 v')).setCell ⟨w.heap.size, 3, none⟩ (.int .i64 i')).setCell ⟨w.heap.size, 4, none⟩ (.int .i64 (d : Int))).setCell ⟨w.heap.size, 5, none⟩ (.int .i64 u')).drew (.slice (some ⟨b, off, none⟩) M.length cp) M ∧ Below w.heap.size w ((((((WD.setCell ⟨w.heap.size, 0, none⟩ (.int .i64 k')).setCell ⟨w.heap.size, 1, none⟩ (.int .i64 s')).setCell ⟨w.heap.size, 2, none⟩ (.int .i64 v')).setCell ⟨w.heap.size, 3, none⟩ (.int .i64 i')).setCell ⟨w.heap.size, 4, none⟩ (.int .i64 (d : Int))).setCell ⟨w.heap.size, 5, none⟩ (.int .i64 u')).drew)
            obtain ⟨x0, x1, x2, x3, x4, x5⟩ := lfD.cells6
            clear hownD hoc
            go_region_held3 (fun w' => w'.cell? ⟨F, 0, none⟩ = some (.int .i64 k') ∧ w'.cell? ⟨F, 1, none⟩ = some (.int .i64 s') ∧ w'.cell? ⟨F, 2, none⟩ = some (.int .i64 v') ∧ w'.cell? ⟨F, 3, none⟩ = some (.int .i64 i') ∧ w'.cell? ⟨F, 4, none⟩ = some (.int .i64 (d : Int)) ∧ w'.cell? ⟨F, 5, none⟩ = some (.int .i64 u'))
              (first | with_reducible exact lfD.drew.cells6 | with_reducible exact hch.cells6)
              (fail)
            go_wp2
            refine bodyPost_ret (v := .tuple #[(.slice (some ⟨b, off, none⟩) M.length cp), .agg #[.int .i64 k', .int .i64 s', .int .i64 v', .int .i64 i', .int .i64 (d : Int), .int .i64 u']]) (by simp [results, Try.results13, go_sem, p0, p1, p2, p3, p4, p5]) rfl ?_
            exact ⟨_, M, ⟨k', s', v', i', (d : Int), u'⟩, rfl, hywf2, H.out.1, H.out.2⟩
        · have hl' : ¬ (0 : Int) < (M.length : Int) := by omega
          go_upto_region 12 with fail
          rw [← hW4]
          simp only [hF] at lf3 hBF hRF h2F ⊢
          clear hW4 hF hc9 ho9
          have hFR : F ≠ w.heap.size := by omega
          have p0 := lr4.cell 0 rfl
          have p1 := lr4.cell 1 rfl
          have p2 := lr4.cell 2 rfl
          have p3 := lr4.cell 3 rfl
          have p4 := lr4.cell 4 rfl
          have p5 := lr4.cell 5 rfl
          have g0 := lr4.frozen 0
          have g1 := lr4.frozen 1
          have g2 := lr4.frozen 2
          have g3 := lr4.frozen 3
          have g4 := lr4.frozen 4
          have g5 := lr4.frozen 5
          have hch := ((((((lf3.setFar (Nat.le_refl _) hFR 0 (.int .i64 k)).setFar (Nat.le_refl _) hFR 1 (.int .i64 s)).setFar (Nat.le_refl _) hFR 2 (.int .i64 v)).setFar (Nat.le_refl _) hFR 3 (.int .i64 i)).setFar (Nat.le_refl _) hFR 4 (.int .i64 t)).setFar (Nat.le_refl _) hFR 5 (.int .i64 u)).drew
          have hoc := (OwnC.read ((((((hown4.setOther hRlo 0 (.int .i64 k)).setOther hRlo 1 (.int .i64 s)).setOther hRlo 2 (.int .i64 v)).setOther hRlo 3 (.int .i64 i)).setOther hRlo 4 (.int .i64 t)).setOther hRlo 5 (.int .i64 u))).drewN 1
          have H := Lib.hid (⟨⟨hml, hmw.out, hoc.more (Nat.le_trans h2F (Nat.le_of_lt hch.lt))⟩, ((((((lr4.set 0 (.int .i64 k)).set 1 (.int .i64 s)).set 2 (.int .i64 v)).set 3 (.int .i64 i)).set 4 (.int .i64 t)).set 5 (.int .i64 u)).drew.only.below (Nat.le_refl _) hBw⟩ : Stored ((((((W4.setCell ⟨w.heap.size, 0, none⟩ (.int .i64 k)).setCell ⟨w.heap.size, 1, none⟩ (.int .i64 s)).setCell ⟨w.heap.size, 2, none⟩ (.int .i64 v)).setCell ⟨w.heap.size, 3, none⟩ (.int .i64 i)).setCell ⟨w.heap.size, 4, none⟩ (.int .i64 t)).setCell ⟨w.heap.size, 5, none⟩ (.int .i64 u)).drew (.slice A M.length cp) M ∧ Below w.heap.size w ((((((W4.setCell ⟨w.heap.size, 0, none⟩ (.int .i64 k)).setCell ⟨w.heap.size, 1, none⟩ (.int .i64 s)).setCell ⟨w.heap.size, 2, none⟩ (.int .i64 v)).setCell ⟨w.heap.size, 3, none⟩ (.int .i64 i)).setCell ⟨w.heap.size, 4, none⟩ (.int .i64 t)).setCell ⟨w.heap.size, 5, none⟩ (.int .i64 u)).drew)
          obtain ⟨x0, x1, x2, x3, x4, x5⟩ := lf3.cells6
          clear hown4 hoc
          go_region_held3 (fun w' => w'.cell? ⟨F, 0, none⟩ = some (.int .i64 k) ∧ w'.cell? ⟨F, 1, none⟩ = some (.int .i64 s) ∧ w'.cell? ⟨F, 2, none⟩ = some (.int .i64 v) ∧ w'.cell? ⟨F, 3, none⟩ = some (.int .i64 i) ∧ w'.cell? ⟨F, 4, none⟩ = some (.int .i64 t) ∧ w'.cell? ⟨F, 5, none⟩ = some (.int .i64 u))
            (first | with_reducible exact lf3.drew.cells6 | with_reducible exact hch.cells6)
            (fail)
          go_wp2
          refine bodyPost_ret (v := .tuple #[(.slice A M.length cp), .agg #[.int .i64 k, .int .i64 s, .int .i64 v, .int .i64 i, .int .i64 t, .int .i64 u]]) (by simp [results, Try.results13, go_sem, p0, p1, p2, p3, p4, p5]) rfl ?_
          exact ⟨_, M, ⟨k, s, v, i, t, u⟩, rfl, hwf, H.out.1, H.out.2⟩
end Go.Proofs.Ytjfmmingkciapaa
