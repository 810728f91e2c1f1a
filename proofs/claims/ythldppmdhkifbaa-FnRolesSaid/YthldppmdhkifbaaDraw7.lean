/- The draws of chapter 7's inputs: stores of facts. -/
import Derived.Test.YthldppmdhkifbaaDraw6b
import Derived.Test.YthldppmdhkifbaaStoreM
namespace Go.Proofs.Ythldppmdhkifbaa
open Go.ChangeShapes Go.WideShapes Go.ChangeAt Go.RowKit
set_option linter.unusedVariables false

theorem OwnC.only {E : TypeId} {s B lo hi m : Nat} {w w' : World} {v : Value} {cs : List Value} (h : OwnC E s w lo hi v m cs) (ho : Only B w w') (hB : B < lo) : OwnC E s w' lo hi v m cs :=
  h.keep fun k h1 _ h3 => ho.block k h3 (by omega)
theorem putF_wf {xs : List FactD} {f : FactD} (hx : ∀ x ∈ xs, x.wf) (hf : f.wf) : ∀ x ∈ (putF xs f).1, x.wf := by
  rcases putF_cases xs f with ⟨h1, _⟩ | ⟨h1, _⟩
  · rw [h1]
    intro x h
    rcases mem_ins h with rfl | h
    · exact hf
    · exact hx x h
  · rw [h1]; exact hx
/-- A store that was drawn: the call's own, of no more than 30 facts. -/
def Drawn (w w' : World) (u : Value) (xs : List FactD) : Prop := xs.length ≤ 30 ∧ (∀ x ∈ xs, x.wf) ∧ OwnFact w' w.heap.size w'.heap.size u xs
set_option maxHeartbeats 4000000 in
theorem store_any (w : World) (B : Nat) (a : Option Addr) (len cap : Nat) (z : List Int) (hc : Cur w B a len cap z) :
    Calls Try.prog 60 #[.pointer (some ⟨B, 0, none⟩)] w fun e w' => ∃ u xs, e = .returned u ∧ Drawn w w' u xs ∧ Only B w w' ∧ Cur w' B a len cap z := by
  have hE := OwnC.empty 57 6 w
  have hBw := hc.lt
  have hc0 := hc.alloc (.cells #[] 57)
  have ho0 := (Only.refl B w).alloc (.cells #[] 57)
  clear hc
  go_enter Try.func60, Try.ntmps60
  go_wp2_with fail
  refine (below_any _ B a len cap z 10 (by decide) (by decide) hc0).mono ?_
  rintro e w1 ⟨n, hn, rfl, ho1, hc1⟩
  have hE1 := (hE.only ho1 hBw).wide (hi' := w1.heap.size) (Nat.le_refl _) (by have := ho1.size; rw [size_alloc] at this; exact this)
  have ho1 := ho0.trans ho1
  clear hE hc0 ho0
  go_wp2
  go_loopw [3, 4] (fun v i wr => ∃ (n : Nat) (M : List FactD), i = .int .i64 (n : Int) ∧ n ≤ 10 ∧ M.length ≤ 30 ∧ Hid (∀ x ∈ M, x.wf) ∧ OwnFact wr w.heap.size wr.heap.size v M ∧ Only B w wr ∧ Cur wr B a len cap z) (fun _ i _ => (intOf i).toNat)
  case atStart => exact ⟨n, [], rfl, by omega, by simp, Lib.hid (fun x hx => by cases hx), by show OwnC _ 6 _ _ _ _ 0 []; exact hE1, ho1, hc1⟩
  case round =>
    obtain ⟨n, M, rfl, hn, hm, hwf, hown, ho, hcr⟩ := hrel
    clear hE1 ho1 hc1
    by_cases hp : 0 < n
    · have hp' : (0 : Int) < (n : Int) := by omega
      go_wp2_with fail
      refine (fact_any wr B a len cap z hcr).mono ?_
      rintro e w2 ⟨x, hx, rfl, ho2, hc2⟩
      have hown2 := (hown.only ho2 hBw).wide (Nat.le_refl _) ho2.size
      have ho2 := ho.trans ho2
      have hr := hown2.read
      obtain ⟨_, A, cp, rfl, _⟩ := id hr
      have HP := Lib.hid (spec_putFact w2 w2.heap.size cp A M x hr (Nat.le_refl _) (by omega))
      clear hr hown hown2 ho hcr
      go_wp2_with fail
      refine HP.out.mono ?_
      rintro e u2 ⟨v', rfl, hown3, b2⟩
      have HO2 := Lib.hid hown3
      have ho3 := ho2.trans (Below.only b2)
      have hc3 := hc2.only b2
      have HS := ho2.size
      have hwf2 := Lib.hid (putF_wf hwf.out hx)
      have hl := putF_length M x 30 hm (Nat.le_refl _)
      clear hown3 ho2 hc2 b2 HP
      generalize putF M x = R at HO2 hwf2 hl
      go_wp2
      refine ⟨⟨n - 1, R.1, by go_num, by omega, hl, hwf2, HO2.out.wide HS (Nat.le_refl _), ho3, hc3⟩, by simp only [intOf]; omega⟩
    · obtain rfl : n = 0 := by omega
      go_wp2
      go_ret
      exact ⟨_, M, rfl, ⟨hm, hwf.out, hown⟩, ho, hcr⟩
/-- A store that a law has drawn, as it may be read. -/
def Stored (w : World) (u : Value) (xs : List FactD) : Prop := xs.length ≤ 30 ∧ (∀ x ∈ xs, x.wf) ∧ RowFact w w.heap.size u xs
theorem Stored.below {w w' : World} {u : Value} {xs : List FactD} (h : Stored w u xs) (hb : Below w.heap.size w w') : Stored w' u xs :=
  ⟨h.1, h.2.1, (h.2.2.below hb (Nat.le_refl _)).more hb.size⟩
theorem Drawn.stored {w w1 w2 : World} {B : Nat} {u : Value} {xs : List FactD} (h : Drawn w w1 u xs) (ho : Only B w1 w2) (hB : B < w.heap.size) : Stored w2 u xs :=
  ⟨h.1, h.2.1, ((h.2.2.only ho hB).read).more ho.size⟩
theorem draw_dropPast (w : World) (a : Option Addr) (len cap : Nat) (z : List Int) (hr : IsRow .u8 w a len cap z) :
    Calls Try.prog 39 #[.slice a len cap] w fun e w' => ∃ u xs now, -9223372036854775808 ≤ now ∧ now ≤ 9223372036854775807 ∧ e = .returned (.tuple #[u, .int .i64 now]) ∧ Stored w' u xs ∧ Below w.heap.size w w' := by
  go_enter Try.func39, Try.ntmps39
  go_wp2_with fail
  refine (new_any w a len cap z hr).mono ?_
  rintro e w1 ⟨B, rfl, hB, hb1, hc1⟩
  go_wp2_with fail
  refine (store_any w1 B a len cap z hc1).mono ?_
  rintro e w2 ⟨u, xs, rfl, hd, ho2, hc2⟩
  have hlt := hc1.lt
  go_wp2_with fail
  refine (time_any w2 B a len cap z hc2).mono ?_
  rintro e w3 ⟨now, n0, n1, rfl, ho3, hc3⟩
  have H := Lib.hid (⟨hd.stored ho3 hlt, hb1.trans ((ho2.trans ho3).below hb1.size hB)⟩ : Stored w3 u xs ∧ Below w.heap.size w w3)
  clear hd ho2 ho3 hc1 hc2 hc3 hb1
  go_wp2
  go_ret2
  exact ⟨u, xs, now, n0, n1, rfl, H.out⟩
set_option maxHeartbeats 8000000 in
theorem draw_findFact (w : World) (a : Option Addr) (len cap : Nat) (z : List Int) (hr : IsRow .u8 w a len cap z) :
    Calls Try.prog 35 #[.slice a len cap] w fun e w' => ∃ u xs k s v now age, e = .returned (.tuple #[u, .int .i64 k, .int .i64 s, .int .i64 v, .int .i64 now, .int .i64 age]) ∧ Stored w' u xs ∧ Below w.heap.size w w' := by
  go_enter Try.func35, Try.ntmps35
  go_wp2_with fail
  refine (new_any w a len cap z hr).mono ?_
  rintro e w1 ⟨B, rfl, hB, hb1, hc1⟩
  go_wp2_with fail
  refine (store_any w1 B a len cap z hc1).mono ?_
  rintro e w2 ⟨U, xs, rfl, hd, ho2, hc2⟩
  have hlt := hc1.lt
  obtain ⟨_, A, cp, rfl, _⟩ := id hd.2.2.read
  have hxl := hd.1
  go_wp2_with fail
  refine (fact_any w2 B a len cap z hc2).mono ?_
  rintro e w3 ⟨⟨k, s, v, i, t, u⟩, hwf, rfl, ho3, hc3⟩
  rw [FactD.val_mk]
  clear hc1 hc2 hr
  have hF := w3.heap.size
  have lf3 : Loc w2 B w3.heap.size 57 #[.int .i64 k, .int .i64 s, .int .i64 v, .int .i64 i, .int .i64 t, .int .i64 u] (w3.alloc (.cells #[.int .i64 k, .int .i64 s, .int .i64 v, .int .i64 i, .int .i64 t, .int .i64 u] 57)) := Loc.mk_new ho3 hc3.lt
  have ho4 := ho3.alloc (.cells #[.int .i64 k, .int .i64 s, .int .i64 v, .int .i64 i, .int .i64 t, .int .i64 u] 57)
  have hc4 := hc3.alloc (.cells #[.int .i64 k, .int .i64 s, .int .i64 v, .int .i64 i, .int .i64 t, .int .i64 u] 57)
  obtain ⟨W4, hW4⟩ : ∃ W : World, W = w3.alloc (.cells #[.int .i64 k, .int .i64 s, .int .i64 v, .int .i64 i, .int .i64 t, .int .i64 u] 57) := ⟨_, rfl⟩
  rw [← hW4] at lf3 ho4 hc4
  have hBF : B < w3.heap.size := hc3.lt
  have h2F : w2.heap.size ≤ w3.heap.size := ho3.size
  obtain ⟨F, hF⟩ : ∃ F, w3.heap.size = F := ⟨_, rfl⟩
  by_cases hl : 0 < xs.length
  · have hl' : (0 : Int) < (xs.length : Int) := by omega
    go_wp2_with fail
    rw [← hW4]
    simp only [hF] at lf3 hBF h2F ⊢
    clear hW4 hF hc3 ho3
    refine (once_any W4 B a len cap z 3 (by decide) (by decide) hc4).mono ?_
    rintro e w5 ⟨q, rfl, ho5, hc5⟩
    have lf5 := lf3.call ho5
    have ho5 := ho4.trans ho5
    clear lf3 ho4 hc4
    cases q
    · go_wp2_with fail
      refine (below_any w5 B a len cap z (xs.length : Int) (by omega) (by omega) hc5).mono ?_
      rintro e w6 ⟨j, hj, rfl, ho6, hc6⟩
      have lf6 := lf5.call ho6
      have ho6 := ho5.trans ho6
      clear lf5 ho5 hc5
      obtain ⟨y, hy⟩ : ∃ y, xs[j]? = some y := ⟨_, List.getElem?_eq_getElem (by omega)⟩
      have hywf := hd.2.1 y (List.mem_of_getElem? hy)
      obtain ⟨k', s', v', i', t', u'⟩ := y
      obtain ⟨b, off, rfl, g1, g2, HC⟩ := RowFact.at (OwnC.read (hd.2.2.only ho6 hlt)) hy
      obtain ⟨c0, c1, c2, c3, c4, c5⟩ := HC _ _ g2 (Below.refl _ _)
      clear HC
      have y0 := lf6.cell 0 rfl
      have y1 := lf6.cell 1 rfl
      have y2 := lf6.cell 2 rfl
      have y3 := lf6.cell 3 rfl
      have y4 := lf6.cell 4 rfl
      have y5 := lf6.cell 5 rfl
      have q0 := lf6.frozen 0
      have q1 := lf6.frozen 1
      have q2 := lf6.frozen 2
      have q3 := lf6.frozen 3
      have q4 := lf6.frozen 4
      have q5 := lf6.frozen 5
      go_upto_region 6 with fail
      obtain ⟨W8, hW8⟩ : ∃ W : World, W = ((((((w6.setCell ⟨F, 0, none⟩ (.int .i64 k')).setCell ⟨F, 1, none⟩ (.int .i64 s')).setCell ⟨F, 2, none⟩ (.int .i64 v')).setCell ⟨F, 3, none⟩ (.int .i64 i')).setCell ⟨F, 4, none⟩ (.int .i64 t')).setCell ⟨F, 5, none⟩ (.int .i64 u')) := ⟨_, rfl⟩
      rw [← hW8]
      have lf8 : Loc w2 B F 57 #[.int .i64 k', .int .i64 s', .int .i64 v', .int .i64 i', .int .i64 t', .int .i64 u'] W8 := by rw [hW8]; exact ((((((lf6.set 0 _).set 1 _).set 2 _).set 3 _).set 4 _).set 5 _)
      have hcW : Cur W8 B a len cap z := by rw [hW8]; exact ((((((hc6.setFar hBF 0 _).setFar hBF 1 _).setFar hBF 2 _).setFar hBF 3 _).setFar hBF 4 _).setFar hBF 5 _)
      clear hW8 lf6 hc6 c0 c1 c2 c3 c4 c5 y0 y1 y2 y3 y4 y5 q0 q1 q2 q3 q4 q5 ho6
      have ld := lf8.drew
      have hcd : Cur W8.drew B a len cap z := hcW.drewN 1
      go_upto_region 6 with fail
      go_region_held3 (fun w' => w'.cell? ⟨F, 4, none⟩ = some (.int .i64 t'))
        (first | exact ld.cell 4 rfl | exact l8.cell 4 rfl)
        (first
          | (go_at_call 63; (with_reducible refine (below_any _ B a len cap z 8 (by decide) (by decide) hcd).mono ?_); rintro e8 w8 ⟨g, hg, rfl, ho8, hc8⟩; have l8 := ld.call ho8; obtain ⟨now, hnow⟩ : ∃ q, IntKind.i64.wrap (t' + (g : Int)) = q := ⟨_, rfl⟩))
      have hN : -9223372036854775808 ≤ now ∧ now ≤ 9223372036854775807 := by rw [← hnow, IntKind.wrap_i64]; omega
      have l9 := (l8.alloc (.cells #[.int .i64 0, .int .i64 3, .int .i64 20, .int .i64 (-1)] 3)).drew
      have hc9 : Cur (w8.alloc (.cells #[.int .i64 0, .int .i64 3, .int .i64 20, .int .i64 (-1)] 3)).drew B a len cap z := (hc8.alloc _).drewN 1
      have HI : Ints (w8.alloc (.cells #[.int .i64 0, .int .i64 3, .int .i64 20, .int .i64 (-1)] 3)).drew B ⟨w8.heap.size, 0, none⟩ 4 := ints_lit w8.drew B hc8.lt 3 [.int .i64 0, .int .i64 3, .int .i64 20, .int .i64 (-1)] 4 (by decide)
      have l8d := l8.drew
      have HO := Lib.hid ((lf8.only.drew.trans ho8).alloc (.cells #[.int .i64 0, .int .i64 3, .int .i64 20, .int .i64 (-1)] 3)).drew
      clear ld hcd lf8 hcW l8 hc8 ho8
      go_upto_region 7 with fail
      go_region_held3 (fun w' => w'.cell? ⟨F, 0, none⟩ = some (.int .i64 k') ∧ w'.cell? ⟨F, 1, none⟩ = some (.int .i64 s') ∧ w'.cell? ⟨F, 2, none⟩ = some (.int .i64 v'))
        (first | exact ⟨l8d.cell 0 rfl, l8d.cell 1 rfl, l8d.cell 2 rfl⟩ | exact ⟨l9.cell 0 rfl, l9.cell 1 rfl, l9.cell 2 rfl⟩ | exact ⟨l10.cell 0 rfl, l10.cell 1 rfl, l10.cell 2 rfl⟩)
        (first
          | (go_at_call 64; (with_reducible refine (int_any _ B a len cap z _ 4 _ (by decide) (by decide) HI hc9).mono ?_); rintro e10 w10 ⟨age, a0, a1, rfl, ho10, hc10⟩; have l10 := l9.call ho10))
      have H := Lib.hid (⟨hd.stored (HO.out.trans ho10) hlt, hb1.trans ((ho2.trans (HO.out.trans ho10)).below hb1.size hB)⟩ : Stored w10 (.slice (some ⟨b, off, none⟩) xs.length cp) xs ∧ Below w.heap.size w w10)
      clear l8d l9 l10 hc9 HI ho10 hc10 HO
      go_wp2
      refine bodyPost_ret (v := .tuple #[.slice (some ⟨b, off, none⟩) xs.length cp, .int .i64 k', .int .i64 s', .int .i64 v', .int .i64 now, .int .i64 age]) (by simp [results, Try.results35, go_sem]) rfl ?_
      exact ⟨_, xs, k', s', v', now, age, rfl, H.out.1, H.out.2⟩
    · skip
      have ld := lf5.drew
      have hcd : Cur w5.drew B a len cap z := hc5.drewN 1
      go_upto_region 6 with fail
      go_region_held3 (fun w' => w'.cell? ⟨F, 4, none⟩ = some (.int .i64 t))
        (first | exact ld.cell 4 rfl | exact l8.cell 4 rfl)
        (first
          | (go_at_call 63; (with_reducible refine (below_any _ B a len cap z 8 (by decide) (by decide) hcd).mono ?_); rintro e8 w8 ⟨g, hg, rfl, ho8, hc8⟩; have l8 := ld.call ho8; obtain ⟨now, hnow⟩ : ∃ q, IntKind.i64.wrap (t + (g : Int)) = q := ⟨_, rfl⟩))
      have hN : -9223372036854775808 ≤ now ∧ now ≤ 9223372036854775807 := by rw [← hnow, IntKind.wrap_i64]; omega
      have l9 := (l8.alloc (.cells #[.int .i64 0, .int .i64 3, .int .i64 20, .int .i64 (-1)] 3)).drew
      have hc9 : Cur (w8.alloc (.cells #[.int .i64 0, .int .i64 3, .int .i64 20, .int .i64 (-1)] 3)).drew B a len cap z := (hc8.alloc _).drewN 1
      have HI : Ints (w8.alloc (.cells #[.int .i64 0, .int .i64 3, .int .i64 20, .int .i64 (-1)] 3)).drew B ⟨w8.heap.size, 0, none⟩ 4 := ints_lit w8.drew B hc8.lt 3 [.int .i64 0, .int .i64 3, .int .i64 20, .int .i64 (-1)] 4 (by decide)
      have l8d := l8.drew
      have HO := Lib.hid ((lf5.only.drew.trans ho8).alloc (.cells #[.int .i64 0, .int .i64 3, .int .i64 20, .int .i64 (-1)] 3)).drew
      clear ld hcd lf5 hc5 l8 hc8 ho8
      go_upto_region 7 with fail
      go_region_held3 (fun w' => w'.cell? ⟨F, 0, none⟩ = some (.int .i64 k) ∧ w'.cell? ⟨F, 1, none⟩ = some (.int .i64 s) ∧ w'.cell? ⟨F, 2, none⟩ = some (.int .i64 v))
        (first | exact ⟨l8d.cell 0 rfl, l8d.cell 1 rfl, l8d.cell 2 rfl⟩ | exact ⟨l9.cell 0 rfl, l9.cell 1 rfl, l9.cell 2 rfl⟩ | exact ⟨l10.cell 0 rfl, l10.cell 1 rfl, l10.cell 2 rfl⟩)
        (first
          | (go_at_call 64; (with_reducible refine (int_any _ B a len cap z _ 4 _ (by decide) (by decide) HI hc9).mono ?_); rintro e10 w10 ⟨age, a0, a1, rfl, ho10, hc10⟩; have l10 := l9.call ho10))
      have H := Lib.hid (⟨hd.stored (HO.out.trans ho10) hlt, hb1.trans ((ho2.trans (HO.out.trans ho10)).below hb1.size hB)⟩ : Stored w10 (.slice A xs.length cp) xs ∧ Below w.heap.size w w10)
      clear l8d l9 l10 hc9 HI ho10 hc10 HO
      go_wp2
      refine bodyPost_ret (v := .tuple #[.slice A xs.length cp, .int .i64 k, .int .i64 s, .int .i64 v, .int .i64 now, .int .i64 age]) (by simp [results, Try.results35, go_sem]) rfl ?_
      exact ⟨_, xs, k, s, v, now, age, rfl, H.out.1, H.out.2⟩
  · have hl' : ¬ (0 : Int) < (xs.length : Int) := by omega
    go_upto_region 6 with fail
    rw [← hW4]
    simp only [hF] at lf3 hBF h2F ⊢
    clear hW4 hF hc3 ho3
    have ld := lf3.drew
    have hcd : Cur W4.drew B a len cap z := hc4.drewN 1
    go_upto_region 6 with fail
    go_region_held3 (fun w' => w'.cell? ⟨F, 4, none⟩ = some (.int .i64 t))
      (first | exact ld.cell 4 rfl | exact l8.cell 4 rfl)
      (first
        | (go_at_call 63; (with_reducible refine (below_any _ B a len cap z 8 (by decide) (by decide) hcd).mono ?_); rintro e8 w8 ⟨g, hg, rfl, ho8, hc8⟩; have l8 := ld.call ho8; obtain ⟨now, hnow⟩ : ∃ q, IntKind.i64.wrap (t + (g : Int)) = q := ⟨_, rfl⟩))
    have hN : -9223372036854775808 ≤ now ∧ now ≤ 9223372036854775807 := by rw [← hnow, IntKind.wrap_i64]; omega
    have l9 := (l8.alloc (.cells #[.int .i64 0, .int .i64 3, .int .i64 20, .int .i64 (-1)] 3)).drew
    have hc9 : Cur (w8.alloc (.cells #[.int .i64 0, .int .i64 3, .int .i64 20, .int .i64 (-1)] 3)).drew B a len cap z := (hc8.alloc _).drewN 1
    have HI : Ints (w8.alloc (.cells #[.int .i64 0, .int .i64 3, .int .i64 20, .int .i64 (-1)] 3)).drew B ⟨w8.heap.size, 0, none⟩ 4 := ints_lit w8.drew B hc8.lt 3 [.int .i64 0, .int .i64 3, .int .i64 20, .int .i64 (-1)] 4 (by decide)
    have l8d := l8.drew
    have HO := Lib.hid ((lf3.only.drew.trans ho8).alloc (.cells #[.int .i64 0, .int .i64 3, .int .i64 20, .int .i64 (-1)] 3)).drew
    clear ld hcd lf3 hc4 l8 hc8 ho8
    go_upto_region 7 with fail
    go_region_held3 (fun w' => w'.cell? ⟨F, 0, none⟩ = some (.int .i64 k) ∧ w'.cell? ⟨F, 1, none⟩ = some (.int .i64 s) ∧ w'.cell? ⟨F, 2, none⟩ = some (.int .i64 v))
      (first | exact ⟨l8d.cell 0 rfl, l8d.cell 1 rfl, l8d.cell 2 rfl⟩ | exact ⟨l9.cell 0 rfl, l9.cell 1 rfl, l9.cell 2 rfl⟩ | exact ⟨l10.cell 0 rfl, l10.cell 1 rfl, l10.cell 2 rfl⟩)
      (first
        | (go_at_call 64; (with_reducible refine (int_any _ B a len cap z _ 4 _ (by decide) (by decide) HI hc9).mono ?_); rintro e10 w10 ⟨age, a0, a1, rfl, ho10, hc10⟩; have l10 := l9.call ho10))
    have H := Lib.hid (⟨hd.stored (HO.out.trans ho10) hlt, hb1.trans ((ho2.trans (HO.out.trans ho10)).below hb1.size hB)⟩ : Stored w10 (.slice A xs.length cp) xs ∧ Below w.heap.size w w10)
    clear l8d l9 l10 hc9 HI ho10 hc10 HO
    go_wp2
    refine bodyPost_ret (v := .tuple #[.slice A xs.length cp, .int .i64 k, .int .i64 s, .int .i64 v, .int .i64 now, .int .i64 age]) (by simp [results, Try.results35, go_sem]) rfl ?_
    exact ⟨_, xs, k, s, v, now, age, rfl, H.out.1, H.out.2⟩
theorem OwnC.setOther {E : TypeId} {s lo hi m g : Nat} {w : World} {v : Value} {cs : List Value} (h : OwnC E s w lo hi v m cs) (hg : g < lo ∨ hi ≤ g) (i : Nat) (u : Value) : OwnC E s (w.setCell ⟨g, i, none⟩ u) lo hi v m cs :=
  h.keep fun k h1 h2 _ => Below.heap_setCell w ⟨g, i, none⟩ u k (by show k ≠ g; omega)
end Go.Proofs.Ythldppmdhkifbaa
