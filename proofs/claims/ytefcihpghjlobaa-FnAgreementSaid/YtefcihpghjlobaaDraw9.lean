/- The draws of chapter 9's inputs. -/
import Derived.Test.YtefcihpghjlobaaDraw7
namespace Go.Proofs.Ytefcihpghjlobaa
open Go.ChangeShapes Go.WideShapes Go.ChangeAt Go.RowKit
set_option linter.unusedVariables false

/-- u reads as M, in every world that differs in block B and new blocks alone. -/
def Away (B : Nat) (w : World) (u : Value) (M : List FactD) : Prop := ∀ w', Only B w w' → RowFact w' w'.heap.size u M
theorem Away.only {B : Nat} {w w' : World} {u : Value} {M : List FactD} (h : Away B w u M) (ho : Only B w w') : Away B w' u M := fun W hW => h W (ho.trans hW)
theorem Away.read {B : Nat} {w : World} {u : Value} {M : List FactD} (h : Away B w u M) : RowFact w w.heap.size u M := h w (Only.refl B w)
theorem Away.old {B : Nat} {w1 w2 : World} {u : Value} {M : List FactD} (h : RowFact w1 w1.heap.size u M) (hb : Below w1.heap.size w1 w2) (hB : w1.heap.size ≤ B) : Away B w2 u M := fun W hW =>
  (h.below (hb.trans (hW.below hb.size hB)) (Nat.le_refl _)).more (Nat.le_trans hb.size hW.size)
theorem Away.own {B lo hi : Nat} {w : World} {u : Value} {M : List FactD} (h : OwnFact w lo hi u M) (hB : B < lo) (hh : hi ≤ w.heap.size) : Away B w u M := fun W hW =>
  (OwnC.read (h.only hW hB)).more (Nat.le_trans hh hW.size)
theorem put_any {w : World} {lo hi : Nat} {u : Value} {M : List FactD} {f : FactD} (h : OwnFact w lo hi u (putF M f).1) (hm : M.length ≤ 30) : (putF M f).1.length ≤ 30 := putF_length M f 30 hm (Nat.le_refl _)
set_option maxHeartbeats 8000000 in
set_option maxRecDepth 100000 in
theorem draw_whoState (w : World) (a : Option Addr) (len cap : Nat) (z : List Int) (hr : IsRow .u8 w a len cap z) :
    Calls Try.prog 48 #[.slice a len cap] w fun e w' => ∃ u xs k s v now age, e = .returned (.tuple #[u, .int .i64 k, .int .i64 s, .int .i64 v, .int .i64 now, .int .i64 age]) ∧ xs.length ≤ 30 ∧ RowFact w' w'.heap.size u xs ∧ Below w.heap.size w w' := by
  go_enter Try.func48, Try.ntmps48
  go_wp2_with fail
  refine (draw_findFact w a len cap z hr).mono ?_
  rintro e w1 ⟨U, xs, k, s, v, now, age, rfl, ⟨hxl, _, hrow⟩, hb1⟩
  go_wp2_with fail
  refine (new_any w1 a len cap z (hr.below hb1)).mono ?_
  rintro e w2 ⟨B, rfl, hB, hb2, hc2⟩
  have hA2 := Lib.hid (Away.old hrow hb2 hB)
  have d2 := hb1.trans (hb2.mono hb1.size)
  have hwB : w.heap.size ≤ B := Nat.le_trans hb1.size hB
  clear hrow hr hb1 hb2 hB
  go_wp2_with fail
  refine (below_any w2 B a len cap z 4 (by decide) (by decide) hc2).mono ?_
  rintro e w3 ⟨n, hn, rfl, ho3, hc3⟩
  have hA3 := Lib.hid (hA2.out.only ho3)
  have d3 := d2.trans (ho3.below d2.size hwB)
  clear hA2 d2 ho3 hc2
  go_wp2
  go_loopw [8, 15] (fun z0 i wr => ∃ (u : Value) (M : List FactD) (m : Nat), u = z0 ∧ i = .int .i64 (m : Int) ∧ m ≤ 3 ∧ M.length ≤ 30 ∧ Hid (Away B wr u M) ∧ Below w.heap.size w wr ∧ Cur wr B a len cap z) (fun _ i _ => (intOf i).toNat)
  case atStart => exact ⟨_, xs, n, rfl, rfl, by omega, hxl, hA3, d3, hc3⟩
  case round =>
    clear hA3 d3 hc3 hxl hn
    obtain ⟨u, M, m, rfl, rfl, hm, hml, hA, hb, hcr⟩ := hrel
    by_cases hp : 0 < m
    · have hp' : (0 : Int) < (m : Int) := by omega
      obtain ⟨_, A, cp, rfl, _⟩ := id hA.out.read
      go_wp2_with fail
      refine (below_any wr B a len cap z 5 (by decide) (by decide) hcr).mono ?_
      rintro e w4 ⟨i4, h4, rfl, ho4, hc4⟩
      have hA4 := Lib.hid (hA.out.only ho4)
      have d4 := hb.trans (ho4.below hb.size hwB)
      clear hA hb hcr ho4
      go_wp2_with fail
      refine (below_any w4 B a len cap z 4 (by decide) (by decide) hc4).mono ?_
      rintro e w5 ⟨i5, h5, rfl, ho5, hc5⟩
      have hA5 := Lib.hid (hA4.out.only ho5)
      have d5 := d4.trans (ho5.below d4.size hwB)
      clear hA4 d4 hc4 ho5
      go_wp2_with fail
      refine (spec_max _ _ _).mono ?_
      rintro e w6 ⟨rfl, rfl⟩
      go_wp2_with fail
      refine (below_any _ B a len cap z 9 (by decide) (by decide) hc5).mono ?_
      rintro e w7 ⟨i7, h7, rfl, ho7, hc7⟩
      have hA7 := Lib.hid (hA5.out.only ho7)
      have d7 := d5.trans (ho7.below d5.size hwB)
      clear hA5 d5 hc5 ho7
      go_wp2_with fail
      refine (spec_putFact w7 w7.heap.size cp A M ⟨k, s, v, (i4 : Int), _, _⟩ hA7.out.read (Nat.le_refl _) (by omega)).mono ?_
      rintro e w8 ⟨v', rfl, hown8, b8⟩
      have hBw := hc7.lt
      have hA8 := Lib.hid (Away.own hown8 hBw (Nat.le_refl _))
      have hO8 := Lib.hid (hA7.out.only (Below.only b8))
      have hc8 := hc7.only b8
      have d8 := d7.trans (b8.mono d7.size)
      have hl := put_any hown8 hml
      clear hown8 hA7 d7 hc7 b8
      generalize putF M _ = R at hA8 hl ⊢
      obtain ⟨R1, R2⟩ := R
      cases R2
      · go_wp2
        refine ⟨⟨_, M, m - 1, rfl, by go_num, by omega, hml, hO8, d8, hc8⟩, by simp only [intOf]; omega⟩
      · go_wp2
        refine ⟨⟨_, R1, m - 1, rfl, by go_num, by omega, hl, hA8, d8, hc8⟩, by simp only [intOf]; omega⟩
    · obtain rfl : m = 0 := by omega
      have H := Lib.hid (⟨hml, hA.out.read, hb⟩ : M.length ≤ 30 ∧ RowFact wr wr.heap.size u M ∧ Below w.heap.size w wr)
      clear hA hb hcr
      go_wp2
      refine bodyPost_ret (v := .tuple #[u, .int .i64 k, .int .i64 s, .int .i64 v, .int .i64 now, .int .i64 age]) (by simp [results, Try.results48, go_sem]) rfl ?_
      exact ⟨u, M, k, s, v, now, age, rfl, H.out⟩
set_option maxHeartbeats 4000000 in
theorem draw_isAccepted (w : World) (a : Option Addr) (len cap : Nat) (z : List Int) (hr : IsRow .u8 w a len cap z) :
    Calls Try.prog 29 #[.slice a len cap] w fun e w' => ∃ u xs k s v now age least, e = .returned (.tuple #[u, .int .i64 k, .int .i64 s, .int .i64 v, .int .i64 now, .int .i64 age, .int .i64 least]) ∧ xs.length ≤ 30 ∧ RowFact w' w'.heap.size u xs ∧ Below w.heap.size w w' := by
  go_enter Try.func29, Try.ntmps29
  go_wp2_with fail
  refine (draw_whoState w a len cap z hr).mono ?_
  rintro e w1 ⟨u, xs, k, s, v, now, age, rfl, H⟩
  have HH := Lib.hid H
  clear H
  obtain ⟨g, hg⟩ : ∃ g : Int, (len : Int) % 4 - 1 = g := ⟨_, rfl⟩
  go_wp2
  refine bodyPost_ret (v := .tuple #[u, .int .i64 k, .int .i64 s, .int .i64 v, .int .i64 now, .int .i64 age, .int .i64 g]) (by simp [results, Try.results29, go_sem]) rfl ?_
  exact ⟨u, xs, k, s, v, now, age, g, rfl, HH.out⟩
set_option maxHeartbeats 4000000 in
theorem draw_acceptedUntil (w : World) (a : Option Addr) (len cap : Nat) (z : List Int) (hr : IsRow .u8 w a len cap z) :
    Calls Try.prog 9 #[.slice a len cap] w fun e w' => ∃ u xs k s v now age least, e = .returned (.tuple #[u, .int .i64 k, .int .i64 s, .int .i64 v, .int .i64 now, .int .i64 age, .int .i64 least]) ∧ xs.length ≤ 30 ∧ RowFact w' w'.heap.size u xs ∧ Below w.heap.size w w' := by
  go_enter Try.func9, Try.ntmps9
  go_wp2_with fail
  refine (draw_isAccepted w a len cap z hr).mono ?_
  rintro e w1 ⟨u, xs, k, s, v, now, age, least, rfl, H⟩
  have HH := Lib.hid H
  clear H
  go_wp2
  refine bodyPost_ret (v := .tuple #[u, .int .i64 k, .int .i64 s, .int .i64 v, .int .i64 now, .int .i64 age, .int .i64 least]) (by simp [results, Try.results9, go_sem]) rfl ?_
  exact ⟨u, xs, k, s, v, now, age, least, rfl, HH.out⟩
set_option maxHeartbeats 8000000 in
set_option maxRecDepth 100000 in
theorem draw_lastOf (w : World) (a : Option Addr) (len cap : Nat) (z : List Int) (hr : IsRow .u8 w a len cap z) :
    Calls Try.prog 13 #[.slice a len cap] w fun e w' => ∃ (x : FactD) (t : Int), e = .returned (.tuple #[x.val, .int .i64 t]) ∧ Below w.heap.size w w' := by
  obtain ⟨W0, hW0⟩ : ∃ W : World, W = w.alloc (.cells #[.int .i64 0, .int .i64 0, .int .i64 0, .int .i64 0, .int .i64 0, .int .i64 0] 32) := ⟨_, rfl⟩
  have b0 : Below w.heap.size w W0 := by rw [hW0]; exact (Below.refl _ _).alloc (Nat.le_refl _) _
  have hz : w.heap.size < W0.heap.size := by rw [hW0]; simp
  have hk : W0.heap[w.heap.size]? = some (.cells #[.int .i64 0, .int .i64 0, .int .i64 0, .int .i64 0, .int .i64 0, .int .i64 0] 32) := by rw [hW0]; exact blk_new _ _ _
  go_enter Try.func13, Try.ntmps13
  go_wp2_with fail
  rw [← hW0]
  clear hW0
  refine (draw_holds W0 a len cap z (hr.below b0)).mono ?_
  rintro e w1 ⟨⟨k, s, v, i, t, u⟩, y, ag, _, rfl, _, _, _, _, b1⟩
  rw [FactD.val_mk]
  have d1 := b0.trans (b1.mono b0.size)
  have hk1 := blk_keep hk b1 hz
  have hz1 : w.heap.size < w1.heap.size := Nat.lt_of_lt_of_le hz b1.size
  obtain ⟨W4, hW4⟩ : ∃ W : World, W = w1.alloc (.cells #[.int .i64 k, .int .i64 s, .int .i64 v, .int .i64 i, .int .i64 t, .int .i64 u] 32) := ⟨_, rfl⟩
  have hk4 : W4.heap[w.heap.size]? = some (.cells #[.int .i64 0, .int .i64 0, .int .i64 0, .int .i64 0, .int .i64 0, .int .i64 0] 32) := by rw [hW4]; exact blk_keep hk1 ((Below.refl _ _).alloc (Nat.le_refl _) _) hz1
  have hf4 : W4.heap[w1.heap.size]? = some (.cells #[.int .i64 k, .int .i64 s, .int .i64 v, .int .i64 i, .int .i64 t, .int .i64 u] 32) := by rw [hW4]; exact blk_new _ _ _
  have d4 : Below w.heap.size w W4 := by rw [hW4]; exact d1.alloc d1.size _
  go_upto_region 2 with fail
  rw [← hW4]
  have x0 := blk_cell hf4 0 rfl
  have x1 := blk_cell hf4 1 rfl
  have x2 := blk_cell hf4 2 rfl
  have x3 := blk_cell hf4 3 rfl
  have x4 := blk_cell hf4 4 rfl
  have x5 := blk_cell hf4 5 rfl
  have r0 := blk_cell hk4 0 rfl
  have r1 := blk_cell hk4 1 rfl
  have r2 := blk_cell hk4 2 rfl
  have r3 := blk_cell hk4 3 rfl
  have r4 := blk_cell hk4 4 rfl
  have r5 := blk_cell hk4 5 rfl
  have f0 := blk_frozen hk4 0
  have f1 := blk_frozen hk4 1
  have f2 := blk_frozen hk4 2
  have f3 := blk_frozen hk4 3
  have f4 := blk_frozen hk4 4
  have f5 := blk_frozen hk4 5
  clear hW4 hk hk1 hk4 hf4 b1 d1 b0 hr
  generalize w1.heap.size = F at x0 x1 x2 x3 x4 x5 hz1 ⊢
  have hne : F ≠ w.heap.size := Nat.ne_of_gt hz1
  go_wp2
  refine bodyPost_ret (v := .tuple #[.agg #[.int .i64 k, .int .i64 s, .int .i64 v, .int .i64 i, .int .i64 t, .int .i64 u], .int .i64 ag]) (by simp [results, Try.results13, go_sem, r0, r1, r2, r3, r4, r5]) rfl ?_
  exact ⟨⟨k, s, v, i, t, u⟩, ag, rfl, ((((((d4.setCell (p := ⟨w.heap.size, 0, none⟩) (Nat.le_refl _) _).setCell (p := ⟨w.heap.size, 1, none⟩) (Nat.le_refl _) _).setCell (p := ⟨w.heap.size, 2, none⟩) (Nat.le_refl _) _).setCell (p := ⟨w.heap.size, 3, none⟩) (Nat.le_refl _) _).setCell (p := ⟨w.heap.size, 4, none⟩) (Nat.le_refl _) _).setCell (p := ⟨w.heap.size, 5, none⟩) (Nat.le_refl _) _)⟩
end Go.Proofs.Ytefcihpghjlobaa
