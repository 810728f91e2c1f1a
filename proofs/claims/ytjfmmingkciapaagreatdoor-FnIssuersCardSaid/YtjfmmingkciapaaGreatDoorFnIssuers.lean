/-
  Proved here: for every input, only statements of an issuer who may make them are believed, and none that was changed.
  Conditions: those that the given row itself prints; none of our own.
-/
import Derived.Test.YtjfmmingkciapaaGreatDoorCards
import Derived.Test.YtjfmmingkciapaaGreatDoorTie
import Derived.Test.YtjfmmingkciapaaGreatDoorIssL
import Derived.Test.YtjfmmingkciapaaGreatDoorVars
import Derived.Test.YtjfmmingkciapaaGreatDoorCryD
import Derived.WalkKit
import Derived.ProofKit
import Derived.OpenShut
import Derived.ShutString
import Derived.ChangeOld
import Derived.Below
import Derived.WalkLawsBesides
import Derived.WalkSpells
import Derived.LoopTactic
import Derived.Lib.Hide
import Derived.Deep.DeepCutAuto
import Derived.Handy
import Derived.Deep.RegionHeld3
import Derived.LaidMore
import Derived.Stop.Joined
import Derived.SevenTiedAt
namespace Go.Proofs.YtjfmmingkciapaaGreatDoor.fnIssuers
open Go.ChangeShapes Go.WideShapes Go.ChangeAt Go.RowKit
open Go.ChangeMaps (open_string shut_string)
set_option linter.unusedVariables false

theorem own : ownKnob Tryz.prog.godebug = none := by kernel_rfl
theorem laidOut : laidOutB Tryz.prog = true := by kernel_rfl

set_option maxHeartbeats 32000000 in
set_option maxRecDepth 100000 in
theorem walk (a0 : Option Addr) (len0 cap0 : Nat) (z0 : List Int) (w : World) (w0 : IsRow .u8 w a0 len0 cap0 z0) (hL : NoKey w) :
    Calls Tryz.prog 3 #[.slice a0 len0 cap0] w fun e w' => e = .returned (.bool true) ∧ Below w.heap.size w w' := by
  by_cases hbig : (len0 : Int) ≤ 1048576
  · go_enter Tryz.func3, Tryz.ntmps3
    go_wp2_with (go_at_call 5; go_in)
    refine (draw_stateFact w a0 len0 cap0 z0 w0).mono ?_
    rintro e w1 ⟨i, s, kv, ks, ⟨k1, k2, k3, k4, k5, k6⟩, rfl, wi, ws, hf, ho, hkl, b1⟩
    obtain ⟨A, n, rfl, -⟩ := id ho.read.form
    rw [FactD.val_mk]
    have hfi : FactD.wf ⟨k1, k2, k3, i, k5, k6⟩ := ⟨hf.1, hf.2.1, hf.2.2.1, wi, hf.2.2.2.2.1, hf.2.2.2.2.2⟩
    go_upto_region 4 with fail
    obtain ⟨W2, hW2⟩ : ∃ W2, W2 = (w1.alloc (.cells #[.int .i64 i, .slice A ks.length n, .int .i64 s] 26)).alloc (.cells #[.int .i64 k1, .int .i64 k2, .int .i64 k3, .int .i64 k4, .int .i64 k5, .int .i64 k6] 28) := ⟨_, rfl⟩
    rw [← hW2]
    have b2 : Below w1.heap.size w1 W2 := by rw [hW2]; go_grown
    have z2 : W2.heap.size = w1.heap.size + 1 + 1 := by rw [hW2]; simp
    have HX2 := Lib.hid (show W2.heap[w1.heap.size]? = some (.cells #[.int .i64 i, .slice A ks.length n, .int .i64 s] 26) by rw [hW2]; exact blk_keep (C := w1.heap.size + 1) (blk_new _ _ _) (by go_grown) (by omega))
    have HF2 := Lib.hid (show W2.heap[w1.heap.size + 1]? = some (.cells #[.int .i64 k1, .int .i64 k2, .int .i64 k3, .int .i64 k4, .int .i64 k5, .int .i64 k6] 28) by rw [hW2]; exact blk_new_at _ _ (by simp))
    have d2 := b1.trans (b2.mono b1.size)
    have HR2 := Lib.hid (ho.read.below b2 (Nat.le_refl _))
    have HN2 := Lib.hid (hL.kept d2)
    clear hW2 ho
    obtain ⟨X, hX⟩ : ∃ X, X = w1.heap.size := ⟨_, rfl⟩
    have hXW : X < W2.heap.size := by omega
    have hrl : w1.heap.size ≤ W2.heap.size := by omega
    obtain ⟨r0, r1, r2, r3, r4, r5, r6, o, hV, hro⟩ := stateV_parts2 i s k1 k2 k3 k4 k5 k6 ks
    have HS := Lib.hid (impl_stateFact W2 w1.heap.size n A i s k1 k2 k3 k4 k5 k6 ks HR2.out hrl HN2.out ws hfi)
    rw [hV] at HS
    have HRO := Lib.hid hro
    have x0 := blk_cell HX2.out 0 rfl
    have x1 := blk_cell HX2.out 1 rfl
    have x2 := blk_cell HX2.out 2 rfl
    have y0 := blk_cell HF2.out 0 rfl
    have y1 := blk_cell HF2.out 1 rfl
    have y2 := blk_cell HF2.out 2 rfl
    have y3 := blk_cell HF2.out 3 rfl
    have y4 := blk_cell HF2.out 4 rfl
    have y5 := blk_cell HF2.out 5 rfl
    clear hV hro
    go_wp2_with fail
    refine HS.out.mono ?_
    rintro e w3 ⟨rfl, b3⟩
    clear x0 x1 x2 y0 y1 y2 y3 y4 y5
    have d3 := d2.trans (b3.mono d2.size)
    have w0d := w0.below d3
    go_upto_region 5 with fail
    obtain ⟨W4, hW4⟩ : ∃ W4, W4 = w3.alloc (.cells #[.int .i64 r0, .int .i64 r1, .int .i64 r2, .int .i64 r3, .int .i64 r4, .int .i64 r5, .int .i64 r6] 32) := ⟨_, rfl⟩
    rw [← hW4]
    have b4 : Below w3.heap.size w3 W4 := by rw [hW4]; go_grown
    have z4 : w3.heap.size < W4.heap.size := by rw [hW4]; simp
    have HS4 := Lib.hid (show W4.heap[w3.heap.size]? = some (.cells #[.int .i64 r0, .int .i64 r1, .int .i64 r2, .int .i64 r3, .int .i64 r4, .int .i64 r5, .int .i64 r6] 32) by rw [hW4]; exact blk_new _ _ _)
    have d4 := d3.trans (b4.mono d3.size)
    clear hW4
    go_wp2_with fail
    refine (draw_isBelieved W4 a0 len0 cap0 z0 (w0.below d4)).mono ?_
    rintro e w5 ⟨g, kvs, ⟨⟨j1, j2, j3, j4, j5, j6⟩, m⟩, rfl, hy, h3, b5⟩
    rw [StatedD.val_mk]
    have hyf : FactD.wf ⟨j1, j2, j3, j4, j5, j6⟩ := ⟨hy.1, hy.2.1, hy.2.2.1, hy.2.2.2.1, hy.2.2.2.2.1, hy.2.2.2.2.2.1⟩
    have d5 := d4.trans (b5.mono d4.size)
    go_upto_region 6 with fail
    obtain ⟨W6, hW6⟩ : ∃ W6, W6 = w5.alloc (.cells #[.int .i64 j1, .int .i64 j2, .int .i64 j3, .int .i64 j4, .int .i64 j5, .int .i64 j6, .int .i64 m] 32) := ⟨_, rfl⟩
    rw [← hW6]
    have b6 : Below w5.heap.size w5 W6 := by rw [hW6]; go_grown
    have z6 : w5.heap.size < W6.heap.size := by rw [hW6]; simp
    have HT6 := Lib.hid (show W6.heap[w5.heap.size]? = some (.cells #[.int .i64 j1, .int .i64 j2, .int .i64 j3, .int .i64 j4, .int .i64 j5, .int .i64 j6, .int .i64 m] 32) by rw [hW6]; exact blk_new _ _ _)
    have d6 := d5.trans (b6.mono d5.size)
    clear hW6
    have b46 : Below W4.heap.size W4 W6 := b5.trans (b6.mono b5.size)
    have b26 : Below W2.heap.size W2 W6 := (b3.trans (b4.mono b3.size)).trans (b46.mono (Nat.le_trans b3.size b4.size))
    have HX6 := Lib.hid (show W6.heap[X]? = some (.cells #[.int .i64 i, .slice A ks.length n, .int .i64 s] 26) by rw [hX]; exact blk_keep HX2.out b26 (by omega))
    have HS6 := Lib.hid (blk_keep HS4.out b46 z4)
    have hX6 : X < W6.heap.size := Nat.lt_of_lt_of_le hXW b26.size
    have hS6 : w3.heap.size < W6.heap.size := Nat.lt_of_lt_of_le z4 b46.size
    have HK6 := Lib.hid (HR2.out.below b26 hrl)
    have hk6 : w1.heap.size ≤ W6.heap.size := Nat.le_trans hrl b26.size
    have HL6 := Lib.hid (h3.reads.below IssuerR.fine b6 (Nat.le_refl _))
    have hl6 : w5.heap.size ≤ W6.heap.size := b6.size
    have HN := Lib.hid (hL.kept d6)
    have HW0 := Lib.hid (w0.below d6)
    rw [← hX]
    clear HX2 HF2 HR2 HN2 HS HS4 b1 b2 b3 b4 b5 b46 b26 d2 d3 d4 d5 hL w0d h3 hXW hrl hX z2 z4
    generalize w3.heap.size = S at HS6 hS6 ⊢
    generalize hTT : w5.heap.size = T at HT6 z6 ⊢
    have HC := Lib.hid (fun (u : World) (hb : Below W6.heap.size W6 u) => (⟨⟨blk_cell (blk_keep HX6.out hb hX6) 0 rfl, blk_cell (blk_keep HX6.out hb hX6) 1 rfl, blk_cell (blk_keep HX6.out hb hX6) 2 rfl⟩, (cells7 (blk_keep HS6.out hb hS6)).1, (cells7 (blk_keep HT6.out hb z6)).1, hb⟩ : (u.cell? ⟨X, 0, none⟩ = some (.int .i64 i) ∧ u.cell? ⟨X, 1, none⟩ = some (.slice A ks.length n) ∧ u.cell? ⟨X, 2, none⟩ = some (.int .i64 s)) ∧ (u.cell? ⟨S, 0, none⟩ = some (.int .i64 r0) ∧ u.cell? ⟨S, 1, none⟩ = some (.int .i64 r1) ∧ u.cell? ⟨S, 2, none⟩ = some (.int .i64 r2) ∧ u.cell? ⟨S, 3, none⟩ = some (.int .i64 r3) ∧ u.cell? ⟨S, 4, none⟩ = some (.int .i64 r4) ∧ u.cell? ⟨S, 5, none⟩ = some (.int .i64 r5) ∧ u.cell? ⟨S, 6, none⟩ = some (.int .i64 r6)) ∧ (u.cell? ⟨T, 0, none⟩ = some (.int .i64 j1) ∧ u.cell? ⟨T, 1, none⟩ = some (.int .i64 j2) ∧ u.cell? ⟨T, 2, none⟩ = some (.int .i64 j3) ∧ u.cell? ⟨T, 3, none⟩ = some (.int .i64 j4) ∧ u.cell? ⟨T, 4, none⟩ = some (.int .i64 j5) ∧ u.cell? ⟨T, 5, none⟩ = some (.int .i64 j6) ∧ u.cell? ⟨T, 6, none⟩ = some (.int .i64 m)) ∧ Below W6.heap.size W6 u))
    obtain ⟨b0, hb0⟩ : ∃ b0, believedB iss3 ⟨j1, j2, j3, j4, j5, j6⟩ m = b0 := ⟨_, rfl⟩
    have HI := Lib.hid (fun (U : World) (hb : Below W6.heap.size W6 U) => show Calls Tryz.prog 9 #[.slice (some ⟨g, 0, none⟩) 3 3, .agg #[.int .i64 j1, .int .i64 j2, .int .i64 j3, .int .i64 j4, .int .i64 j5, .int .i64 j6, .int .i64 m]] U fun e w' => e = .returned (.bool b0) ∧ Below U.heap.size U w' from
      hb0 ▸ impl_isBelieved U w5.heap.size 3 (some ⟨g, 0, none⟩) iss3 j1 j2 j3 j4 j5 j6 m (HL6.out.below IssuerR.fine hb hl6) (Nat.le_trans hl6 hb.size) iss3_wf hyf (HN.out.kept hb))
    have HSB := Lib.hid (fun (U : World) (hb : Below W6.heap.size W6 U) => show Calls Tryz.prog 10 #[.slice (some ⟨g, 0, none⟩) 3 3, .agg #[.int .i64 j1, .int .i64 j2, .int .i64 j3, .int .i64 j4, .int .i64 j5, .int .i64 j6, .int .i64 m]] U fun e w' => e = .returned (.bool b0) ∧ Below U.heap.size U w' from
      hb0 ▸ spec_isBelieved U w5.heap.size 3 (some ⟨g, 0, none⟩) iss3 j1 j2 j3 j4 j5 j6 m (HL6.out.below IssuerR.fine hb hl6) (Nat.le_trans hl6 hb.size) iss3_wf hyf)
    have HB0 := Lib.hid hb0
    have hD6 : Below W6.heap.size W6 W6.drew := (Below.refl _ _).drew
    clear hb0
    refine wp_region_held_drew (S := fun u => (u.cell? ⟨T, 0, none⟩ = some (.int .i64 j1) ∧ u.cell? ⟨T, 1, none⟩ = some (.int .i64 j2) ∧ u.cell? ⟨T, 2, none⟩ = some (.int .i64 j3) ∧ u.cell? ⟨T, 3, none⟩ = some (.int .i64 j4) ∧ u.cell? ⟨T, 4, none⟩ = some (.int .i64 j5) ∧ u.cell? ⟨T, 5, none⟩ = some (.int .i64 j6) ∧ u.cell? ⟨T, 6, none⟩ = some (.int .i64 m)) ∧ Below W6.heap.size W6 u) (by kernel_rfl) ((HC.out _ hD6).2.2) (fun hHeld => ?_)
    refine wpAnyH_take (i := 0) (oi := ⟨some 34, _, _, _, _, _⟩) (v := ?_) rfl (by kernel_rfl) (by kernel_rfl) (by kernel_rfl) (fun _ _ _ h => h) (Or.inl ⟨by rfl, ?_⟩) (by assumption) ?_
    rotate_left
    · intro w hSw; (try dsimp only at hSw); go_simp <;> (with_reducible rfl)
    (try simp only [Act.put, List.setIfInBounds_toArray, List.set_cons_zero, List.set_cons_succ])
    refine wpAnyH_take (i := 1) (oi := ⟨some 35, _, _, _, _, _⟩) (v := ?_) rfl (by kernel_rfl) (by kernel_rfl) (by kernel_rfl) (fun _ _ _ h => h) (Or.inl ⟨by rfl, ?_⟩) (by assumption) ?_
    rotate_left
    · intro w hSw; (try dsimp only at hSw); go_simp <;> (with_reducible rfl)
    (try simp only [Act.put, List.setIfInBounds_toArray, List.set_cons_zero, List.set_cons_succ])
    refine wpAnyH_take (i := 3) (oi := ⟨some 37, _, _, _, _, _⟩) (v := ?_) rfl (by kernel_rfl) (by kernel_rfl) (by kernel_rfl) (fun _ _ _ h => h) (Or.inl ⟨by rfl, ?_⟩) (by assumption) ?_
    rotate_left
    · intro w hSw; (try dsimp only at hSw); go_simp <;> (with_reducible rfl)
    (try simp only [Act.put, List.setIfInBounds_toArray, List.set_cons_zero, List.set_cons_succ])
    refine wpAnyH_take (i := 4) (oi := ⟨some 38, _, _, _, _, _⟩) (v := ?_) rfl (by kernel_rfl) (by kernel_rfl) (by kernel_rfl) (fun _ _ _ h => h) (Or.inl ⟨by rfl, ?_⟩) (by assumption) ?_
    rotate_left
    · intro w hSw; (try dsimp only at hSw); go_simp <;> (with_reducible rfl)
    (try simp only [Act.put, List.setIfInBounds_toArray, List.set_cons_zero, List.set_cons_succ])
    refine wpAnyH_ready (rs := [2]) (by kernel_rfl) (by simp) ?_
    refine AllReadyH.cons (o := ⟨some 36, _, _, _, _, _⟩) rfl (fun K hK => ?_) AllReadyH.nil
    go_simp
    (with_reducible refine (HI.out _ hD6).mono ?_)
    rintro e7 u7 ⟨rfl, b7⟩
    have d7 := next b7 hD6
    refine hK.out _ _ ((HC.out _ d7).2.2) (fun hHeld2 => ?_)
    clear hK K
    (try simp only [Act.put, List.setIfInBounds_toArray, List.set_cons_zero, List.set_cons_succ])
    refine wpAnyH_ready (rs := [5]) (by kernel_rfl) (by simp) ?_
    refine AllReadyH.cons (o := ⟨some 39, _, _, _, _, _⟩) rfl (fun K hK => ?_) AllReadyH.nil
    go_simp
    (with_reducible refine (HSB.out _ d7).mono ?_)
    rintro e8 u8 ⟨rfl, b8⟩
    have d8 := next b8 d7
    refine hK.out _ _ ((HC.out _ d8).2.2) (fun hHeld2 => ?_)
    clear hK K
    (try simp only [Act.put, List.setIfInBounds_toArray, List.set_cons_zero, List.set_cons_succ])
    refine wpAnyH_take (i := 6) (oi := ⟨some 40, _, _, _, _, _⟩) (v := ?_) rfl (by kernel_rfl) (by kernel_rfl) (by kernel_rfl) (fun _ _ _ h => h) (Or.inl ⟨by rfl, ?_⟩) (by assumption) ?_
    rotate_left
    · intro w hSw; (try dsimp only at hSw); go_simp <;> (with_reducible rfl)
    (try simp only [Act.put, List.setIfInBounds_toArray, List.set_cons_zero, List.set_cons_succ])
    refine wpAnyH_done (by kernel_rfl) ?_ _
    clear HSB
    go_upto_region 8 with fail
    go_cut [71] (fun c wx => c = .bool false ∧ Below W6.heap.size W6 wx)
    case first =>
      cases o
      · go_wp2
        go_meet
        exact ⟨rfl, d8⟩
      · obtain ⟨hok, rfl, rfl, rfl, rfl, rfl, rfl, hr6⟩ := HRO.out rfl
        have hbo := believed_own hok
        unfold okState at hok
        rw [Bool.and_eq_true, Bool.and_eq_true] at hok
        rw [← hr6] at hbo
        clear hr6 HRO
        have HRB := Lib.hid (rowIss_one u8 r3 s (.slice A ks.length n) ks w1.heap.size (HK6.out.below d8 hk6) (Nat.le_trans hk6 d8.size))
        obtain ⟨W9, hW9⟩ : ∃ W9, u8.alloc (.cells #[.int .i64 r3, .slice A ks.length n, .int .i64 s] 26) = W9 := ⟨_, rfl⟩
        have b9 : Below u8.heap.size u8 W9 := by rw [← hW9]; go_grown
        have z9 : u8.heap.size + 1 ≤ W9.heap.size := by rw [← hW9]; simp
        have d9 := next b9 d8
        rw [hW9] at HRB
        have HIB := Lib.hid (show Calls Tryz.prog 9 #[.slice (some ⟨u8.heap.size, 0, none⟩) 1 1, .agg #[.int .i64 r0, .int .i64 r1, .int .i64 r2, .int .i64 r3, .int .i64 r4, .int .i64 r5, .int .i64 r6]] W9 fun e w' => e = .returned (.bool true) ∧ Below W9.heap.size W9 w' from
          hbo ▸ impl_isBelieved W9 (u8.heap.size + 1) 1 (some ⟨u8.heap.size, 0, none⟩) [⟨r3, ks, s⟩] r0 r1 r2 r3 r4 r5 r6 HRB.out z9 (fun x hx => by rw [List.mem_singleton.1 hx]; exact ⟨wi, ws⟩) hfi (HN.out.kept d9))
        have HFB := Lib.hid (fun U => show Calls Tryz.prog 11 #[.agg #[.int .i64 r0, .int .i64 r1, .int .i64 r2, .int .i64 r3, .int .i64 r4, .int .i64 r5]] U fun e w' => e = .returned (.bool true) ∧ Below U.heap.size U w' from hok.2.1 ▸ impl_isFact ⟨r0, r1, r2, r3, r4, r5⟩ U)
        have HCT := Lib.hid (fun (U : World) (hb : Below W6.heap.size W6 U) => show Calls Tryz.prog 12 #[.slice A ks.length n, .int .i64 r0] U fun e w' => e = .returned (.bool true) ∧ w' = U from hok.2.2 ▸ contains_any U w1.heap.size n A ks r0 (HK6.out.below hb hk6))
        clear hok hbo HRB
        obtain ⟨⟨x0, x1, x2⟩, -, -, -⟩ := HC.out _ d8
        obtain ⟨-, ⟨y0, y1, y2, y3, y4, y5, y6⟩, -, -⟩ := HC.out _ d9
        go_wp2_with fail
        refine HIB.out.mono ?_
        rintro e u10 ⟨rfl, b10⟩
        have d10 := next b10 d9
        clear x0 x1 x2 y0 y1 y2 y3 y4 y5 y6 hW9
        obtain ⟨⟨x0, x1, x2⟩, ⟨y0, y1, y2, y3, y4, y5, y6⟩, -, -⟩ := HC.out _ d10
        go_wp2_with fail
        refine (HFB.out _).mono ?_
        rintro e u11 ⟨rfl, b11⟩
        have d11 := next b11 d10
        clear x0 x1 x2 y0 y1 y2 y3 y4 y5 y6
        obtain ⟨⟨x0, x1, x2⟩, ⟨y0, y1, y2, y3, y4, y5, y6⟩, -, -⟩ := HC.out _ d11
        go_wp2_with fail
        refine (HCT.out _ d11).mono ?_
        rintro e u12 ⟨rfl, rfl⟩
        clear x0 x1 x2 y0 y1 y2 y3 y4 y5 y6
        go_wp2
        go_meet
        exact ⟨rfl, d11⟩
    case rest =>
    obtain ⟨rfl, d12⟩ := hcut
    clear d7 d8 b7 b8
    obtain ⟨-, -, ⟨c0, c1, c2, c3, c4, c5, c6⟩, -⟩ := HC.out _ d12
    go_wp2_with fail
    refine (HI.out _ d12).mono ?_
    rintro e u13 ⟨rfl, b13⟩
    have d13 := next b13 d12
    clear c0 c1 c2 c3 c4 c5 c6
    go_upto_if 74 with fail
    go_cut [] (fun wx => Below W6.heap.size W6 wx)
    case first =>
      cases b0
      · go_wp2
        go_meet
        exact d13
      · obtain ⟨p0, p1, p2, p3, p4⟩ := believed_bounds HB0.out
        have hA := believed_at_changed HB0.out
        have hV := believed_value_changed HB0.out
        have q5 : IntKind.i64.wrap (j5 + 1) = j5 + 1 := by rw [IntKind.wrap_i64]; omega
        have q3 : IntKind.i64.wrap (j3 + 1) = j3 + 1 := by rw [IntKind.wrap_i64]; omega
        have wa : (Lit.int .i64 (j5 + 1)).wf = true := wf_i64 (by omega) (by omega)
        have wv : (Lit.int .i64 (j3 + 1)).wf = true := wf_i64 (by omega) (by omega)
        have HIA := Lib.hid (fun (U : World) (hb : Below W6.heap.size W6 U) => show Calls Tryz.prog 9 #[.slice (some ⟨g, 0, none⟩) 3 3, .agg #[.int .i64 j1, .int .i64 j2, .int .i64 j3, .int .i64 j4, .int .i64 (j5 + 1), .int .i64 j6, .int .i64 m]] U fun e w' => e = .returned (.bool false) ∧ Below U.heap.size U w' from
          hA ▸ impl_isBelieved U w5.heap.size 3 (some ⟨g, 0, none⟩) iss3 j1 j2 j3 j4 (j5 + 1) j6 m (HL6.out.below IssuerR.fine hb hl6) (Nat.le_trans hl6 hb.size) iss3_wf ⟨hyf.1, hyf.2.1, hyf.2.2.1, hyf.2.2.2.1, wa, hyf.2.2.2.2.2⟩ (HN.out.kept hb))
        have HIV := Lib.hid (fun (U : World) (hb : Below W6.heap.size W6 U) => show Calls Tryz.prog 9 #[.slice (some ⟨g, 0, none⟩) 3 3, .agg #[.int .i64 j1, .int .i64 j2, .int .i64 (j3 + 1), .int .i64 j4, .int .i64 j5, .int .i64 j6, .int .i64 m]] U fun e w' => e = .returned (.bool false) ∧ Below U.heap.size U w' from
          hV ▸ impl_isBelieved U w5.heap.size 3 (some ⟨g, 0, none⟩) iss3 j1 j2 (j3 + 1) j4 j5 j6 m (HL6.out.below IssuerR.fine hb hl6) (Nat.le_trans hl6 hb.size) iss3_wf ⟨hyf.1, hyf.2.1, wv, hyf.2.2.2.1, hyf.2.2.2.2.1, hyf.2.2.2.2.2⟩ (HN.out.kept hb))
        obtain ⟨fi, hfi2⟩ : ∃ fi, findI iss3 j4 = fi := ⟨_, rfl⟩
        rw [hfi2] at p4
        have HFI := Lib.hid (fun (U : World) (hb : Below W6.heap.size W6 U) => show Calls Tryz.prog 13 #[.slice (some ⟨g, 0, none⟩) 3 3, .int .i64 j4] U fun e w' => e = .returned (.int .i64 fi) ∧ Below U.heap.size U w' from
          hfi2 ▸ impl_findIssuer U w5.heap.size 3 (some ⟨g, 0, none⟩) iss3 j4 (HL6.out.below IssuerR.fine hb hl6) (fun x hx => (iss3_wf x hx).1) hyf.2.2.2.1)
        have hfn : ¬ fi < 0 := by omega
        have hfd : decide (fi < 0) = false := decide_eq_false hfn
        clear hA hV hfi2 HI p0 p1 p2 p3
        obtain ⟨-, -, ⟨c0, c1, c2, c3, c4, c5, c6⟩, -⟩ := HC.out _ d13
        go_upto_region 13 with fail
        clear c0 c1 c2 c3 c4 c5 c6
        obtain ⟨V1, hV1⟩ : ∃ V1, V1 = u13.alloc (.cells #[.int .i64 j1, .int .i64 j2, .int .i64 j3, .int .i64 j4, .int .i64 (j5 + 1), .int .i64 j6, .int .i64 m] 32) := ⟨_, rfl⟩
        rw [← hV1]
        have b14 : Below u13.heap.size u13 V1 := by rw [hV1]; go_grown
        have z14 : u13.heap.size < V1.heap.size := by rw [hV1]; simp
        have HU1 := Lib.hid (show V1.heap[u13.heap.size]? = some (.cells #[.int .i64 j1, .int .i64 j2, .int .i64 j3, .int .i64 j4, .int .i64 (j5 + 1), .int .i64 j6, .int .i64 m] 32) by rw [hV1]; exact blk_new _ _ _)
        have d14 := next b14 d13
        clear hV1
        obtain ⟨-, -, ⟨c0, c1, c2, c3, c4, c5, c6⟩, -⟩ := HC.out _ d14
        go_upto_region 15 with fail
        clear c0 c1 c2 c3 c4 c5 c6
        obtain ⟨V2, hV2⟩ : ∃ V2, V2 = V1.alloc (.cells #[.int .i64 j1, .int .i64 j2, .int .i64 (j3 + 1), .int .i64 j4, .int .i64 j5, .int .i64 j6, .int .i64 m] 32) := ⟨_, rfl⟩
        rw [← hV2]
        have b15 : Below V1.heap.size V1 V2 := by rw [hV2]; go_grown
        have z15 : V1.heap.size < V2.heap.size := by rw [hV2]; simp
        have HU2 := Lib.hid (show V2.heap[V1.heap.size]? = some (.cells #[.int .i64 j1, .int .i64 j2, .int .i64 (j3 + 1), .int .i64 j4, .int .i64 j5, .int .i64 j6, .int .i64 m] 32) by rw [hV2]; exact blk_new _ _ _)
        have d15 := next b15 d14
        clear hV2
        obtain ⟨⟨c0, c1, c2, c3, c4, c5, c6⟩, -⟩ := cells7 (blk_keep HU1.out b15 z14)
        go_wp2_with fail
        refine (HIA.out _ d15).mono ?_
        rintro e u16 ⟨rfl, b16⟩
        have d16 := next b16 d15
        clear c0 c1 c2 c3 c4 c5 c6
        obtain ⟨⟨c0, c1, c2, c3, c4, c5, c6⟩, -⟩ := cells7 (blk_keep HU2.out b16 z15)
        go_wp2_with fail
        refine (HIV.out _ d16).mono ?_
        rintro e u17 ⟨rfl, b17⟩
        have d17 := next b17 d16
        clear c0 c1 c2 c3 c4 c5 c6
        obtain ⟨-, -, ⟨c0, c1, c2, c3, c4, c5, c6⟩, -⟩ := HC.out _ d17
        go_wp2_with fail
        refine (HFI.out _ d17).mono ?_
        rintro e u18 ⟨rfl, b18⟩
        have d18 := next b18 d17
        clear c0 c1 c2 c3 c4 c5 c6
        go_wp2
        go_meet
        exact d18
    case rest =>
    have d19 := hcut
    clear hcut
    clear d13 b13 d12
    have D19 := d6.trans (d19.mono d6.size)
    go_wp2_with fail
    refine (draw_takeStated wc a0 len0 cap0 z0 (HW0.out.below d19)).mono ?_
    rintro e w20 ⟨g2, kvs2, uv, xs, vv, ys, rfl, h32, ⟨hxl, hxw, hxr⟩, hys, hyw, hyl, b20⟩
    have d20 := next b20 d19
    obtain ⟨_, Au, cu, rfl, _⟩ := id hxr
    obtain ⟨_, Av, cv, rfl, _⟩ := id hys
    have HTK := Lib.hid (show Calls Tryz.prog 15 #[.slice (some ⟨g2, 0, none⟩) 3 3, .slice Au xs.length cu, .slice Av ys.length cv] w20 fun e w' => ∃ u, e = .returned (.tuple #[u, .int .i64 ((takeS iss3 ys xs).2 : Int)]) ∧ OwnFact w' w20.heap.size w'.heap.size u (takeS iss3 ys xs).1 ∧ Below w20.heap.size w20 w' from
      impl_takeStated w20 w20.heap.size w20.heap.size w20.heap.size 3 cu cv (some ⟨g2, 0, none⟩) Au Av iss3 xs ys h32.reads hxr hys (Nat.le_refl _) (Nat.le_refl _) (Nat.le_refl _) iss3_wf (fun y hy => ⟨(hyw y hy).1, (hyw y hy).2.1, (hyw y hy).2.2.1, (hyw y hy).2.2.2.1, (hyw y hy).2.2.2.2.1, (hyw y hy).2.2.2.2.2.1⟩) (by omega) (HN.out.kept d20))
    have hcnt := takeS_count iss3 ys xs
    have hlen := takeS_len iss3 ys xs 1048576 (by decide) (by omega)
    have hsto := Lib.hid (fun h => takeS_store iss3 ys (xs, 0) h)
    have HXR := Lib.hid hxr
    clear hxr hys hyw h32
    obtain ⟨P1, hP1⟩ : ∃ P1, (takeS iss3 ys xs).1 = P1 := ⟨_, rfl⟩
    obtain ⟨P2, hP2⟩ : ∃ P2, (takeS iss3 ys xs).2 = P2 := ⟨_, rfl⟩
    have hsto2 := Lib.hid (show storeB xs = true → storeB P1 = true from fun h => hP1 ▸ hsto.out h)
    rw [hP1, hP2] at HTK
    rw [hP2] at hcnt
    rw [hP1] at hlen
    clear hP1 hP2 hsto
    go_wp2_with fail
    refine HTK.out.mono ?_
    rintro e w21 ⟨out, rfl, hout, b21⟩
    have d21 := next b21 d20
    have hcz : (0 : Int) ≤ (P2 : Int) := by omega
    have hcl : (P2 : Int) ≤ (ys.length : Int) := by omega
    obtain ⟨_, Ao, co, rfl, _⟩ := id hout.read
    obtain ⟨st, hst⟩ : ∃ st, storeB xs = st := ⟨_, rfl⟩
    have HI1 := impl_isStore w21 w20.heap.size cu Au xs (HXR.out.below b21 (Nat.le_refl _)) b21.size (by omega)
    rw [hst] at HI1 hsto2
    have HO := Lib.hid hout
    clear hst hout HTK
    go_wp2_with fail
    refine HI1.mono ?_
    rintro e w22 ⟨rfl, b22⟩
    have d22 := next b22 d21
    cases st
    · go_wp2
      go_ret
      exact ⟨rfl, d6.trans (d22.mono d6.size)⟩
    · have HI2 := impl_isStore w22 w21.heap.size co Ao P1 ((HO.out.below b22 (Nat.le_refl _)).read) b22.size hlen
      rw [hsto2.out rfl] at HI2
      go_wp2_with fail
      refine HI2.mono ?_
      rintro e w23 ⟨rfl, b23⟩
      have d23 := next b23 d22
      go_wp2
      go_ret
      exact ⟨rfl, d6.trans (d23.mono d6.size)⟩
  · go_enter Tryz.func3, Tryz.ntmps3
    go_wp2_with (go_at_call 5; go_in)
    go_ret
    exact ⟨rfl, Below.refl _ _⟩

def laidL : List (String × DataW Unit) := [("loop.example/g00594/impl.errNoKey", Rows.laid_loop_example_g00594_impl_errNoKey)]
theorem door_met (os : Os) (args : Array Value) : laidMetH Tryz.prog laidL ((World.doorLaid Tryz.prog 400 os).forCall (fun _ _ => 0) ⟨#[], args, []⟩).memory :=
  laidMetH_of_parts3 (fuel := 8) (laidMet_of_run' 8 (by kernel_rfl) (by kernel_rfl)) (by kernel_rfl) (by kernel_rfl)
set_option maxRecDepth 100000 in
theorem lifted (os : Os) (started : os.Started) (H : Type) (enc : TypeId × Value → H) :
    ReturnsInHanded {} Tryz.checked os 3 .any (fun w args => (Rows.fnIssuersSpec.pre enc Tryz.prog Tryz.f3 [] false w args ∧ laidMetH Tryz.prog laidL w) ∧ sizedMet enc Tryz.prog Tryz.f3 (OpenSpec.ofChange Rows.fnIssuersSpec) false w args)
      (Rows.fnIssuersSpec.post enc Tryz.prog Tryz.f3 false true false false) := by
  refine returnsInHanded_of_change_and (C := Tryz.checked) (X := fun w _ => laidMetH Tryz.prog laidL w) (fun _ _ _ hh h => h.of_heap hh) own started (by kernel_rfl) Tryz.func3
    (ChangeSpec.witness_shaped (enc := enc) (C := Tryz.checked) (os := os) (X := fun w _ => laidMetH Tryz.prog laidL w) false (World.doorLaid Tryz.prog 400 os) #[.slice none 0 0] 8 rfl (World.shaped_of_RefB (by kernel_rfl) (by kernel_rfl)) (by kernel_rfl) (by kernel_rfl) (by kernel_rfl) (door_met os _)) ?_
  intro W base args ds gs before hval0 hW _ _ hL _
  have hval : ∀ (j : Nat) t v, Tryz.f3.params[j]? = some t → args[j]? = some v → Value.okWide Tryz.prog W .any base t v := hval0
  have hW' := hW
  obtain ⟨p, q, hA0, hV, rfl, hfz, hnd⟩ := hW
  have hA : DataW.TrodAll enc Tryz.prog W 0 (fun _ => true) true Tryz.f3.params.toList args.toList ds p := hA0
  rw [Tryz.params3] at hA hval
  obtain ⟨v0, vs0, d0, ds0, p0, q0, hargs, rfl, rfl, h0, r0⟩ := trodAll_cons hA
  obtain ⟨rfl, rfl, rfl⟩ := trodAll_nil r0
  obtain rfl : args = #[v0] := by cases args; simp_all
  have hV1 : DataW.TrodVars enc Tryz.prog W (fun _ => true) ["loop.example/g00594/impl.errNoKey"] gs q := hV
  have hvars := vars_tok (fun n hn => by
    simp only [List.mem_cons, List.not_mem_nil, or_false] at hn
    subst hn
    exact ⟨0, 120, _, by kernel_rfl, by kernel_rfl, Tryz.underlying120⟩) hV1
  obtain ⟨x0, y0, rfl, _, hV2⟩ := vars_cons hV1
  obtain ⟨rfl, _⟩ := trodVars_none hV2
  obtain ⟨a0, len0, cap0, rfl⟩ := okWide_slice Tryz.underlying22 (hval 0 22 v0 rfl rfl)
  have k0 := h0
  have lt0 : ∀ x ∈ p0, x.block < W.heap.size := by obtain ⟨m, hm⟩ := k0; exact DataW.trod_lt m _ _ _ hm
  obtain ⟨z0, w0⟩ : ∃ zs, IsRow .u8 W a0 len0 cap0 zs := by
    obtain ⟨fuel, hf⟩ := h0
    exact isRow_of Tryz.underlying22 Tryz.underlying5 (by kernel_rfl) hf
  clear hA0 hval0
  refine (walk a0 len0 cap0 z0 W w0 (key_of_laid (by rw [MakeChecks.laidMetH_plain _ _ _ (by kernel_rfl)] at hL; exact hL))).mono fun e W' ⟨he, bel⟩ => ?_
  subst he
  exact ⟨_, rfl, _, _, _, [], _, _, hW', trodAll_mk1 (shut_bool Tryz.underlying4 _), (trodAll_cons_mk (Below.trod laidOut (by kernel_rfl) (of_decide_eq_true (by kernel_rfl)) k0 bel lt0) trodAll_mk0), hvars W' bel _, bel.frame _, fun h => by cases h⟩

theorem over : Rows.fnIssuersRow.holds Tryz.pinned (OpenSpec.ofChange Rows.fnIssuersSpec) :=
  OpenClaim.holds_of_wide 3 Tryz.f3 rfl rfl rfl rfl rfl rfl rfl ⟨rfl, rfl, rfl, rfl, rfl⟩ rfl rfl rfl rfl rfl (by kernel_rfl) Tryz.func3 (by kernel_rfl)
    (of_decide_eq_true (by kernel_rfl)) (by unfold Func.isWrapper; first | (rw [if_pos (by decide +kernel)]; kernel_rfl) | (rw [if_neg (by decide +kernel)]; exact ⟨rfl, rfl⟩))
    (fun os started H enc _ => lifted os started H enc)

/-- for every input, only statements of an issuer who may make them are believed, and none that was changed. -/
theorem proved : Rows.FnIssuersCardSaid :=
  Claim7.holds_tied_plain_at .later [] [.sentinel] true (true, "7d175811168abca5207d7067ed6444b3ed948c2d4a6fa09aacfa8a0072ee318e") true
    over (fun _ h => by cases h) (by kernel_rfl) (fun _ h => by cases h) fnIssuers_row_tie rfl ⟨rfl, rfl⟩ (by kernel_rfl) rfl
    (fun f fn hf hfn => by
      obtain rfl : f = 3 := Option.some.inj ((show Tryz.prog.funcNamed "loop.example/g00594/laws.FnIssuers" = some 3 by kernel_rfl).symm.trans hf) |>.symm
      obtain rfl : fn = Tryz.f3 := (Option.some.inj (Tryz.func3.symm.trans hfn)).symm
      exact ⟨by kernel_rfl, fun j t ht => by
      rw [Tryz.params3] at ht
      have hm : t ∈ [22] := by simpa using Array.mem_of_getElem? ht
      have hall : ([22].all fun u => !Tryz.prog.wantsStandIn u) = true := by kernel_rfl
      exact (show Tryz.prog.wantsStandIn t = false by simpa using List.all_eq_true.1 hall t hm)⟩)
    (by kernel_rfl)
#print axioms proved
end Go.Proofs.YtjfmmingkciapaaGreatDoor.fnIssuers
