/-
  Proved here: for every input, a log is as good as its worst element, and stricter rules judge no log better.
  Conditions: those that the given row itself prints; none of our own.
-/
import Derived.Test.YtjfmmingkciapaaDoorCards
import Derived.Test.YtjfmmingkciapaaDoorTie
import Derived.Test.YtjfmmingkciapaaDoorDraw13g
import Derived.Test.YtjfmmingkciapaaDoorAllowX
import Derived.Test.YtjfmmingkciapaaDoorAllowW
import Derived.Test.YtjfmmingkciapaaDoorFactsZ
import Derived.Test.YtjfmmingkciapaaDoorMeasI
import Derived.Test.YtjfmmingkciapaaDoorVars
import Derived.Test.YtjfmmingkciapaaDoorCryD
import Derived.Test.YtjfmmingkciapaaDoorGround
import Derived.Test.YtjfmmingkciapaaDoorAppH
import Derived.Test.YtjfmmingkciapaaDoorAppS
import Derived.Test.YtjfmmingkciapaaDoorAppR
import Derived.WalkKit
import Derived.ProofKit
import Derived.OpenShut
import Derived.ShutString
import Derived.ChangeOld
import Derived.Below
import Derived.WalkLawsBesides
import Derived.WalkSpells
import Derived.LoopTactic
import Derived.Lib.Hide
import Derived.Deep.DeepCutAuto
import Derived.Handy
import Derived.Deep.RegionHeld3
import Derived.LaidMore
import Derived.Stop.Joined
import Derived.SevenTiedAt
namespace Go.Proofs.YtjfmmingkciapaaDoor.fnAppraisal
open Go.ChangeShapes Go.WideShapes Go.ChangeAt Go.RowKit
open Go.ChangeMaps (open_string shut_string)
set_option linter.unusedVariables false

theorem own : ownKnob Tryd.prog.godebug = none := by kernel_rfl
theorem laidOut : laidOutB Tryd.prog = true := by kernel_rfl

set_option maxHeartbeats 64000000 in
set_option maxRecDepth 100000 in
theorem walk (a0 : Option Addr) (len0 cap0 : Nat) (z0 : List Int) (w : World) (w0 : IsRow .u8 w a0 len0 cap0 z0) (hL : NoKey w) :
    Calls Tryd.prog 3 #[.slice a0 len0 cap0] w fun e w' => e = .returned (.bool true) ∧ Below w.heap.size w w' := by
  by_cases hbig : (len0 : Int) ≤ 1048576
  · go_enter Tryd.func3, Tryd.ntmps3
    go_wp2_with (go_at_call 4; go_in)
    refine (draw_appraiseLog w a0 len0 cap0 z0 w0).mono ?_
    rintro e w1 ⟨x, vs, U, ls, rfl, hx, ⟨hll, hlb, hlr⟩, b1⟩
    have HL := Lib.hid hL
    clear hL
    obtain ⟨xv, x1, x2, x3⟩ := x
    obtain ⟨xa1, xk1, xa2, xk2, xa3, xk3, rfl, -⟩ := allowed_in hx.2
    obtain ⟨ua, uk, rfl, -⟩ := id hlr.form
    obtain ⟨W2, hW2⟩ : ∃ W2, W2 = w1.alloc (.cells #[.int .i64 xv, .slice xa1 x1.length xk1, .slice xa2 x2.length xk2, .slice xa3 x3.length xk3] 26) := ⟨_, rfl⟩
    have b2 : Below w1.heap.size w1 W2 := by rw [hW2]; exact (Below.refl _ _).alloc (Nat.le_refl _) _
    have hk2 : W2.heap[w1.heap.size]? = some (.cells #[.int .i64 xv, .slice xa1 x1.length xk1, .slice xa2 x2.length xk2, .slice xa3 x3.length xk3] 26) := by rw [hW2]; exact blk_new _ _ _
    have hx2 := hx.below b2
    have hlr2 := hlr.below b2 (Nat.le_refl _)
    have hlw2 := b2.size
    have D2 := b1.trans (b2.mono b1.size)
    have CL := Lib.hid (fun (W : World) (hW : Below W2.heap.size W2 W) => show Calls Tryd.prog 6 #[.agg #[.int .i64 xv, .slice xa1 x1.length xk1, .slice xa2 x2.length xk2, .slice xa3 x3.length xk3], .slice ua ls.length uk] W _ from impl_appraiseLog W W2.heap.size w1.heap.size uk ua ⟨xv, x1, x2, x3⟩ _ ls (hx2.2.below hW (Nat.le_refl _)) (hlr2.below hW hlw2) hW.size (Nat.le_trans hlw2 hW.size))
    have CO := Lib.hid (fun (m : Int) (W : World) (hW : Below W2.heap.size W2 W) => show Calls Tryd.prog 7 #[.agg #[.int .i64 xv, .slice xa1 x1.length xk1, .slice xa2 x2.length xk2, .slice xa3 x3.length xk3], .int .i64 m] W _ from impl_appraiseOne W W2.heap.size ⟨xv, x1, x2, x3⟩ _ m (hx2.2.below hW (Nat.le_refl _)) hW.size)
    have HROW := Lib.hid hlr2
    have HLB := Lib.hid hlb
    generalize hX : (⟨xv, x1, x2, x3⟩ : AllowedD) = X at CL CO hx hx2
    clear hX hx hx2 hlr hlb b1 b2 hlr2
    go_upto_region 4 with fail
    rw [← hW2]
    generalize hF : w1.heap.size = F at hk2 ⊢
    rw [hF] at hlw2 HROW
    clear hW2 hF
    obtain ⟨⟨c0, c1, c2, c3⟩, -⟩ := cls_4 hk2
    go_wp2_with fail
    refine (CL.out _ (Below.refl _ _)).mono ?_
    rintro e w3 ⟨rfl, b3⟩
    clear c0 c1 c2 c3
    have HLE := Lib.hid (fun y hy => logA_le (a := X) (l := ls) (x := y) hy)
    have HM0 : metTo X ls 0 = (decide (ls.length = 0) && (logA X ls == 3)) := by unfold metTo; simp
    have HMS := Lib.hid (fun k y hy => metTo_succ (a := X) (l := ls) (k := k) (x := y) hy)
    have HMA := Lib.hid (metTo_all X ls)
    generalize logA X ls = n at HLE HM0 HMS
    obtain ⟨f0, hf0⟩ : ∃ f0, metTo X ls 0 = f0 := ⟨_, rfl⟩
    rw [hf0] at HM0
    have HF0 := Lib.hid hf0
    clear hf0
    go_upto_region 5 with fail
    go_cut [6] (fun f wx => f = .bool f0 ∧ wx = w3)
    case first =>
      by_cases hl0 : ls.length = 0
      · rw [decide_eq_true hl0, Bool.true_and] at HM0
        have e0 : ((ls.length : Int) == 0) = true := by rw [beq_iff_eq]; omega
        go_wp2
        go_meet
        exact ⟨by rw [HM0], rfl⟩
      · rw [decide_eq_false hl0, Bool.false_and] at HM0
        have e0 : ((ls.length : Int) == 0) = false := by rw [beq_eq_false_iff_ne]; omega
        go_wp2
        go_meet
        exact ⟨by rw [HM0], rfl⟩
    case rest =>
    obtain ⟨rfl, rfl⟩ := hcut
    clear HM0
    go_wp2
    go_loopw [6, 7] (fun f i wx => ∃ k : Nat, k ≤ ls.length ∧ i = .int .i64 (k : Int) ∧ (∃ fb, f = .bool fb ∧ Hid (metTo X ls k = fb)) ∧ Hid (Below W2.heap.size W2 wx)) (fun _ i _ => ls.length - (intOf i).toNat)
    case atStart => exact ⟨0, Nat.zero_le _, rfl, ⟨f0, rfl, HF0⟩, Lib.hid b3⟩
    case round =>
      obtain ⟨k, hk, rfl, ⟨fb, rfl, HFB⟩, hb⟩ := hrel
      have d4 := hb.out
      by_cases hlt : k < ls.length
      · obtain ⟨y, hy⟩ : ∃ y, ls[k]? = some y := ⟨_, List.getElem?_eq_getElem hlt⟩
        have hle := HLE.out y (List.mem_of_getElem? hy)
        have HS := Lib.hid (HMS.out k y hy)
        have C1 := Lib.hid (fun W hW => CO.out y W hW)
        obtain ⟨bb, off, rfl, g1, g2, x0⟩ := Row.cellAt HROW.out hy
        generalize oneA X y = m at hle HS C1
        clear hy
        have hml : decide (m < n) = false := decide_eq_false (by omega)
        have hml2 : ¬ m < n := by omega
        go_upto_region 9 with fail
        have HC9 := Lib.hid (fun (uu : World) (hb : Below W2.heap.size W2 uu) => (⟨blk_cell (blk_keep hk2 hb (blk_lt hk2)) 0 rfl, blk_cell (blk_keep hk2 hb (blk_lt hk2)) 1 rfl, blk_cell (blk_keep hk2 hb (blk_lt hk2)) 2 rfl, blk_cell (blk_keep hk2 hb (blk_lt hk2)) 3 rfl, (hb.cell (p := ⟨bb, off + k, none⟩) g2).trans x0, hb⟩ : uu.cell? ⟨F, 0, none⟩ = some (.int .i64 xv) ∧ uu.cell? ⟨F, 1, none⟩ = some (.slice xa1 x1.length xk1) ∧ uu.cell? ⟨F, 2, none⟩ = some (.slice xa2 x2.length xk2) ∧ uu.cell? ⟨F, 3, none⟩ = some (.slice xa3 x3.length xk3) ∧ (uu.cell? ⟨bb, off + k, none⟩ = some (.int .i64 y)) ∧ Below W2.heap.size W2 uu))
        have hD9 := (d4).drew
        refine wp_region_held_drew (S := fun uu => uu.cell? ⟨F, 0, none⟩ = some (.int .i64 xv) ∧ uu.cell? ⟨F, 1, none⟩ = some (.slice xa1 x1.length xk1) ∧ uu.cell? ⟨F, 2, none⟩ = some (.slice xa2 x2.length xk2) ∧ uu.cell? ⟨F, 3, none⟩ = some (.slice xa3 x3.length xk3) ∧ (uu.cell? ⟨bb, off + k, none⟩ = some (.int .i64 y)) ∧ Below W2.heap.size W2 uu) (by kernel_rfl) (HC9.out _ hD9) (fun hHeld => ?_)
        refine wpAnyH_take (i := 0) (oi := ⟨some 45, _, _, _, _, _⟩) (v := ?_) rfl (by kernel_rfl) (by kernel_rfl) (by kernel_rfl) (fun _ _ _ h => h) (Or.inl ⟨by rfl, ?_⟩) (by assumption) ?_
        rotate_left
        · intro w hSw; (try dsimp only at hSw); go_simp <;> (with_reducible rfl)
        (try simp only [Act.put, List.setIfInBounds_toArray, List.set_cons_zero, List.set_cons_succ])
        refine wpAnyH_take (i := 1) (oi := ⟨some 46, _, _, _, _, _⟩) (v := ?_) rfl (by kernel_rfl) (by kernel_rfl) (by kernel_rfl) (fun _ _ _ h => h) (Or.inl ⟨by rfl, ?_⟩) (by assumption) ?_
        rotate_left
        · intro w hSw; (try dsimp only at hSw); go_simp <;> (with_reducible rfl)
        (try simp only [Act.put, List.setIfInBounds_toArray, List.set_cons_zero, List.set_cons_succ])
        refine wpAnyH_take (i := 2) (oi := ⟨some 47, _, _, _, _, _⟩) (v := ?_) rfl (by kernel_rfl) (by kernel_rfl) (by kernel_rfl) (fun _ _ _ h => h) (Or.inl ⟨by rfl, ?_⟩) (by assumption) ?_
        rotate_left
        · intro w hSw; (try dsimp only at hSw); go_simp <;> (with_reducible rfl)
        (try simp only [Act.put, List.setIfInBounds_toArray, List.set_cons_zero, List.set_cons_succ])
        refine wpAnyH_take (i := 3) (oi := ⟨some 48, _, _, _, _, _⟩) (v := ?_) rfl (by kernel_rfl) (by kernel_rfl) (by kernel_rfl) (fun _ _ _ h => h) (Or.inl ⟨by rfl, ?_⟩) (by assumption) ?_
        rotate_left
        · intro w hSw; (try dsimp only at hSw); go_simp <;> (with_reducible rfl)
        (try simp only [Act.put, List.setIfInBounds_toArray, List.set_cons_zero, List.set_cons_succ])
        refine wpAnyH_take (i := 4) (oi := ⟨some 49, _, _, _, _, _⟩) (v := ?_) rfl (by kernel_rfl) (by kernel_rfl) (by kernel_rfl) (fun _ _ _ h => h) (Or.inl ⟨by rfl, ?_⟩) (by assumption) ?_
        rotate_left
        · intro w hSw; (try dsimp only at hSw); go_simp <;> (with_reducible rfl)
        (try simp only [Act.put, List.setIfInBounds_toArray, List.set_cons_zero, List.set_cons_succ])
        refine wpAnyH_ready (rs := [5]) (by kernel_rfl) (by simp) ?_
        refine AllReadyH.cons (o := ⟨some 50, _, _, _, _, _⟩) rfl (fun K hK => ?_) AllReadyH.nil
        go_simp
        (with_reducible refine (C1.out _ (show Below W2.heap.size W2 _ by assumption)).mono ?_)
        rintro e50 u50 ⟨rfl, b50⟩
        have d50 : Below W2.heap.size W2 u50 := hD9.trans (b50.mono hD9.size)
        refine hK.out _ _ (HC9.out _ d50) (fun hHeld2 => ?_)
        clear hK K
        (try simp only [Act.put, List.setIfInBounds_toArray, List.set_cons_zero, List.set_cons_succ])
        refine wpAnyH_take (i := 6) (oi := ⟨some 8, _, _, _, _, _⟩) (v := ?_) rfl (by kernel_rfl) (by kernel_rfl) (by kernel_rfl) (fun _ _ _ h => h) (Or.inl ⟨by rfl, ?_⟩) (by assumption) ?_
        rotate_left
        · intro w hSw; (try dsimp only at hSw); go_simp <;> (with_reducible rfl)
        (try simp only [Act.put, List.setIfInBounds_toArray, List.set_cons_zero, List.set_cons_succ])
        refine wpAnyH_done (by kernel_rfl) ?_ _
        cases fb
        · have HN := Lib.hid (show metTo X ls (k + 1) = (m == n) by rw [HS.out, HFB.out]; rfl)
          go_wp2
          exact ⟨⟨k + 1, by omega, by go_num, ⟨_, rfl, HN⟩, Lib.hid d50⟩, by simp only [intOf]; omega⟩
        · have HN := Lib.hid (show metTo X ls (k + 1) = true by rw [HS.out, HFB.out]; rfl)
          go_wp2
          exact ⟨⟨k + 1, by omega, by go_num, ⟨_, rfl, HN⟩, Lib.hid d50⟩, by simp only [intOf]; omega⟩
      · obtain rfl : k = ls.length := by omega
        obtain rfl : fb = true := by rw [← HFB.out]; exact HMA.out
        have DW := D2.trans (d4.mono D2.size)
        clear HFB HMS HLE hb
        go_wp2_with fail
        refine (draw_isStricter wr a0 len0 cap0 z0 (w0.below DW)).mono ?_
        rintro e w5 ⟨p, q, us, ts, rfl, hp0, hq0, b5⟩
        have hp := hp0.read
        have hq := hq0.read
        clear hp0 hq0
        obtain ⟨pv, p1, p2, p3⟩ := p
        obtain ⟨pa1, pk1, pa2, pk2, pa3, pk3, rfl, -⟩ := allowed_in hp.2
        obtain ⟨qv, q1, q2, q3⟩ := q
        obtain ⟨qa1, qk1, qa2, qk2, qa3, qk3, rfl, -⟩ := allowed_in hq.2
        have d5 := d4.trans (b5.mono d4.size)
        have hk5 := blk_keep hk2 d5 (blk_lt hk2)
        go_upto_region 14 with fail
        obtain ⟨W6, hW6⟩ : ∃ W6, W6 = (w5.alloc (.cells #[.int .i64 pv, .slice pa1 p1.length pk1, .slice pa2 p2.length pk2, .slice pa3 p3.length pk3] 26)).alloc (.cells #[.int .i64 qv, .slice qa1 q1.length qk1, .slice qa2 q2.length qk2, .slice qa3 q3.length qk3] 26) := ⟨_, rfl⟩
        rw [← hW6]
        have b6 : Below w5.heap.size w5 W6 := by rw [hW6]; go_grown
        have hkp : W6.heap[w5.heap.size]? = some (.cells #[.int .i64 pv, .slice pa1 p1.length pk1, .slice pa2 p2.length pk2, .slice pa3 p3.length pk3] 26) := by rw [hW6]; exact blk_keep (C := w5.heap.size + 1) (blk_new _ _ _) (by go_grown) (by omega)
        have hkq : W6.heap[w5.heap.size + 1]? = some (.cells #[.int .i64 qv, .slice qa1 q1.length qk1, .slice qa2 q2.length qk2, .slice qa3 q3.length qk3] 26) := by rw [hW6]; exact blk_new_at (w := w5.alloc (.cells #[.int .i64 pv, .slice pa1 p1.length pk1, .slice pa2 p2.length pk2, .slice pa3 p3.length pk3] 26)) _ _ (by simp)
        clear hW6
        have hp6 := hp.below b6
        have hq6 := hq.below b6
        have d6 := d5.trans (b6.mono d5.size)
        have hrow6 := HROW.out.below d6 hlw2
        have hlw6 := Nat.le_trans hlw2 d6.size
        have D6 := D2.trans (d6.mono D2.size)
        generalize hG : w5.heap.size = G at hkp hkq ⊢
        clear hG hp hq b6 b5 hk5 d5 d4 b3 DW hk2
        have CS := Lib.hid (fun (W : World) (hW : Below W6.heap.size W6 W) => show Calls Tryd.prog 9 #[.agg #[.int .i64 pv, .slice pa1 p1.length pk1, .slice pa2 p2.length pk2, .slice pa3 p3.length pk3], .agg #[.int .i64 qv, .slice qa1 q1.length qk1, .slice qa2 q2.length qk2, .slice qa3 q3.length qk3]] W _ from impl_isStricter W W6.heap.size W6.heap.size ⟨pv, p1, p2, p3⟩ ⟨qv, q1, q2, q3⟩ _ _ (hp6.2.below hW (Nat.le_refl _)) (hq6.2.below hW (Nat.le_refl _)) hW.size hW.size)
        have CG := Lib.hid (fun (W : World) (hW : Below W6.heap.size W6 W) => impl_isLog W F uk ua ls (hrow6.below hW hlw6))
        have CP := Lib.hid (fun (W : World) (hW : Below W6.heap.size W6 W) => show Calls Tryd.prog 6 #[.agg #[.int .i64 pv, .slice pa1 p1.length pk1, .slice pa2 p2.length pk2, .slice pa3 p3.length pk3], .slice ua ls.length uk] W _ from impl_appraiseLog W W6.heap.size F uk ua ⟨pv, p1, p2, p3⟩ _ ls (hp6.2.below hW (Nat.le_refl _)) (hrow6.below hW hlw6) hW.size (Nat.le_trans hlw6 hW.size))
        have CQ := Lib.hid (fun (W : World) (hW : Below W6.heap.size W6 W) => show Calls Tryd.prog 6 #[.agg #[.int .i64 qv, .slice qa1 q1.length qk1, .slice qa2 q2.length qk2, .slice qa3 q3.length qk3], .slice ua ls.length uk] W _ from impl_appraiseLog W W6.heap.size F uk ua ⟨qv, q1, q2, q3⟩ _ ls (hq6.2.below hW (Nat.le_refl _)) (hrow6.below hW hlw6) hW.size (Nat.le_trans hlw6 hW.size))
        have CR := Lib.hid (fun (W : World) (hW : Below W6.heap.size W6 W) => show Calls Tryd.prog 14 #[.agg #[.int .i64 pv, .slice pa1 p1.length pk1, .slice pa2 p2.length pk2, .slice pa3 p3.length pk3], .agg #[.int .i64 qv, .slice qa1 q1.length qk1, .slice qa2 q2.length qk2, .slice qa3 q3.length qk3]] W _ from impl_replaceAllowed W W6.heap.size W6.heap.size ⟨pv, p1, p2, p3⟩ ⟨qv, q1, q2, q3⟩ _ _ (hp6.2.below hW (Nat.le_refl _)) (hq6.2.below hW (Nat.le_refl _)) hW.size hW.size ⟨by have := hp6.1; dsimp only at this ⊢; omega, by have := hp6.1; dsimp only at this ⊢; omega, by have := hp6.1; dsimp only at this ⊢; omega⟩ ⟨by have := hq6.1; dsimp only at this ⊢; omega, by have := hq6.1; dsimp only at this ⊢; omega, by have := hq6.1; dsimp only at this ⊢; omega⟩)
        have CA := Lib.hid (fun (W : World) (hW : Below W6.heap.size W6 W) => show Calls Tryd.prog 15 #[.agg #[.int .i64 qv, .slice qa1 q1.length qk1, .slice qa2 q2.length qk2, .slice qa3 q3.length qk3]] W _ from impl_isAllowed W W6.heap.size ⟨qv, q1, q2, q3⟩ _ (hq6.2.below hW (Nat.le_refl _)) hW.size)
        have HRB : replB ⟨pv, p1, p2, p3⟩ ⟨qv, q1, q2, q3⟩ = (allowedB ⟨qv, q1, q2, q3⟩ && decide (pv < qv)) := rfl
        have HRV : pv ≤ (replA ⟨pv, p1, p2, p3⟩ ⟨qv, q1, q2, q3⟩).Version := repl_version _ _
        rw [HRB] at CR
        have HSL := Lib.hid (fun h1 h2 => strict_log (a := ⟨pv, p1, p2, p3⟩) (b := ⟨qv, q1, q2, q3⟩) (l := ls) h1 h2)
        generalize replA ⟨pv, p1, p2, p3⟩ ⟨qv, q1, q2, q3⟩ = R at CR HRV
        generalize strictB ⟨pv, p1, p2, p3⟩ ⟨qv, q1, q2, q3⟩ = sb at CS HSL
        generalize logB ls = lb at CG HSL
        generalize logA ⟨pv, p1, p2, p3⟩ ls = np at CP HSL
        generalize logA ⟨qv, q1, q2, q3⟩ ls = nq at CQ HSL
        generalize allowedB ⟨qv, q1, q2, q3⟩ = ab at CA CR
        clear hp6 hq6 HRB
        have r6 := Below.refl W6.heap.size W6
        go_cut [84] (fun c wx => c = .bool false ∧ Hid (Below W6.heap.size W6 wx))
        case first =>
          cases sb
          · skip
            have HC14 := Lib.hid (fun (uu : World) (hb : Below W6.heap.size W6 uu) => (⟨blk_cell (blk_keep hkp hb (blk_lt hkp)) 0 rfl, blk_cell (blk_keep hkp hb (blk_lt hkp)) 1 rfl, blk_cell (blk_keep hkp hb (blk_lt hkp)) 2 rfl, blk_cell (blk_keep hkp hb (blk_lt hkp)) 3 rfl, blk_cell (blk_keep hkq hb (blk_lt hkq)) 0 rfl, blk_cell (blk_keep hkq hb (blk_lt hkq)) 1 rfl, blk_cell (blk_keep hkq hb (blk_lt hkq)) 2 rfl, blk_cell (blk_keep hkq hb (blk_lt hkq)) 3 rfl, hb⟩ : uu.cell? ⟨G, 0, none⟩ = some (.int .i64 pv) ∧ uu.cell? ⟨G, 1, none⟩ = some (.slice pa1 p1.length pk1) ∧ uu.cell? ⟨G, 2, none⟩ = some (.slice pa2 p2.length pk2) ∧ uu.cell? ⟨G, 3, none⟩ = some (.slice pa3 p3.length pk3) ∧ uu.cell? ⟨G + 1, 0, none⟩ = some (.int .i64 qv) ∧ uu.cell? ⟨G + 1, 1, none⟩ = some (.slice qa1 q1.length qk1) ∧ uu.cell? ⟨G + 1, 2, none⟩ = some (.slice qa2 q2.length qk2) ∧ uu.cell? ⟨G + 1, 3, none⟩ = some (.slice qa3 q3.length qk3) ∧ Below W6.heap.size W6 uu))
            have hD14 := (r6).drew
            refine wp_region_held_drew (S := fun uu => uu.cell? ⟨G, 0, none⟩ = some (.int .i64 pv) ∧ uu.cell? ⟨G, 1, none⟩ = some (.slice pa1 p1.length pk1) ∧ uu.cell? ⟨G, 2, none⟩ = some (.slice pa2 p2.length pk2) ∧ uu.cell? ⟨G, 3, none⟩ = some (.slice pa3 p3.length pk3) ∧ uu.cell? ⟨G + 1, 0, none⟩ = some (.int .i64 qv) ∧ uu.cell? ⟨G + 1, 1, none⟩ = some (.slice qa1 q1.length qk1) ∧ uu.cell? ⟨G + 1, 2, none⟩ = some (.slice qa2 q2.length qk2) ∧ uu.cell? ⟨G + 1, 3, none⟩ = some (.slice qa3 q3.length qk3) ∧ Below W6.heap.size W6 uu) (by kernel_rfl) (HC14.out _ hD14) (fun hHeld => ?_)
            refine wpAnyH_take (i := 0) (oi := ⟨some 65, _, _, _, _, _⟩) (v := ?_) rfl (by kernel_rfl) (by kernel_rfl) (by kernel_rfl) (fun _ _ _ h => h) (Or.inl ⟨by rfl, ?_⟩) (by assumption) ?_
            rotate_left
            · intro w hSw; (try dsimp only at hSw); go_simp <;> (with_reducible rfl)
            (try simp only [Act.put, List.setIfInBounds_toArray, List.set_cons_zero, List.set_cons_succ])
            refine wpAnyH_take (i := 1) (oi := ⟨some 66, _, _, _, _, _⟩) (v := ?_) rfl (by kernel_rfl) (by kernel_rfl) (by kernel_rfl) (fun _ _ _ h => h) (Or.inl ⟨by rfl, ?_⟩) (by assumption) ?_
            rotate_left
            · intro w hSw; (try dsimp only at hSw); go_simp <;> (with_reducible rfl)
            (try simp only [Act.put, List.setIfInBounds_toArray, List.set_cons_zero, List.set_cons_succ])
            refine wpAnyH_take (i := 2) (oi := ⟨some 67, _, _, _, _, _⟩) (v := ?_) rfl (by kernel_rfl) (by kernel_rfl) (by kernel_rfl) (fun _ _ _ h => h) (Or.inl ⟨by rfl, ?_⟩) (by assumption) ?_
            rotate_left
            · intro w hSw; (try dsimp only at hSw); go_simp <;> (with_reducible rfl)
            (try simp only [Act.put, List.setIfInBounds_toArray, List.set_cons_zero, List.set_cons_succ])
            refine wpAnyH_take (i := 3) (oi := ⟨some 68, _, _, _, _, _⟩) (v := ?_) rfl (by kernel_rfl) (by kernel_rfl) (by kernel_rfl) (fun _ _ _ h => h) (Or.inl ⟨by rfl, ?_⟩) (by assumption) ?_
            rotate_left
            · intro w hSw; (try dsimp only at hSw); go_simp <;> (with_reducible rfl)
            (try simp only [Act.put, List.setIfInBounds_toArray, List.set_cons_zero, List.set_cons_succ])
            refine wpAnyH_take (i := 4) (oi := ⟨some 69, _, _, _, _, _⟩) (v := ?_) rfl (by kernel_rfl) (by kernel_rfl) (by kernel_rfl) (fun _ _ _ h => h) (Or.inl ⟨by rfl, ?_⟩) (by assumption) ?_
            rotate_left
            · intro w hSw; (try dsimp only at hSw); go_simp <;> (with_reducible rfl)
            (try simp only [Act.put, List.setIfInBounds_toArray, List.set_cons_zero, List.set_cons_succ])
            refine wpAnyH_ready (rs := [5]) (by kernel_rfl) (by simp) ?_
            refine AllReadyH.cons (o := ⟨some 70, _, _, _, _, _⟩) rfl (fun K hK => ?_) AllReadyH.nil
            go_simp
            (with_reducible refine (CS.out _ (show Below W6.heap.size W6 _ by assumption)).mono ?_)
            rintro e70 u70 ⟨rfl, b70⟩
            have d70 : Below W6.heap.size W6 u70 := hD14.trans (b70.mono hD14.size)
            refine hK.out _ _ (HC14.out _ d70) (fun hHeld2 => ?_)
            clear hK K
            (try simp only [Act.put, List.setIfInBounds_toArray, List.set_cons_zero, List.set_cons_succ])
            refine wpAnyH_take (i := 6) (oi := ⟨some 71, _, _, _, _, _⟩) (v := ?_) rfl (by kernel_rfl) (by kernel_rfl) (by kernel_rfl) (fun _ _ _ h => h) (Or.inl ⟨by rfl, ?_⟩) (by assumption) ?_
            rotate_left
            · intro w hSw; (try dsimp only at hSw); go_simp <;> (with_reducible rfl)
            (try simp only [Act.put, List.setIfInBounds_toArray, List.set_cons_zero, List.set_cons_succ])
            refine wpAnyH_take (i := 7) (oi := ⟨some 72, _, _, _, _, _⟩) (v := undef) rfl (by kernel_rfl) (by kernel_rfl) (by kernel_rfl) (fun _ _ _ h => h) (.inr ⟨by rfl, rfl⟩) (by assumption) ?_
            (try simp only [Act.put, List.setIfInBounds_toArray, List.set_cons_zero, List.set_cons_succ])
            refine wpAnyH_take (i := 8) (oi := ⟨some 73, _, _, _, _, _⟩) (v := undef) rfl (by kernel_rfl) (by kernel_rfl) (by kernel_rfl) (fun _ _ _ h => h) (.inr ⟨by rfl, rfl⟩) (by assumption) ?_
            (try simp only [Act.put, List.setIfInBounds_toArray, List.set_cons_zero, List.set_cons_succ])
            refine wpAnyH_take (i := 9) (oi := ⟨some 74, _, _, _, _, _⟩) (v := ?_) rfl (by kernel_rfl) (by kernel_rfl) (by kernel_rfl) (fun _ _ _ h => h) (Or.inl ⟨by rfl, ?_⟩) (by assumption) ?_
            rotate_left
            · intro w hSw; (try dsimp only at hSw); go_simp <;> (with_reducible rfl)
            (try simp only [Act.put, List.setIfInBounds_toArray, List.set_cons_zero, List.set_cons_succ])
            refine wpAnyH_take (i := 10) (oi := ⟨some 75, _, _, _, _, _⟩) (v := ?_) rfl (by kernel_rfl) (by kernel_rfl) (by kernel_rfl) (fun _ _ _ h => h) (Or.inl ⟨by rfl, ?_⟩) (by assumption) ?_
            rotate_left
            · intro w hSw; (try dsimp only at hSw); go_simp <;> (with_reducible rfl)
            (try simp only [Act.put, List.setIfInBounds_toArray, List.set_cons_zero, List.set_cons_succ])
            refine wpAnyH_take (i := 11) (oi := ⟨some 76, _, _, _, _, _⟩) (v := undef) rfl (by kernel_rfl) (by kernel_rfl) (by kernel_rfl) (fun _ _ _ h => h) (.inr ⟨by rfl, rfl⟩) (by assumption) ?_
            (try simp only [Act.put, List.setIfInBounds_toArray, List.set_cons_zero, List.set_cons_succ])
            refine wpAnyH_take (i := 12) (oi := ⟨some 77, _, _, _, _, _⟩) (v := undef) rfl (by kernel_rfl) (by kernel_rfl) (by kernel_rfl) (fun _ _ _ h => h) (.inr ⟨by rfl, rfl⟩) (by assumption) ?_
            (try simp only [Act.put, List.setIfInBounds_toArray, List.set_cons_zero, List.set_cons_succ])
            refine wpAnyH_take (i := 13) (oi := ⟨some 78, _, _, _, _, _⟩) (v := undef) rfl (by kernel_rfl) (by kernel_rfl) (by kernel_rfl) (fun _ _ _ h => h) (.inr ⟨by rfl, rfl⟩) (by assumption) ?_
            (try simp only [Act.put, List.setIfInBounds_toArray, List.set_cons_zero, List.set_cons_succ])
            refine wpAnyH_take (i := 14) (oi := ⟨some 79, _, _, _, _, _⟩) (v := undef) rfl (by kernel_rfl) (by kernel_rfl) (by kernel_rfl) (fun _ _ _ h => h) (.inr ⟨by rfl, rfl⟩) (by assumption) ?_
            (try simp only [Act.put, List.setIfInBounds_toArray, List.set_cons_zero, List.set_cons_succ])
            refine wpAnyH_take (i := 15) (oi := ⟨some 80, _, _, _, _, _⟩) (v := undef) rfl (by kernel_rfl) (by kernel_rfl) (by kernel_rfl) (fun _ _ _ h => h) (.inr ⟨by rfl, rfl⟩) (by assumption) ?_
            (try simp only [Act.put, List.setIfInBounds_toArray, List.set_cons_zero, List.set_cons_succ])
            refine wpAnyH_take (i := 16) (oi := ⟨some 81, _, _, _, _, _⟩) (v := undef) rfl (by kernel_rfl) (by kernel_rfl) (by kernel_rfl) (fun _ _ _ h => h) (.inr ⟨by rfl, rfl⟩) (by assumption) ?_
            (try simp only [Act.put, List.setIfInBounds_toArray, List.set_cons_zero, List.set_cons_succ])
            refine wpAnyH_take (i := 17) (oi := ⟨some 82, _, _, _, _, _⟩) (v := undef) rfl (by kernel_rfl) (by kernel_rfl) (by kernel_rfl) (fun _ _ _ h => h) (.inr ⟨by rfl, rfl⟩) (by assumption) ?_
            (try simp only [Act.put, List.setIfInBounds_toArray, List.set_cons_zero, List.set_cons_succ])
            refine wpAnyH_take (i := 18) (oi := ⟨some 83, _, _, _, _, _⟩) (v := ?_) rfl (by kernel_rfl) (by kernel_rfl) (by kernel_rfl) (fun _ _ _ h => h) (Or.inl ⟨by rfl, ?_⟩) (by assumption) ?_
            rotate_left
            · intro w hSw; (try dsimp only at hSw); go_simp <;> (with_reducible rfl)
            (try simp only [Act.put, List.setIfInBounds_toArray, List.set_cons_zero, List.set_cons_succ])
            refine wpAnyH_take (i := 19) (oi := ⟨some 84, _, _, _, _, _⟩) (v := ?_) rfl (by kernel_rfl) (by kernel_rfl) (by kernel_rfl) (fun _ _ _ h => h) (Or.inl ⟨by rfl, ?_⟩) (by assumption) ?_
            rotate_left
            · intro w hSw; (try dsimp only at hSw); go_simp <;> (with_reducible rfl)
            (try simp only [Act.put, List.setIfInBounds_toArray, List.set_cons_zero, List.set_cons_succ])
            refine wpAnyH_done (by kernel_rfl) ?_ _
            go_wp2
            go_meet
            exact ⟨rfl, Lib.hid d70⟩
          · cases lb
            · skip
              have HC14 := Lib.hid (fun (uu : World) (hb : Below W6.heap.size W6 uu) => (⟨blk_cell (blk_keep hkp hb (blk_lt hkp)) 0 rfl, blk_cell (blk_keep hkp hb (blk_lt hkp)) 1 rfl, blk_cell (blk_keep hkp hb (blk_lt hkp)) 2 rfl, blk_cell (blk_keep hkp hb (blk_lt hkp)) 3 rfl, blk_cell (blk_keep hkq hb (blk_lt hkq)) 0 rfl, blk_cell (blk_keep hkq hb (blk_lt hkq)) 1 rfl, blk_cell (blk_keep hkq hb (blk_lt hkq)) 2 rfl, blk_cell (blk_keep hkq hb (blk_lt hkq)) 3 rfl, hb⟩ : uu.cell? ⟨G, 0, none⟩ = some (.int .i64 pv) ∧ uu.cell? ⟨G, 1, none⟩ = some (.slice pa1 p1.length pk1) ∧ uu.cell? ⟨G, 2, none⟩ = some (.slice pa2 p2.length pk2) ∧ uu.cell? ⟨G, 3, none⟩ = some (.slice pa3 p3.length pk3) ∧ uu.cell? ⟨G + 1, 0, none⟩ = some (.int .i64 qv) ∧ uu.cell? ⟨G + 1, 1, none⟩ = some (.slice qa1 q1.length qk1) ∧ uu.cell? ⟨G + 1, 2, none⟩ = some (.slice qa2 q2.length qk2) ∧ uu.cell? ⟨G + 1, 3, none⟩ = some (.slice qa3 q3.length qk3) ∧ Below W6.heap.size W6 uu))
              have hD14 := (r6).drew
              refine wp_region_held_drew (S := fun uu => uu.cell? ⟨G, 0, none⟩ = some (.int .i64 pv) ∧ uu.cell? ⟨G, 1, none⟩ = some (.slice pa1 p1.length pk1) ∧ uu.cell? ⟨G, 2, none⟩ = some (.slice pa2 p2.length pk2) ∧ uu.cell? ⟨G, 3, none⟩ = some (.slice pa3 p3.length pk3) ∧ uu.cell? ⟨G + 1, 0, none⟩ = some (.int .i64 qv) ∧ uu.cell? ⟨G + 1, 1, none⟩ = some (.slice qa1 q1.length qk1) ∧ uu.cell? ⟨G + 1, 2, none⟩ = some (.slice qa2 q2.length qk2) ∧ uu.cell? ⟨G + 1, 3, none⟩ = some (.slice qa3 q3.length qk3) ∧ Below W6.heap.size W6 uu) (by kernel_rfl) (HC14.out _ hD14) (fun hHeld => ?_)
              refine wpAnyH_take (i := 0) (oi := ⟨some 65, _, _, _, _, _⟩) (v := ?_) rfl (by kernel_rfl) (by kernel_rfl) (by kernel_rfl) (fun _ _ _ h => h) (Or.inl ⟨by rfl, ?_⟩) (by assumption) ?_
              rotate_left
              · intro w hSw; (try dsimp only at hSw); go_simp <;> (with_reducible rfl)
              (try simp only [Act.put, List.setIfInBounds_toArray, List.set_cons_zero, List.set_cons_succ])
              refine wpAnyH_take (i := 1) (oi := ⟨some 66, _, _, _, _, _⟩) (v := ?_) rfl (by kernel_rfl) (by kernel_rfl) (by kernel_rfl) (fun _ _ _ h => h) (Or.inl ⟨by rfl, ?_⟩) (by assumption) ?_
              rotate_left
              · intro w hSw; (try dsimp only at hSw); go_simp <;> (with_reducible rfl)
              (try simp only [Act.put, List.setIfInBounds_toArray, List.set_cons_zero, List.set_cons_succ])
              refine wpAnyH_take (i := 2) (oi := ⟨some 67, _, _, _, _, _⟩) (v := ?_) rfl (by kernel_rfl) (by kernel_rfl) (by kernel_rfl) (fun _ _ _ h => h) (Or.inl ⟨by rfl, ?_⟩) (by assumption) ?_
              rotate_left
              · intro w hSw; (try dsimp only at hSw); go_simp <;> (with_reducible rfl)
              (try simp only [Act.put, List.setIfInBounds_toArray, List.set_cons_zero, List.set_cons_succ])
              refine wpAnyH_take (i := 3) (oi := ⟨some 68, _, _, _, _, _⟩) (v := ?_) rfl (by kernel_rfl) (by kernel_rfl) (by kernel_rfl) (fun _ _ _ h => h) (Or.inl ⟨by rfl, ?_⟩) (by assumption) ?_
              rotate_left
              · intro w hSw; (try dsimp only at hSw); go_simp <;> (with_reducible rfl)
              (try simp only [Act.put, List.setIfInBounds_toArray, List.set_cons_zero, List.set_cons_succ])
              refine wpAnyH_take (i := 4) (oi := ⟨some 69, _, _, _, _, _⟩) (v := ?_) rfl (by kernel_rfl) (by kernel_rfl) (by kernel_rfl) (fun _ _ _ h => h) (Or.inl ⟨by rfl, ?_⟩) (by assumption) ?_
              rotate_left
              · intro w hSw; (try dsimp only at hSw); go_simp <;> (with_reducible rfl)
              (try simp only [Act.put, List.setIfInBounds_toArray, List.set_cons_zero, List.set_cons_succ])
              refine wpAnyH_ready (rs := [5]) (by kernel_rfl) (by simp) ?_
              refine AllReadyH.cons (o := ⟨some 70, _, _, _, _, _⟩) rfl (fun K hK => ?_) AllReadyH.nil
              go_simp
              (with_reducible refine (CS.out _ (show Below W6.heap.size W6 _ by assumption)).mono ?_)
              rintro e70 u70 ⟨rfl, b70⟩
              have d70 : Below W6.heap.size W6 u70 := hD14.trans (b70.mono hD14.size)
              refine hK.out _ _ (HC14.out _ d70) (fun hHeld2 => ?_)
              clear hK K
              (try simp only [Act.put, List.setIfInBounds_toArray, List.set_cons_zero, List.set_cons_succ])
              refine wpAnyH_take (i := 6) (oi := ⟨some 71, _, _, _, _, _⟩) (v := ?_) rfl (by kernel_rfl) (by kernel_rfl) (by kernel_rfl) (fun _ _ _ h => h) (Or.inl ⟨by rfl, ?_⟩) (by assumption) ?_
              rotate_left
              · intro w hSw; (try dsimp only at hSw); go_simp <;> (with_reducible rfl)
              (try simp only [Act.put, List.setIfInBounds_toArray, List.set_cons_zero, List.set_cons_succ])
              refine wpAnyH_take (i := 7) (oi := ⟨some 72, _, _, _, _, _⟩) (v := ?_) rfl (by kernel_rfl) (by kernel_rfl) (by kernel_rfl) (fun _ _ _ h => h) (Or.inl ⟨by rfl, ?_⟩) (by assumption) ?_
              rotate_left
              · intro w hSw; (try dsimp only at hSw); go_simp <;> (with_reducible rfl)
              (try simp only [Act.put, List.setIfInBounds_toArray, List.set_cons_zero, List.set_cons_succ])
              refine wpAnyH_ready (rs := [8]) (by kernel_rfl) (by simp) ?_
              refine AllReadyH.cons (o := ⟨some 73, _, _, _, _, _⟩) rfl (fun K hK => ?_) AllReadyH.nil
              go_simp
              (with_reducible refine (CG.out _ (show Below W6.heap.size W6 _ by assumption)).mono ?_)
              rintro e73 u73 ⟨rfl, b73⟩
              have d73 : Below W6.heap.size W6 u73 := d70.trans (b73.mono d70.size)
              refine hK.out _ _ (HC14.out _ d73) (fun hHeld2 => ?_)
              clear hK K
              (try simp only [Act.put, List.setIfInBounds_toArray, List.set_cons_zero, List.set_cons_succ])
              refine wpAnyH_take (i := 9) (oi := ⟨some 74, _, _, _, _, _⟩) (v := ?_) rfl (by kernel_rfl) (by kernel_rfl) (by kernel_rfl) (fun _ _ _ h => h) (Or.inl ⟨by rfl, ?_⟩) (by assumption) ?_
              rotate_left
              · intro w hSw; (try dsimp only at hSw); go_simp <;> (with_reducible rfl)
              (try simp only [Act.put, List.setIfInBounds_toArray, List.set_cons_zero, List.set_cons_succ])
              refine wpAnyH_take (i := 10) (oi := ⟨some 75, _, _, _, _, _⟩) (v := ?_) rfl (by kernel_rfl) (by kernel_rfl) (by kernel_rfl) (fun _ _ _ h => h) (Or.inl ⟨by rfl, ?_⟩) (by assumption) ?_
              rotate_left
              · intro w hSw; (try dsimp only at hSw); go_simp <;> (with_reducible rfl)
              (try simp only [Act.put, List.setIfInBounds_toArray, List.set_cons_zero, List.set_cons_succ])
              refine wpAnyH_take (i := 11) (oi := ⟨some 76, _, _, _, _, _⟩) (v := undef) rfl (by kernel_rfl) (by kernel_rfl) (by kernel_rfl) (fun _ _ _ h => h) (.inr ⟨by rfl, rfl⟩) (by assumption) ?_
              (try simp only [Act.put, List.setIfInBounds_toArray, List.set_cons_zero, List.set_cons_succ])
              refine wpAnyH_take (i := 12) (oi := ⟨some 77, _, _, _, _, _⟩) (v := undef) rfl (by kernel_rfl) (by kernel_rfl) (by kernel_rfl) (fun _ _ _ h => h) (.inr ⟨by rfl, rfl⟩) (by assumption) ?_
              (try simp only [Act.put, List.setIfInBounds_toArray, List.set_cons_zero, List.set_cons_succ])
              refine wpAnyH_take (i := 13) (oi := ⟨some 78, _, _, _, _, _⟩) (v := undef) rfl (by kernel_rfl) (by kernel_rfl) (by kernel_rfl) (fun _ _ _ h => h) (.inr ⟨by rfl, rfl⟩) (by assumption) ?_
              (try simp only [Act.put, List.setIfInBounds_toArray, List.set_cons_zero, List.set_cons_succ])
              refine wpAnyH_take (i := 14) (oi := ⟨some 79, _, _, _, _, _⟩) (v := undef) rfl (by kernel_rfl) (by kernel_rfl) (by kernel_rfl) (fun _ _ _ h => h) (.inr ⟨by rfl, rfl⟩) (by assumption) ?_
              (try simp only [Act.put, List.setIfInBounds_toArray, List.set_cons_zero, List.set_cons_succ])
              refine wpAnyH_take (i := 15) (oi := ⟨some 80, _, _, _, _, _⟩) (v := undef) rfl (by kernel_rfl) (by kernel_rfl) (by kernel_rfl) (fun _ _ _ h => h) (.inr ⟨by rfl, rfl⟩) (by assumption) ?_
              (try simp only [Act.put, List.setIfInBounds_toArray, List.set_cons_zero, List.set_cons_succ])
              refine wpAnyH_take (i := 16) (oi := ⟨some 81, _, _, _, _, _⟩) (v := undef) rfl (by kernel_rfl) (by kernel_rfl) (by kernel_rfl) (fun _ _ _ h => h) (.inr ⟨by rfl, rfl⟩) (by assumption) ?_
              (try simp only [Act.put, List.setIfInBounds_toArray, List.set_cons_zero, List.set_cons_succ])
              refine wpAnyH_take (i := 17) (oi := ⟨some 82, _, _, _, _, _⟩) (v := undef) rfl (by kernel_rfl) (by kernel_rfl) (by kernel_rfl) (fun _ _ _ h => h) (.inr ⟨by rfl, rfl⟩) (by assumption) ?_
              (try simp only [Act.put, List.setIfInBounds_toArray, List.set_cons_zero, List.set_cons_succ])
              refine wpAnyH_take (i := 18) (oi := ⟨some 83, _, _, _, _, _⟩) (v := ?_) rfl (by kernel_rfl) (by kernel_rfl) (by kernel_rfl) (fun _ _ _ h => h) (Or.inl ⟨by rfl, ?_⟩) (by assumption) ?_
              rotate_left
              · intro w hSw; (try dsimp only at hSw); go_simp <;> (with_reducible rfl)
              (try simp only [Act.put, List.setIfInBounds_toArray, List.set_cons_zero, List.set_cons_succ])
              refine wpAnyH_take (i := 19) (oi := ⟨some 84, _, _, _, _, _⟩) (v := ?_) rfl (by kernel_rfl) (by kernel_rfl) (by kernel_rfl) (fun _ _ _ h => h) (Or.inl ⟨by rfl, ?_⟩) (by assumption) ?_
              rotate_left
              · intro w hSw; (try dsimp only at hSw); go_simp <;> (with_reducible rfl)
              (try simp only [Act.put, List.setIfInBounds_toArray, List.set_cons_zero, List.set_cons_succ])
              refine wpAnyH_done (by kernel_rfl) ?_ _
              go_wp2
              go_meet
              exact ⟨rfl, Lib.hid d73⟩
            · have hle := HSL.out rfl rfl
              have hd := decide_eq_false (show ¬ nq < np by omega)
              have HC14 := Lib.hid (fun (uu : World) (hb : Below W6.heap.size W6 uu) => (⟨blk_cell (blk_keep hkp hb (blk_lt hkp)) 0 rfl, blk_cell (blk_keep hkp hb (blk_lt hkp)) 1 rfl, blk_cell (blk_keep hkp hb (blk_lt hkp)) 2 rfl, blk_cell (blk_keep hkp hb (blk_lt hkp)) 3 rfl, blk_cell (blk_keep hkq hb (blk_lt hkq)) 0 rfl, blk_cell (blk_keep hkq hb (blk_lt hkq)) 1 rfl, blk_cell (blk_keep hkq hb (blk_lt hkq)) 2 rfl, blk_cell (blk_keep hkq hb (blk_lt hkq)) 3 rfl, hb⟩ : uu.cell? ⟨G, 0, none⟩ = some (.int .i64 pv) ∧ uu.cell? ⟨G, 1, none⟩ = some (.slice pa1 p1.length pk1) ∧ uu.cell? ⟨G, 2, none⟩ = some (.slice pa2 p2.length pk2) ∧ uu.cell? ⟨G, 3, none⟩ = some (.slice pa3 p3.length pk3) ∧ uu.cell? ⟨G + 1, 0, none⟩ = some (.int .i64 qv) ∧ uu.cell? ⟨G + 1, 1, none⟩ = some (.slice qa1 q1.length qk1) ∧ uu.cell? ⟨G + 1, 2, none⟩ = some (.slice qa2 q2.length qk2) ∧ uu.cell? ⟨G + 1, 3, none⟩ = some (.slice qa3 q3.length qk3) ∧ Below W6.heap.size W6 uu))
              have hD14 := (r6).drew
              refine wp_region_held_drew (S := fun uu => uu.cell? ⟨G, 0, none⟩ = some (.int .i64 pv) ∧ uu.cell? ⟨G, 1, none⟩ = some (.slice pa1 p1.length pk1) ∧ uu.cell? ⟨G, 2, none⟩ = some (.slice pa2 p2.length pk2) ∧ uu.cell? ⟨G, 3, none⟩ = some (.slice pa3 p3.length pk3) ∧ uu.cell? ⟨G + 1, 0, none⟩ = some (.int .i64 qv) ∧ uu.cell? ⟨G + 1, 1, none⟩ = some (.slice qa1 q1.length qk1) ∧ uu.cell? ⟨G + 1, 2, none⟩ = some (.slice qa2 q2.length qk2) ∧ uu.cell? ⟨G + 1, 3, none⟩ = some (.slice qa3 q3.length qk3) ∧ Below W6.heap.size W6 uu) (by kernel_rfl) (HC14.out _ hD14) (fun hHeld => ?_)
              refine wpAnyH_take (i := 0) (oi := ⟨some 65, _, _, _, _, _⟩) (v := ?_) rfl (by kernel_rfl) (by kernel_rfl) (by kernel_rfl) (fun _ _ _ h => h) (Or.inl ⟨by rfl, ?_⟩) (by assumption) ?_
              rotate_left
              · intro w hSw; (try dsimp only at hSw); go_simp <;> (with_reducible rfl)
              (try simp only [Act.put, List.setIfInBounds_toArray, List.set_cons_zero, List.set_cons_succ])
              refine wpAnyH_take (i := 1) (oi := ⟨some 66, _, _, _, _, _⟩) (v := ?_) rfl (by kernel_rfl) (by kernel_rfl) (by kernel_rfl) (fun _ _ _ h => h) (Or.inl ⟨by rfl, ?_⟩) (by assumption) ?_
              rotate_left
              · intro w hSw; (try dsimp only at hSw); go_simp <;> (with_reducible rfl)
              (try simp only [Act.put, List.setIfInBounds_toArray, List.set_cons_zero, List.set_cons_succ])
              refine wpAnyH_take (i := 2) (oi := ⟨some 67, _, _, _, _, _⟩) (v := ?_) rfl (by kernel_rfl) (by kernel_rfl) (by kernel_rfl) (fun _ _ _ h => h) (Or.inl ⟨by rfl, ?_⟩) (by assumption) ?_
              rotate_left
              · intro w hSw; (try dsimp only at hSw); go_simp <;> (with_reducible rfl)
              (try simp only [Act.put, List.setIfInBounds_toArray, List.set_cons_zero, List.set_cons_succ])
              refine wpAnyH_take (i := 3) (oi := ⟨some 68, _, _, _, _, _⟩) (v := ?_) rfl (by kernel_rfl) (by kernel_rfl) (by kernel_rfl) (fun _ _ _ h => h) (Or.inl ⟨by rfl, ?_⟩) (by assumption) ?_
              rotate_left
              · intro w hSw; (try dsimp only at hSw); go_simp <;> (with_reducible rfl)
              (try simp only [Act.put, List.setIfInBounds_toArray, List.set_cons_zero, List.set_cons_succ])
              refine wpAnyH_take (i := 4) (oi := ⟨some 69, _, _, _, _, _⟩) (v := ?_) rfl (by kernel_rfl) (by kernel_rfl) (by kernel_rfl) (fun _ _ _ h => h) (Or.inl ⟨by rfl, ?_⟩) (by assumption) ?_
              rotate_left
              · intro w hSw; (try dsimp only at hSw); go_simp <;> (with_reducible rfl)
              (try simp only [Act.put, List.setIfInBounds_toArray, List.set_cons_zero, List.set_cons_succ])
              refine wpAnyH_ready (rs := [5]) (by kernel_rfl) (by simp) ?_
              refine AllReadyH.cons (o := ⟨some 70, _, _, _, _, _⟩) rfl (fun K hK => ?_) AllReadyH.nil
              go_simp
              (with_reducible refine (CS.out _ (show Below W6.heap.size W6 _ by assumption)).mono ?_)
              rintro e70 u70 ⟨rfl, b70⟩
              have d70 : Below W6.heap.size W6 u70 := hD14.trans (b70.mono hD14.size)
              refine hK.out _ _ (HC14.out _ d70) (fun hHeld2 => ?_)
              clear hK K
              (try simp only [Act.put, List.setIfInBounds_toArray, List.set_cons_zero, List.set_cons_succ])
              refine wpAnyH_take (i := 6) (oi := ⟨some 71, _, _, _, _, _⟩) (v := ?_) rfl (by kernel_rfl) (by kernel_rfl) (by kernel_rfl) (fun _ _ _ h => h) (Or.inl ⟨by rfl, ?_⟩) (by assumption) ?_
              rotate_left
              · intro w hSw; (try dsimp only at hSw); go_simp <;> (with_reducible rfl)
              (try simp only [Act.put, List.setIfInBounds_toArray, List.set_cons_zero, List.set_cons_succ])
              refine wpAnyH_take (i := 7) (oi := ⟨some 72, _, _, _, _, _⟩) (v := ?_) rfl (by kernel_rfl) (by kernel_rfl) (by kernel_rfl) (fun _ _ _ h => h) (Or.inl ⟨by rfl, ?_⟩) (by assumption) ?_
              rotate_left
              · intro w hSw; (try dsimp only at hSw); go_simp <;> (with_reducible rfl)
              (try simp only [Act.put, List.setIfInBounds_toArray, List.set_cons_zero, List.set_cons_succ])
              refine wpAnyH_ready (rs := [8]) (by kernel_rfl) (by simp) ?_
              refine AllReadyH.cons (o := ⟨some 73, _, _, _, _, _⟩) rfl (fun K hK => ?_) AllReadyH.nil
              go_simp
              (with_reducible refine (CG.out _ (show Below W6.heap.size W6 _ by assumption)).mono ?_)
              rintro e73 u73 ⟨rfl, b73⟩
              have d73 : Below W6.heap.size W6 u73 := d70.trans (b73.mono d70.size)
              refine hK.out _ _ (HC14.out _ d73) (fun hHeld2 => ?_)
              clear hK K
              (try simp only [Act.put, List.setIfInBounds_toArray, List.set_cons_zero, List.set_cons_succ])
              refine wpAnyH_take (i := 9) (oi := ⟨some 74, _, _, _, _, _⟩) (v := ?_) rfl (by kernel_rfl) (by kernel_rfl) (by kernel_rfl) (fun _ _ _ h => h) (Or.inl ⟨by rfl, ?_⟩) (by assumption) ?_
              rotate_left
              · intro w hSw; (try dsimp only at hSw); go_simp <;> (with_reducible rfl)
              (try simp only [Act.put, List.setIfInBounds_toArray, List.set_cons_zero, List.set_cons_succ])
              refine wpAnyH_take (i := 10) (oi := ⟨some 75, _, _, _, _, _⟩) (v := ?_) rfl (by kernel_rfl) (by kernel_rfl) (by kernel_rfl) (fun _ _ _ h => h) (Or.inl ⟨by rfl, ?_⟩) (by assumption) ?_
              rotate_left
              · intro w hSw; (try dsimp only at hSw); go_simp <;> (with_reducible rfl)
              (try simp only [Act.put, List.setIfInBounds_toArray, List.set_cons_zero, List.set_cons_succ])
              refine wpAnyH_take (i := 11) (oi := ⟨some 76, _, _, _, _, _⟩) (v := ?_) rfl (by kernel_rfl) (by kernel_rfl) (by kernel_rfl) (fun _ _ _ h => h) (Or.inl ⟨by rfl, ?_⟩) (by assumption) ?_
              rotate_left
              · intro w hSw; (try dsimp only at hSw); go_simp <;> (with_reducible rfl)
              (try simp only [Act.put, List.setIfInBounds_toArray, List.set_cons_zero, List.set_cons_succ])
              refine wpAnyH_take (i := 12) (oi := ⟨some 77, _, _, _, _, _⟩) (v := ?_) rfl (by kernel_rfl) (by kernel_rfl) (by kernel_rfl) (fun _ _ _ h => h) (Or.inl ⟨by rfl, ?_⟩) (by assumption) ?_
              rotate_left
              · intro w hSw; (try dsimp only at hSw); go_simp <;> (with_reducible rfl)
              (try simp only [Act.put, List.setIfInBounds_toArray, List.set_cons_zero, List.set_cons_succ])
              refine wpAnyH_take (i := 14) (oi := ⟨some 79, _, _, _, _, _⟩) (v := ?_) rfl (by kernel_rfl) (by kernel_rfl) (by kernel_rfl) (fun _ _ _ h => h) (Or.inl ⟨by rfl, ?_⟩) (by assumption) ?_
              rotate_left
              · intro w hSw; (try dsimp only at hSw); go_simp <;> (with_reducible rfl)
              (try simp only [Act.put, List.setIfInBounds_toArray, List.set_cons_zero, List.set_cons_succ])
              refine wpAnyH_take (i := 15) (oi := ⟨some 80, _, _, _, _, _⟩) (v := ?_) rfl (by kernel_rfl) (by kernel_rfl) (by kernel_rfl) (fun _ _ _ h => h) (Or.inl ⟨by rfl, ?_⟩) (by assumption) ?_
              rotate_left
              · intro w hSw; (try dsimp only at hSw); go_simp <;> (with_reducible rfl)
              (try simp only [Act.put, List.setIfInBounds_toArray, List.set_cons_zero, List.set_cons_succ])
              refine wpAnyH_ready (rs := [13]) (by kernel_rfl) (by simp) ?_
              refine AllReadyH.cons (o := ⟨some 78, _, _, _, _, _⟩) rfl (fun K hK => ?_) AllReadyH.nil
              go_simp
              (with_reducible refine (CP.out _ (show Below W6.heap.size W6 _ by assumption)).mono ?_)
              rintro e78 u78 ⟨rfl, b78⟩
              have d78 : Below W6.heap.size W6 u78 := d73.trans (b78.mono d73.size)
              refine hK.out _ _ (HC14.out _ d78) (fun hHeld2 => ?_)
              clear hK K
              (try simp only [Act.put, List.setIfInBounds_toArray, List.set_cons_zero, List.set_cons_succ])
              refine wpAnyH_ready (rs := [16]) (by kernel_rfl) (by simp) ?_
              refine AllReadyH.cons (o := ⟨some 81, _, _, _, _, _⟩) rfl (fun K hK => ?_) AllReadyH.nil
              go_simp
              (with_reducible refine (CQ.out _ (show Below W6.heap.size W6 _ by assumption)).mono ?_)
              rintro e81 u81 ⟨rfl, b81⟩
              have d81 : Below W6.heap.size W6 u81 := d78.trans (b81.mono d78.size)
              refine hK.out _ _ (HC14.out _ d81) (fun hHeld2 => ?_)
              clear hK K
              (try simp only [Act.put, List.setIfInBounds_toArray, List.set_cons_zero, List.set_cons_succ])
              refine wpAnyH_take (i := 17) (oi := ⟨some 82, _, _, _, _, _⟩) (v := ?_) rfl (by kernel_rfl) (by kernel_rfl) (by kernel_rfl) (fun _ _ _ h => h) (Or.inl ⟨by rfl, ?_⟩) (by assumption) ?_
              rotate_left
              · intro w hSw; (try dsimp only at hSw); go_simp <;> (with_reducible rfl)
              (try simp only [Act.put, List.setIfInBounds_toArray, List.set_cons_zero, List.set_cons_succ])
              refine wpAnyH_take (i := 18) (oi := ⟨some 83, _, _, _, _, _⟩) (v := ?_) rfl (by kernel_rfl) (by kernel_rfl) (by kernel_rfl) (fun _ _ _ h => h) (Or.inl ⟨by rfl, ?_⟩) (by assumption) ?_
              rotate_left
              · intro w hSw; (try dsimp only at hSw); go_simp <;> (with_reducible rfl)
              (try simp only [Act.put, List.setIfInBounds_toArray, List.set_cons_zero, List.set_cons_succ])
              refine wpAnyH_take (i := 19) (oi := ⟨some 84, _, _, _, _, _⟩) (v := ?_) rfl (by kernel_rfl) (by kernel_rfl) (by kernel_rfl) (fun _ _ _ h => h) (Or.inl ⟨by rfl, ?_⟩) (by assumption) ?_
              rotate_left
              · intro w hSw; (try dsimp only at hSw); go_simp <;> (with_reducible rfl)
              (try simp only [Act.put, List.setIfInBounds_toArray, List.set_cons_zero, List.set_cons_succ])
              refine wpAnyH_done (by kernel_rfl) ?_ _
              go_wp2
              go_meet
              exact ⟨by first | rfl | simp [hd], Lib.hid d81⟩
        case rest =>
        obtain ⟨rfl, hcut⟩ := hcut
        have d7 := hcut.out
        clear hcut HSL CS CG CP CQ
        have D7 := D6.trans (d7.mono D6.size)
        go_wp2_with fail
        refine (draw_healthFact wc a0 len0 cap0 z0 (w0.below D7)).mono ?_
        rintro e w8 ⟨y, ys, ky, h, hu, hs, nn, now, sp, hkw, hhw, hnw, hnow, hspw, rfl, hy, hhr, hhl, b8⟩
        obtain ⟨h0, h1, h2, h3, h4⟩ := h
        rw [QuoteD.val_mk]
        obtain ⟨yv, y1, y2, y3⟩ := y
        obtain ⟨ya1, yk1, ya2, yk2, ya3, yk3, rfl, -⟩ := allowed_in hy.2
        obtain ⟨ha, hk, rfl, -⟩ := id hhr.form
        have d8 := d7.trans (b8.mono d7.size)
        go_upto_region 17 with fail
        obtain ⟨W9, hW9⟩ : ∃ W9, W9 = (w8.alloc (.cells #[.int .i64 yv, .slice ya1 y1.length yk1, .slice ya2 y2.length yk2, .slice ya3 y3.length yk3] 26)).alloc (.cells #[.int .i64 h0, .int .i64 h1, .int .i64 h2, .int .i64 h3, .int .i64 h4] 36) := ⟨_, rfl⟩
        rw [← hW9]
        have b9 : Below w8.heap.size w8 W9 := by rw [hW9]; go_grown
        have hky : W9.heap[w8.heap.size]? = some (.cells #[.int .i64 yv, .slice ya1 y1.length yk1, .slice ya2 y2.length yk2, .slice ya3 y3.length yk3] 26) := by rw [hW9]; exact blk_keep (C := w8.heap.size + 1) (blk_new _ _ _) (by go_grown) (by omega)
        have hkh : W9.heap[w8.heap.size + 1]? = some (.cells #[.int .i64 h0, .int .i64 h1, .int .i64 h2, .int .i64 h3, .int .i64 h4] 36) := by rw [hW9]; exact blk_new_at (w := w8.alloc (.cells #[.int .i64 yv, .slice ya1 y1.length yk1, .slice ya2 y2.length yk2, .slice ya3 y3.length yk3] 26)) _ _ (by simp)
        clear hW9
        have hy9 := hy.below b9
        have hrow9 := hhr.below b9 (Nat.le_refl _)
        have hl9 := b9.size
        have d9 := d8.trans (b9.mono d8.size)
        have D9 := D6.trans (d9.mono D6.size)
        have CH := impl_healthFact W9 W9.heap.size w8.heap.size hk ha ⟨yv, y1, y2, y3⟩ _ ky nn now sp ⟨h0, h1, h2, h3, h4⟩ hs hy9.2 hrow9 (Nat.le_refl _) hl9 hkw hhw hnw (by omega) (HL.out.kept D9)
        have CL2 := Lib.hid (fun (W : World) (hW : Below W9.heap.size W9 W) => show Calls Tryd.prog 6 #[.agg #[.int .i64 yv, .slice ya1 y1.length yk1, .slice ya2 y2.length yk2, .slice ya3 y3.length yk3], .slice ha hs.length hk] W _ from impl_appraiseLog W W9.heap.size w8.heap.size hk ha ⟨yv, y1, y2, y3⟩ _ hs (hy9.2.below hW (Nat.le_refl _)) (hrow9.below hW hl9) hW.size (Nat.le_trans hl9 hW.size))
        have HHO := Lib.hid (fun h => health_ok (a := ⟨yv, y1, y2, y3⟩) (key := ky) (q := ⟨h0, h1, h2, h3, h4⟩) (log := hs) (nonce := nn) (now := now) (span := sp) h)
        have HHH := Lib.hid (fun h => health_holds (a := ⟨yv, y1, y2, y3⟩) (key := ky) (q := ⟨h0, h1, h2, h3, h4⟩) (log := hs) (nonce := nn) (now := now) (span := sp) h)
        generalize healthF ⟨yv, y1, y2, y3⟩ ky ⟨h0, h1, h2, h3, h4⟩ hs nn now sp = ff at CH HHO HHH
        generalize okH ⟨yv, y1, y2, y3⟩ ky ⟨h0, h1, h2, h3, h4⟩ hs nn now sp = okh at CH HHO HHH
        generalize logA ⟨yv, y1, y2, y3⟩ hs = ny at CL2 HHO
        obtain ⟨t0, t1, t2, t3, t4, t5⟩ := ff
        rw [FactD.val_mk, QuoteD.val_mk] at CH
        generalize hH : w8.heap.size = H at hky hkh ⊢
        clear hH hy hy9 hrow9 hhr b8 b9 hkw hhw hnw hspw d8
        obtain ⟨⟨c0, c1, c2, c3⟩, -⟩ := cls_4 hky
        obtain ⟨⟨e0, e1, e2, e3, e4⟩, -⟩ := cls_5 hkh
        go_wp2_with fail
        refine CH.mono ?_
        rintro e w10 ⟨rfl, b10⟩
        clear c0 c1 c2 c3 e0 e1 e2 e3 e4 CH
        obtain ⟨W11, hW11⟩ : ∃ W11, W11 = w10.alloc (.cells #[.int .i64 t0, .int .i64 t1, .int .i64 t2, .int .i64 t3, .int .i64 t4, .int .i64 t5] 40) := ⟨_, rfl⟩
        have b11 : Below w10.heap.size w10 W11 := by rw [hW11]; exact (Below.refl _ _).alloc (Nat.le_refl _) _
        have hkf : W11.heap[w10.heap.size]? = some (.cells #[.int .i64 t0, .int .i64 t1, .int .i64 t2, .int .i64 t3, .int .i64 t4, .int .i64 t5] 40) := by rw [hW11]; exact blk_new _ _ _
        have c11 := b10.trans (b11.mono b10.size)
        have hky11 := blk_keep hky c11 (blk_lt hky)
        have hkh11 := blk_keep hkh c11 (blk_lt hkh)
        have d11 := d9.trans (c11.mono d9.size)
        go_upto_region 18 with fail
        rw [← hW11]
        clear hW11
        generalize hK9 : w10.heap.size = K9 at hkf ⊢
        clear hK9 b10 b11
        have CL3 := Lib.hid (fun (W : World) (hW : Below W11.heap.size W11 W) => CL2.out W (c11.trans (hW.mono c11.size)))
        have r11 := Below.refl W11.heap.size W11
        go_cut [127] (fun c wx => c = .bool false ∧ Hid (Below W11.heap.size W11 wx))
        case first =>
          cases okh
          · skip
            have HC18 := Lib.hid (fun (uu : World) (hb : Below W11.heap.size W11 uu) => (hb : Below W11.heap.size W11 uu))
            have hD18 := (r11).drew
            refine wp_region_held_drew (S := fun uu => Below W11.heap.size W11 uu) (by kernel_rfl) (HC18.out _ hD18) (fun hHeld => ?_)
            refine wpAnyH_take (i := 0) (oi := ⟨some 106, _, _, _, _, _⟩) (v := ?_) rfl (by kernel_rfl) (by kernel_rfl) (by kernel_rfl) (fun _ _ _ h => h) (Or.inl ⟨by rfl, ?_⟩) (by assumption) ?_
            rotate_left
            · intro w hSw; (try dsimp only at hSw); go_simp <;> (with_reducible rfl)
            (try simp only [Act.put, List.setIfInBounds_toArray, List.set_cons_zero, List.set_cons_succ])
            refine wpAnyH_take (i := 1) (oi := ⟨some 107, _, _, _, _, _⟩) (v := ?_) rfl (by kernel_rfl) (by kernel_rfl) (by kernel_rfl) (fun _ _ _ h => h) (Or.inl ⟨by rfl, ?_⟩) (by assumption) ?_
            rotate_left
            · intro w hSw; (try dsimp only at hSw); go_simp <;> (with_reducible rfl)
            (try simp only [Act.put, List.setIfInBounds_toArray, List.set_cons_zero, List.set_cons_succ])
            refine wpAnyH_take (i := 2) (oi := ⟨some 108, _, _, _, _, _⟩) (v := undef) rfl (by kernel_rfl) (by kernel_rfl) (by kernel_rfl) (fun _ _ _ h => h) (.inr ⟨by rfl, rfl⟩) (by assumption) ?_
            (try simp only [Act.put, List.setIfInBounds_toArray, List.set_cons_zero, List.set_cons_succ])
            refine wpAnyH_take (i := 3) (oi := ⟨some 109, _, _, _, _, _⟩) (v := undef) rfl (by kernel_rfl) (by kernel_rfl) (by kernel_rfl) (fun _ _ _ h => h) (.inr ⟨by rfl, rfl⟩) (by assumption) ?_
            (try simp only [Act.put, List.setIfInBounds_toArray, List.set_cons_zero, List.set_cons_succ])
            refine wpAnyH_take (i := 4) (oi := ⟨some 110, _, _, _, _, _⟩) (v := undef) rfl (by kernel_rfl) (by kernel_rfl) (by kernel_rfl) (fun _ _ _ h => h) (.inr ⟨by rfl, rfl⟩) (by assumption) ?_
            (try simp only [Act.put, List.setIfInBounds_toArray, List.set_cons_zero, List.set_cons_succ])
            refine wpAnyH_take (i := 5) (oi := ⟨some 111, _, _, _, _, _⟩) (v := undef) rfl (by kernel_rfl) (by kernel_rfl) (by kernel_rfl) (fun _ _ _ h => h) (.inr ⟨by rfl, rfl⟩) (by assumption) ?_
            (try simp only [Act.put, List.setIfInBounds_toArray, List.set_cons_zero, List.set_cons_succ])
            refine wpAnyH_take (i := 6) (oi := ⟨some 112, _, _, _, _, _⟩) (v := undef) rfl (by kernel_rfl) (by kernel_rfl) (by kernel_rfl) (fun _ _ _ h => h) (.inr ⟨by rfl, rfl⟩) (by assumption) ?_
            (try simp only [Act.put, List.setIfInBounds_toArray, List.set_cons_zero, List.set_cons_succ])
            refine wpAnyH_take (i := 7) (oi := ⟨some 113, _, _, _, _, _⟩) (v := undef) rfl (by kernel_rfl) (by kernel_rfl) (by kernel_rfl) (fun _ _ _ h => h) (.inr ⟨by rfl, rfl⟩) (by assumption) ?_
            (try simp only [Act.put, List.setIfInBounds_toArray, List.set_cons_zero, List.set_cons_succ])
            refine wpAnyH_take (i := 8) (oi := ⟨some 114, _, _, _, _, _⟩) (v := undef) rfl (by kernel_rfl) (by kernel_rfl) (by kernel_rfl) (fun _ _ _ h => h) (.inr ⟨by rfl, rfl⟩) (by assumption) ?_
            (try simp only [Act.put, List.setIfInBounds_toArray, List.set_cons_zero, List.set_cons_succ])
            refine wpAnyH_take (i := 9) (oi := ⟨some 115, _, _, _, _, _⟩) (v := undef) rfl (by kernel_rfl) (by kernel_rfl) (by kernel_rfl) (fun _ _ _ h => h) (.inr ⟨by rfl, rfl⟩) (by assumption) ?_
            (try simp only [Act.put, List.setIfInBounds_toArray, List.set_cons_zero, List.set_cons_succ])
            refine wpAnyH_take (i := 10) (oi := ⟨some 116, _, _, _, _, _⟩) (v := undef) rfl (by kernel_rfl) (by kernel_rfl) (by kernel_rfl) (fun _ _ _ h => h) (.inr ⟨by rfl, rfl⟩) (by assumption) ?_
            (try simp only [Act.put, List.setIfInBounds_toArray, List.set_cons_zero, List.set_cons_succ])
            refine wpAnyH_take (i := 11) (oi := ⟨some 117, _, _, _, _, _⟩) (v := undef) rfl (by kernel_rfl) (by kernel_rfl) (by kernel_rfl) (fun _ _ _ h => h) (.inr ⟨by rfl, rfl⟩) (by assumption) ?_
            (try simp only [Act.put, List.setIfInBounds_toArray, List.set_cons_zero, List.set_cons_succ])
            refine wpAnyH_take (i := 12) (oi := ⟨some 118, _, _, _, _, _⟩) (v := undef) rfl (by kernel_rfl) (by kernel_rfl) (by kernel_rfl) (fun _ _ _ h => h) (.inr ⟨by rfl, rfl⟩) (by assumption) ?_
            (try simp only [Act.put, List.setIfInBounds_toArray, List.set_cons_zero, List.set_cons_succ])
            refine wpAnyH_take (i := 13) (oi := ⟨some 119, _, _, _, _, _⟩) (v := undef) rfl (by kernel_rfl) (by kernel_rfl) (by kernel_rfl) (fun _ _ _ h => h) (.inr ⟨by rfl, rfl⟩) (by assumption) ?_
            (try simp only [Act.put, List.setIfInBounds_toArray, List.set_cons_zero, List.set_cons_succ])
            refine wpAnyH_take (i := 14) (oi := ⟨some 120, _, _, _, _, _⟩) (v := undef) rfl (by kernel_rfl) (by kernel_rfl) (by kernel_rfl) (fun _ _ _ h => h) (.inr ⟨by rfl, rfl⟩) (by assumption) ?_
            (try simp only [Act.put, List.setIfInBounds_toArray, List.set_cons_zero, List.set_cons_succ])
            refine wpAnyH_take (i := 15) (oi := ⟨some 121, _, _, _, _, _⟩) (v := undef) rfl (by kernel_rfl) (by kernel_rfl) (by kernel_rfl) (fun _ _ _ h => h) (.inr ⟨by rfl, rfl⟩) (by assumption) ?_
            (try simp only [Act.put, List.setIfInBounds_toArray, List.set_cons_zero, List.set_cons_succ])
            refine wpAnyH_take (i := 16) (oi := ⟨some 122, _, _, _, _, _⟩) (v := undef) rfl (by kernel_rfl) (by kernel_rfl) (by kernel_rfl) (fun _ _ _ h => h) (.inr ⟨by rfl, rfl⟩) (by assumption) ?_
            (try simp only [Act.put, List.setIfInBounds_toArray, List.set_cons_zero, List.set_cons_succ])
            refine wpAnyH_take (i := 17) (oi := ⟨some 123, _, _, _, _, _⟩) (v := undef) rfl (by kernel_rfl) (by kernel_rfl) (by kernel_rfl) (fun _ _ _ h => h) (.inr ⟨by rfl, rfl⟩) (by assumption) ?_
            (try simp only [Act.put, List.setIfInBounds_toArray, List.set_cons_zero, List.set_cons_succ])
            refine wpAnyH_take (i := 18) (oi := ⟨some 124, _, _, _, _, _⟩) (v := undef) rfl (by kernel_rfl) (by kernel_rfl) (by kernel_rfl) (fun _ _ _ h => h) (.inr ⟨by rfl, rfl⟩) (by assumption) ?_
            (try simp only [Act.put, List.setIfInBounds_toArray, List.set_cons_zero, List.set_cons_succ])
            refine wpAnyH_take (i := 19) (oi := ⟨some 125, _, _, _, _, _⟩) (v := undef) rfl (by kernel_rfl) (by kernel_rfl) (by kernel_rfl) (fun _ _ _ h => h) (.inr ⟨by rfl, rfl⟩) (by assumption) ?_
            (try simp only [Act.put, List.setIfInBounds_toArray, List.set_cons_zero, List.set_cons_succ])
            refine wpAnyH_take (i := 20) (oi := ⟨some 126, _, _, _, _, _⟩) (v := undef) rfl (by kernel_rfl) (by kernel_rfl) (by kernel_rfl) (fun _ _ _ h => h) (.inr ⟨by rfl, rfl⟩) (by assumption) ?_
            (try simp only [Act.put, List.setIfInBounds_toArray, List.set_cons_zero, List.set_cons_succ])
            refine wpAnyH_take (i := 21) (oi := ⟨some 127, _, _, _, _, _⟩) (v := ?_) rfl (by kernel_rfl) (by kernel_rfl) (by kernel_rfl) (fun _ _ _ h => h) (Or.inl ⟨by rfl, ?_⟩) (by assumption) ?_
            rotate_left
            · intro w hSw; (try dsimp only at hSw); go_simp <;> (with_reducible rfl)
            (try simp only [Act.put, List.setIfInBounds_toArray, List.set_cons_zero, List.set_cons_succ])
            refine wpAnyH_done (by kernel_rfl) ?_ _
            go_wp2
            go_meet
            exact ⟨rfl, Lib.hid hD18⟩
          · have hff := HHO.out rfl
            injection hff with f0' f1' f2' f3' f4' f5'
            have CHo := Lib.hid (fun (W : World) => impl_holds ⟨t0, t1, t2, t3, t4, t5⟩ now 0 W)
            rw [HHH.out rfl] at CHo
            simp only [FactD.val_mk] at CHo
            (try dsimp only at f1')
            generalize endOf now sp = en at f5'
            subst f0' f1' f2' f3' f4' f5'
            have n1 : (t2 == t2) = true := beq_self_eq_true _
            have n2 : (t1 == t1) = true := beq_self_eq_true _
            have n3 : (t2 != t2) = false := by simp
            have n4 : (t1 != t1) = false := by simp
            have HC18 := Lib.hid (fun (uu : World) (hb : Below W11.heap.size W11 uu) => (⟨blk_cell (blk_keep hky11 hb (blk_lt hky11)) 0 rfl, blk_cell (blk_keep hky11 hb (blk_lt hky11)) 1 rfl, blk_cell (blk_keep hky11 hb (blk_lt hky11)) 2 rfl, blk_cell (blk_keep hky11 hb (blk_lt hky11)) 3 rfl, blk_cell (blk_keep hkh11 hb (blk_lt hkh11)) 0 rfl, blk_cell (blk_keep hkh11 hb (blk_lt hkh11)) 1 rfl, blk_cell (blk_keep hkh11 hb (blk_lt hkh11)) 2 rfl, blk_cell (blk_keep hkh11 hb (blk_lt hkh11)) 3 rfl, blk_cell (blk_keep hkh11 hb (blk_lt hkh11)) 4 rfl, blk_cell (blk_keep hkf hb (blk_lt hkf)) 0 rfl, blk_cell (blk_keep hkf hb (blk_lt hkf)) 1 rfl, blk_cell (blk_keep hkf hb (blk_lt hkf)) 2 rfl, blk_cell (blk_keep hkf hb (blk_lt hkf)) 3 rfl, blk_cell (blk_keep hkf hb (blk_lt hkf)) 4 rfl, blk_cell (blk_keep hkf hb (blk_lt hkf)) 5 rfl, hb⟩ : uu.cell? ⟨H, 0, none⟩ = some (.int .i64 yv) ∧ uu.cell? ⟨H, 1, none⟩ = some (.slice ya1 y1.length yk1) ∧ uu.cell? ⟨H, 2, none⟩ = some (.slice ya2 y2.length yk2) ∧ uu.cell? ⟨H, 3, none⟩ = some (.slice ya3 y3.length yk3) ∧ uu.cell? ⟨H + 1, 0, none⟩ = some (.int .i64 t1) ∧ uu.cell? ⟨H + 1, 1, none⟩ = some (.int .i64 h1) ∧ uu.cell? ⟨H + 1, 2, none⟩ = some (.int .i64 h2) ∧ uu.cell? ⟨H + 1, 3, none⟩ = some (.int .i64 h3) ∧ uu.cell? ⟨H + 1, 4, none⟩ = some (.int .i64 h4) ∧ uu.cell? ⟨K9, 0, none⟩ = some (.int .i64 3) ∧ uu.cell? ⟨K9, 1, none⟩ = some (.int .i64 t1) ∧ uu.cell? ⟨K9, 2, none⟩ = some (.int .i64 t2) ∧ uu.cell? ⟨K9, 3, none⟩ = some (.int .i64 1) ∧ uu.cell? ⟨K9, 4, none⟩ = some (.int .i64 t4) ∧ uu.cell? ⟨K9, 5, none⟩ = some (.int .i64 t5) ∧ Below W11.heap.size W11 uu))
            have hD18 := (r11).drew
            refine wp_region_held_drew (S := fun uu => uu.cell? ⟨H, 0, none⟩ = some (.int .i64 yv) ∧ uu.cell? ⟨H, 1, none⟩ = some (.slice ya1 y1.length yk1) ∧ uu.cell? ⟨H, 2, none⟩ = some (.slice ya2 y2.length yk2) ∧ uu.cell? ⟨H, 3, none⟩ = some (.slice ya3 y3.length yk3) ∧ uu.cell? ⟨H + 1, 0, none⟩ = some (.int .i64 t1) ∧ uu.cell? ⟨H + 1, 1, none⟩ = some (.int .i64 h1) ∧ uu.cell? ⟨H + 1, 2, none⟩ = some (.int .i64 h2) ∧ uu.cell? ⟨H + 1, 3, none⟩ = some (.int .i64 h3) ∧ uu.cell? ⟨H + 1, 4, none⟩ = some (.int .i64 h4) ∧ uu.cell? ⟨K9, 0, none⟩ = some (.int .i64 3) ∧ uu.cell? ⟨K9, 1, none⟩ = some (.int .i64 t1) ∧ uu.cell? ⟨K9, 2, none⟩ = some (.int .i64 t2) ∧ uu.cell? ⟨K9, 3, none⟩ = some (.int .i64 1) ∧ uu.cell? ⟨K9, 4, none⟩ = some (.int .i64 t4) ∧ uu.cell? ⟨K9, 5, none⟩ = some (.int .i64 t5) ∧ Below W11.heap.size W11 uu) (by kernel_rfl) (HC18.out _ hD18) (fun hHeld => ?_)
            refine wpAnyH_take (i := 0) (oi := ⟨some 106, _, _, _, _, _⟩) (v := ?_) rfl (by kernel_rfl) (by kernel_rfl) (by kernel_rfl) (fun _ _ _ h => h) (Or.inl ⟨by rfl, ?_⟩) (by assumption) ?_
            rotate_left
            · intro w hSw; (try dsimp only at hSw); go_simp <;> (with_reducible rfl)
            (try simp only [Act.put, List.setIfInBounds_toArray, List.set_cons_zero, List.set_cons_succ])
            refine wpAnyH_take (i := 1) (oi := ⟨some 107, _, _, _, _, _⟩) (v := ?_) rfl (by kernel_rfl) (by kernel_rfl) (by kernel_rfl) (fun _ _ _ h => h) (Or.inl ⟨by rfl, ?_⟩) (by assumption) ?_
            rotate_left
            · intro w hSw; (try dsimp only at hSw); go_simp <;> (with_reducible rfl)
            (try simp only [Act.put, List.setIfInBounds_toArray, List.set_cons_zero, List.set_cons_succ])
            refine wpAnyH_take (i := 2) (oi := ⟨some 108, _, _, _, _, _⟩) (v := ?_) rfl (by kernel_rfl) (by kernel_rfl) (by kernel_rfl) (fun _ _ _ h => h) (Or.inl ⟨by rfl, ?_⟩) (by assumption) ?_
            rotate_left
            · intro w hSw; (try dsimp only at hSw); go_simp <;> (with_reducible rfl)
            (try simp only [Act.put, List.setIfInBounds_toArray, List.set_cons_zero, List.set_cons_succ])
            refine wpAnyH_take (i := 3) (oi := ⟨some 109, _, _, _, _, _⟩) (v := ?_) rfl (by kernel_rfl) (by kernel_rfl) (by kernel_rfl) (fun _ _ _ h => h) (Or.inl ⟨by rfl, ?_⟩) (by assumption) ?_
            rotate_left
            · intro w hSw; (try dsimp only at hSw); go_simp <;> (with_reducible rfl)
            (try simp only [Act.put, List.setIfInBounds_toArray, List.set_cons_zero, List.set_cons_succ])
            refine wpAnyH_take (i := 4) (oi := ⟨some 110, _, _, _, _, _⟩) (v := ?_) rfl (by kernel_rfl) (by kernel_rfl) (by kernel_rfl) (fun _ _ _ h => h) (Or.inl ⟨by rfl, ?_⟩) (by assumption) ?_
            rotate_left
            · intro w hSw; (try dsimp only at hSw); go_simp <;> (with_reducible rfl)
            (try simp only [Act.put, List.setIfInBounds_toArray, List.set_cons_zero, List.set_cons_succ])
            refine wpAnyH_take (i := 5) (oi := ⟨some 111, _, _, _, _, _⟩) (v := ?_) rfl (by kernel_rfl) (by kernel_rfl) (by kernel_rfl) (fun _ _ _ h => h) (Or.inl ⟨by rfl, ?_⟩) (by assumption) ?_
            rotate_left
            · intro w hSw; (try dsimp only at hSw); go_simp <;> (with_reducible rfl)
            (try simp only [Act.put, List.setIfInBounds_toArray, List.set_cons_zero, List.set_cons_succ])
            refine wpAnyH_ready (rs := [6]) (by kernel_rfl) (by simp) ?_
            refine AllReadyH.cons (o := ⟨some 112, _, _, _, _, _⟩) rfl (fun K hK => ?_) AllReadyH.nil
            go_simp
            (with_reducible refine (CL3.out _ (show Below W11.heap.size W11 _ by assumption)).mono ?_)
            rintro e112 u112 ⟨rfl, b112⟩
            have d112 : Below W11.heap.size W11 u112 := hD18.trans (b112.mono hD18.size)
            refine hK.out _ _ (HC18.out _ d112) (fun hHeld2 => ?_)
            clear hK K
            (try simp only [Act.put, List.setIfInBounds_toArray, List.set_cons_zero, List.set_cons_succ])
            refine wpAnyH_take (i := 7) (oi := ⟨some 113, _, _, _, _, _⟩) (v := ?_) rfl (by kernel_rfl) (by kernel_rfl) (by kernel_rfl) (fun _ _ _ h => h) (Or.inl ⟨by rfl, ?_⟩) (by assumption) ?_
            rotate_left
            · intro w hSw; (try dsimp only at hSw); go_simp <;> (with_reducible rfl)
            (try simp only [Act.put, List.setIfInBounds_toArray, List.set_cons_zero, List.set_cons_succ])
            refine wpAnyH_take (i := 8) (oi := ⟨some 114, _, _, _, _, _⟩) (v := ?_) rfl (by kernel_rfl) (by kernel_rfl) (by kernel_rfl) (fun _ _ _ h => h) (Or.inl ⟨by rfl, ?_⟩) (by assumption) ?_
            rotate_left
            · intro w hSw; (try dsimp only at hSw); go_simp <;> (with_reducible rfl)
            (try simp only [Act.put, List.setIfInBounds_toArray, List.set_cons_zero, List.set_cons_succ])
            refine wpAnyH_take (i := 9) (oi := ⟨some 115, _, _, _, _, _⟩) (v := ?_) rfl (by kernel_rfl) (by kernel_rfl) (by kernel_rfl) (fun _ _ _ h => h) (Or.inl ⟨by rfl, ?_⟩) (by assumption) ?_
            rotate_left
            · intro w hSw; (try dsimp only at hSw); go_simp <;> (with_reducible rfl)
            (try simp only [Act.put, List.setIfInBounds_toArray, List.set_cons_zero, List.set_cons_succ])
            refine wpAnyH_take (i := 10) (oi := ⟨some 116, _, _, _, _, _⟩) (v := ?_) rfl (by kernel_rfl) (by kernel_rfl) (by kernel_rfl) (fun _ _ _ h => h) (Or.inl ⟨by rfl, ?_⟩) (by assumption) ?_
            rotate_left
            · intro w hSw; (try dsimp only at hSw); go_simp <;> (with_reducible rfl)
            (try simp only [Act.put, List.setIfInBounds_toArray, List.set_cons_zero, List.set_cons_succ])
            refine wpAnyH_take (i := 11) (oi := ⟨some 117, _, _, _, _, _⟩) (v := ?_) rfl (by kernel_rfl) (by kernel_rfl) (by kernel_rfl) (fun _ _ _ h => h) (Or.inl ⟨by rfl, ?_⟩) (by assumption) ?_
            rotate_left
            · intro w hSw; (try dsimp only at hSw); go_simp <;> (with_reducible rfl)
            (try simp only [Act.put, List.setIfInBounds_toArray, List.set_cons_zero, List.set_cons_succ])
            refine wpAnyH_take (i := 12) (oi := ⟨some 118, _, _, _, _, _⟩) (v := ?_) rfl (by kernel_rfl) (by kernel_rfl) (by kernel_rfl) (fun _ _ _ h => h) (Or.inl ⟨by rfl, ?_⟩) (by assumption) ?_
            rotate_left
            · intro w hSw; (try dsimp only at hSw); go_simp <;> (with_reducible rfl)
            (try simp only [Act.put, List.setIfInBounds_toArray, List.set_cons_zero, List.set_cons_succ])
            refine wpAnyH_take (i := 13) (oi := ⟨some 119, _, _, _, _, _⟩) (v := ?_) rfl (by kernel_rfl) (by kernel_rfl) (by kernel_rfl) (fun _ _ _ h => h) (Or.inl ⟨by rfl, ?_⟩) (by assumption) ?_
            rotate_left
            · intro w hSw; (try dsimp only at hSw); go_simp <;> (with_reducible rfl)
            (try simp only [Act.put, List.setIfInBounds_toArray, List.set_cons_zero, List.set_cons_succ])
            refine wpAnyH_take (i := 14) (oi := ⟨some 120, _, _, _, _, _⟩) (v := ?_) rfl (by kernel_rfl) (by kernel_rfl) (by kernel_rfl) (fun _ _ _ h => h) (Or.inl ⟨by rfl, ?_⟩) (by assumption) ?_
            rotate_left
            · intro w hSw; (try dsimp only at hSw); go_simp <;> (with_reducible rfl)
            (try simp only [Act.put, List.setIfInBounds_toArray, List.set_cons_zero, List.set_cons_succ])
            refine wpAnyH_take (i := 15) (oi := ⟨some 121, _, _, _, _, _⟩) (v := ?_) rfl (by kernel_rfl) (by kernel_rfl) (by kernel_rfl) (fun _ _ _ h => h) (Or.inl ⟨by rfl, ?_⟩) (by assumption) ?_
            rotate_left
            · intro w hSw; (try dsimp only at hSw); go_simp <;> (with_reducible rfl)
            (try simp only [Act.put, List.setIfInBounds_toArray, List.set_cons_zero, List.set_cons_succ])
            refine wpAnyH_take (i := 16) (oi := ⟨some 122, _, _, _, _, _⟩) (v := ?_) rfl (by kernel_rfl) (by kernel_rfl) (by kernel_rfl) (fun _ _ _ h => h) (Or.inl ⟨by rfl, ?_⟩) (by assumption) ?_
            rotate_left
            · intro w hSw; (try dsimp only at hSw); go_simp <;> (with_reducible rfl)
            (try simp only [Act.put, List.setIfInBounds_toArray, List.set_cons_zero, List.set_cons_succ])
            refine wpAnyH_take (i := 17) (oi := ⟨some 123, _, _, _, _, _⟩) (v := ?_) rfl (by kernel_rfl) (by kernel_rfl) (by kernel_rfl) (fun _ _ _ h => h) (Or.inl ⟨by rfl, ?_⟩) (by assumption) ?_
            rotate_left
            · intro w hSw; (try dsimp only at hSw); go_simp <;> (with_reducible rfl)
            (try simp only [Act.put, List.setIfInBounds_toArray, List.set_cons_zero, List.set_cons_succ])
            refine wpAnyH_ready (rs := [18]) (by kernel_rfl) (by simp) ?_
            refine AllReadyH.cons (o := ⟨some 124, _, _, _, _, _⟩) rfl (fun K hK => ?_) AllReadyH.nil
            go_simp
            (with_reducible refine (CHo.out _).mono ?_)
            rintro e124 u124 ⟨rfl, b124⟩
            have d124 : Below W11.heap.size W11 u124 := d112.trans (b124.mono d112.size)
            refine hK.out _ _ (HC18.out _ d124) (fun hHeld2 => ?_)
            clear hK K
            (try simp only [Act.put, List.setIfInBounds_toArray, List.set_cons_zero, List.set_cons_succ])
            refine wpAnyH_take (i := 19) (oi := ⟨some 125, _, _, _, _, _⟩) (v := ?_) rfl (by kernel_rfl) (by kernel_rfl) (by kernel_rfl) (fun _ _ _ h => h) (Or.inl ⟨by rfl, ?_⟩) (by assumption) ?_
            rotate_left
            · intro w hSw; (try dsimp only at hSw); go_simp <;> (with_reducible rfl)
            (try simp only [Act.put, List.setIfInBounds_toArray, List.set_cons_zero, List.set_cons_succ])
            refine wpAnyH_take (i := 20) (oi := ⟨some 126, _, _, _, _, _⟩) (v := ?_) rfl (by kernel_rfl) (by kernel_rfl) (by kernel_rfl) (fun _ _ _ h => h) (Or.inl ⟨by rfl, ?_⟩) (by assumption) ?_
            rotate_left
            · intro w hSw; (try dsimp only at hSw); go_simp <;> (with_reducible rfl)
            (try simp only [Act.put, List.setIfInBounds_toArray, List.set_cons_zero, List.set_cons_succ])
            refine wpAnyH_take (i := 21) (oi := ⟨some 127, _, _, _, _, _⟩) (v := ?_) rfl (by kernel_rfl) (by kernel_rfl) (by kernel_rfl) (fun _ _ _ h => h) (Or.inl ⟨by rfl, ?_⟩) (by assumption) ?_
            rotate_left
            · intro w hSw; (try dsimp only at hSw); go_simp <;> (with_reducible rfl)
            (try simp only [Act.put, List.setIfInBounds_toArray, List.set_cons_zero, List.set_cons_succ])
            refine wpAnyH_done (by kernel_rfl) ?_ _
            go_wp2
            go_meet
            exact ⟨by first | rfl | simp, Lib.hid d124⟩
        case rest =>
        obtain ⟨rfl, hcut⟩ := hcut
        have d12 := d11.trans (hcut.out.mono d11.size)
        clear hcut HHO HHH CL2 CL3 hky hkh hkf hky11 hkh11 c11 r11 d9 d11
        have hkp12 := blk_keep hkp d12 (blk_lt hkp)
        have hkq12 := blk_keep hkq d12 (blk_lt hkq)
        obtain ⟨⟨c0, c1, c2, c3⟩, -⟩ := cls_4 hkp12
        obtain ⟨⟨e0, e1, e2, e3⟩, -⟩ := cls_4 hkq12
        obtain ⟨rv, r1, r2, r3⟩ := R
        go_wp2_with fail
        refine (CR.out _ d12).mono ?_
        rintro e w13 ⟨ur, fr, rfl, how, -, -, b13⟩
        obtain ⟨m1, m2, m3, f1, f2, f3, rfl, -, hrvw, ow1, ow2, ow3⟩ := AllowedD.ow how
        obtain ⟨ra1, rk1, rfl, -⟩ := owC.form ow1
        obtain ⟨ra2, rk2, rfl, -⟩ := owC.form ow2
        obtain ⟨ra3, rk3, rfl, -⟩ := owC.form ow3
        have d13 := d12.trans (b13.mono d12.size)
        obtain ⟨W14, hW14⟩ : ∃ W14, W14 = w13.alloc (.cells #[.int .i64 rv, .slice ra1 r1.length rk1, .slice ra2 r2.length rk2, .slice ra3 r3.length rk3] 26) := ⟨_, rfl⟩
        have b14 : Below w13.heap.size w13 W14 := by rw [hW14]; exact (Below.refl _ _).alloc (Nat.le_refl _) _
        have hkr : W14.heap[w13.heap.size]? = some (.cells #[.int .i64 rv, .slice ra1 r1.length rk1, .slice ra2 r2.length rk2, .slice ra3 r3.length rk3] 26) := by rw [hW14]; exact blk_new _ _ _
        have d14 := d13.trans (b14.mono d13.size)
        have hkp14 := blk_keep hkp d14 (blk_lt hkp)
        have hkq14 := blk_keep hkq d14 (blk_lt hkq)
        clear c0 c1 c2 c3 e0 e1 e2 e3 how ow1 ow2 ow3 CR b13
        go_upto_region 21 with fail
        rw [← hW14]
        generalize hM : w13.heap.size = M at hkr ⊢
        clear hW14 hM b14
        obtain ⟨⟨e0, e1, e2, e3⟩, -⟩ := cls_4 hkq14
        go_wp2_with fail
        refine (CA.out _ d14).mono ?_
        rintro e w15 ⟨rfl, b15⟩
        have d15 := d14.trans (b15.mono d14.size)
        clear e0 e1 e2 e3 CA
        obtain ⟨⟨c0, c1, c2, c3⟩, -⟩ := cls_4 (blk_keep hkp d15 (blk_lt hkp))
        obtain ⟨⟨e0, e1, e2, e3⟩, -⟩ := cls_4 (blk_keep hkq d15 (blk_lt hkq))
        obtain ⟨⟨g0, g1', g2', g3'⟩, -⟩ := cls_4 (blk_keep hkr b15 (blk_lt hkr))
        (try dsimp only at HRV)
        have hv1 : decide (pv ≤ rv) = true := decide_eq_true HRV
        have D15 := D6.trans (d15.mono D6.size)
        cases ab
        · go_wp2
          go_ret
          exact ⟨by first | rfl | simp [hv1], D15⟩
        · by_cases hpq : pv < qv
          · have hd1 : decide (pv < qv) = true := decide_eq_true hpq
            go_wp2
            go_ret
            exact ⟨by first | rfl | simp [hv1, hd1], D15⟩
          · have hd1 : decide (pv < qv) = false := decide_eq_false hpq
            go_wp2
            go_ret
            exact ⟨by first | rfl | simp [hv1, hd1], D15⟩
  · go_enter Tryd.func3, Tryd.ntmps3
    go_wp2_with (go_at_call 4; go_in)
    go_ret
    exact ⟨rfl, Below.refl _ _⟩

def laidL : List (String × DataW Unit) := [("loop.example/g00594/impl.errNoKey", Rows.laid_loop_example_g00594_impl_errNoKey)]
theorem door_met (os : Os) (args : Array Value) : laidMetH Tryd.prog laidL ((World.doorLaid Tryd.prog 400 os).forCall (fun _ _ => 0) ⟨#[], args, []⟩).memory :=
  laidMetH_of_parts3 (fuel := 8) (laidMet_of_run' 8 (by kernel_rfl) (by kernel_rfl)) (by kernel_rfl) (by kernel_rfl)
set_option maxRecDepth 100000 in
theorem lifted (os : Os) (started : os.Started) (H : Type) (enc : TypeId × Value → H) :
    ReturnsInHanded {} Tryd.checked os 3 .any (fun w args => (Rows.fnAppraisalSpec.pre enc Tryd.prog Tryd.f3 [] false w args ∧ laidMetH Tryd.prog laidL w) ∧ sizedMet enc Tryd.prog Tryd.f3 (OpenSpec.ofChange Rows.fnAppraisalSpec) false w args)
      (Rows.fnAppraisalSpec.post enc Tryd.prog Tryd.f3 false true false false) := by
  refine returnsInHanded_of_change_and (C := Tryd.checked) (X := fun w _ => laidMetH Tryd.prog laidL w) (fun _ _ _ hh h => h.of_heap hh) own started (by kernel_rfl) Tryd.func3
    (ChangeSpec.witness_shaped (enc := enc) (C := Tryd.checked) (os := os) (X := fun w _ => laidMetH Tryd.prog laidL w) false (World.doorLaid Tryd.prog 400 os) #[.slice none 0 0] 8 rfl (World.shaped_of_RefB (by kernel_rfl) (by kernel_rfl)) (by kernel_rfl) (by kernel_rfl) (by kernel_rfl) (door_met os _)) ?_
  intro W base args ds gs before hval0 hW _ _ hL _
  have hval : ∀ (j : Nat) t v, Tryd.f3.params[j]? = some t → args[j]? = some v → Value.okWide Tryd.prog W .any base t v := hval0
  have hW' := hW
  obtain ⟨p, q, hA0, hV, rfl, hfz, hnd⟩ := hW
  have hA : DataW.TrodAll enc Tryd.prog W 0 (fun _ => true) true Tryd.f3.params.toList args.toList ds p := hA0
  rw [Tryd.params3] at hA hval
  obtain ⟨v0, vs0, d0, ds0, p0, q0, hargs, rfl, rfl, h0, r0⟩ := trodAll_cons hA
  obtain ⟨rfl, rfl, rfl⟩ := trodAll_nil r0
  obtain rfl : args = #[v0] := by cases args; simp_all
  have hV1 : DataW.TrodVars enc Tryd.prog W (fun _ => true) ["loop.example/g00594/impl.errNoKey"] gs q := hV
  have hvars := vars_tok (fun n hn => by
    simp only [List.mem_cons, List.not_mem_nil, or_false] at hn
    subst hn
    exact ⟨0, 93, _, by kernel_rfl, by kernel_rfl, Tryd.underlying93⟩) hV1
  obtain ⟨x0, y0, rfl, _, hV2⟩ := vars_cons hV1
  obtain ⟨rfl, _⟩ := trodVars_none hV2
  obtain ⟨a0, len0, cap0, rfl⟩ := okWide_slice Tryd.underlying22 (hval 0 22 v0 rfl rfl)
  have k0 := h0
  have lt0 : ∀ x ∈ p0, x.block < W.heap.size := by obtain ⟨m, hm⟩ := k0; exact DataW.trod_lt m _ _ _ hm
  obtain ⟨z0, w0⟩ : ∃ zs, IsRow .u8 W a0 len0 cap0 zs := by
    obtain ⟨fuel, hf⟩ := h0
    exact isRow_of Tryd.underlying22 Tryd.underlying5 (by kernel_rfl) hf
  clear hA0 hval0
  refine (walk a0 len0 cap0 z0 W w0 (key_of_laid (by rw [MakeChecks.laidMetH_plain _ _ _ (by kernel_rfl)] at hL; exact hL))).mono fun e W' ⟨he, bel⟩ => ?_
  subst he
  exact ⟨_, rfl, _, _, _, [], _, _, hW', trodAll_mk1 (shut_bool Tryd.underlying4 _), (trodAll_cons_mk (Below.trod laidOut (by kernel_rfl) (of_decide_eq_true (by kernel_rfl)) k0 bel lt0) trodAll_mk0), hvars W' bel _, bel.frame _, fun h => by cases h⟩

theorem over : Rows.fnAppraisalRow.holds Tryd.pinned (OpenSpec.ofChange Rows.fnAppraisalSpec) :=
  OpenClaim.holds_of_wide 3 Tryd.f3 rfl rfl rfl rfl rfl rfl rfl ⟨rfl, rfl, rfl, rfl, rfl⟩ rfl rfl rfl rfl rfl (by kernel_rfl) Tryd.func3 (by kernel_rfl)
    (of_decide_eq_true (by kernel_rfl)) (by unfold Func.isWrapper; first | (rw [if_pos (by decide +kernel)]; kernel_rfl) | (rw [if_neg (by decide +kernel)]; exact ⟨rfl, rfl⟩))
    (fun os started H enc _ => lifted os started H enc)

/-- for every input, a log is as good as its worst element, and stricter rules judge no log better. -/
theorem proved : Rows.FnAppraisalCardSaid :=
  Claim7.holds_tied_plain_at .later [] [.sentinel] true (true, "0592efe006d1ad42a82f27500408a1db8ff30398c1cb7916794a0ba0b6fa0ef7") true
    over (fun _ h => by cases h) (by kernel_rfl) (fun _ h => by cases h) fnAppraisal_row_tie rfl ⟨rfl, rfl⟩ (by kernel_rfl) rfl
    (fun f fn hf hfn => by
      obtain rfl : f = 3 := Option.some.inj ((show Tryd.prog.funcNamed "loop.example/g00594/laws.FnAppraisal" = some 3 by kernel_rfl).symm.trans hf) |>.symm
      obtain rfl : fn = Tryd.f3 := (Option.some.inj (Tryd.func3.symm.trans hfn)).symm
      exact ⟨by kernel_rfl, fun j t ht => by
      rw [Tryd.params3] at ht
      have hm : t ∈ [22] := by simpa using Array.mem_of_getElem? ht
      have hall : ([22].all fun u => !Tryd.prog.wantsStandIn u) = true := by kernel_rfl
      exact (show Tryd.prog.wantsStandIn t = false by simpa using List.all_eq_true.1 hall t hm)⟩)
    (by kernel_rfl)
#print axioms proved
end Go.Proofs.YtjfmmingkciapaaDoor.fnAppraisal
